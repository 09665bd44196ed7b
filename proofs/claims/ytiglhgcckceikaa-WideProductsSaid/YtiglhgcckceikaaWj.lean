/- Shl and Shr, by the program. -/
import Derived.Test.YtiglhgcckceikaaWi
import Derived.Test.YtiglhgcckceikaaWg4
import Derived.Test.YtiglhgcckceikaaWh4
namespace Go.Proofs.Ytiglhgcckceikaa
open Go.RowKit

theorem not_eqB_up (x : Int) (n : Nat) (hx : In 4 x) : (!eqB (dnI (upI x n % pw 4) n) x) = geB (upI x n) (pw 4) := by
  rw [eqB, geB]
  by_cases h : upI x n < pw 4
  · rw [decide_eq_true ((back_up x n hx).2 h), decide_eq_false (by omega)]; rfl
  · rw [decide_eq_false (fun e => h ((back_up x n hx).1 e)), decide_eq_true (by omega)]; rfl
theorem dnI_in (x : Int) (n : Nat) (h : In 4 x) : In 4 (dnI x n) := by
  refine ⟨Int.ediv_nonneg h.1 (Int.le_of_lt (p2_pos n)), Int.lt_of_le_of_lt (Int.ediv_le_self _ h.1) h.2⟩

set_option maxRecDepth 100000 in
set_option maxHeartbeats 400000 in
theorem shl4_fn (x m r : Int) (n : Nat) (w : World)
    (hup : ∀ w : World, Calls Try.prog 47 #[.agg #[.int .u64 (d x 0), .int .u64 (d x 1), .int .u64 (d x 2), .int .u64 (d x 3)], .int .u64 (n : Int)] w fun e w' => e = .returned (.agg #[.int .u64 (d m 0), .int .u64 (d m 1), .int .u64 (d m 2), .int .u64 (d m 3)]) ∧ Below w.heap.size w w')
    (hdn : ∀ w : World, Calls Try.prog 48 #[.agg #[.int .u64 (d m 0), .int .u64 (d m 1), .int .u64 (d m 2), .int .u64 (d m 3)], .int .u64 (n : Int)] w fun e w' => e = .returned (.agg #[.int .u64 (d r 0), .int .u64 (d r 1), .int .u64 (d r 2), .int .u64 (d r 3)]) ∧ Below w.heap.size w w')
    (heq : ∀ w, (Op.equalIn 10000 24 (.agg #[.int .u64 (d r 0), .int .u64 (d r 1), .int .u64 (d r 2), .int .u64 (d r 3)]) (.agg #[.int .u64 (d x 0), .int .u64 (d x 1), .int .u64 (d x 2), .int .u64 (d x 3)])).run Try.prog w = .ok (eqB r x) w) :
    Calls Try.prog 29 #[.agg #[.int .u64 (d x 0), .int .u64 (d x 1), .int .u64 (d x 2), .int .u64 (d x 3)], .int .u64 (n : Int)] w fun e w' => e = .returned (.tuple #[.agg #[.int .u64 (d m 0), .int .u64 (d m 1), .int .u64 (d m 2), .int .u64 (d m 3)], .bool (!eqB r x)]) ∧ Below w.heap.size w w' := by
  have HU := Lib.hid hup
  have HD := Lib.hid hdn
  clear hup hdn
  go_enter Try.func29, Try.ntmps29
  go_wp2_with (go_at_call 47; refine (HU.out _).mono ?_; rintro e w1 ⟨rfl, hb⟩)
  have ra := arow_alloc (.cells #[.int .u64 (d m 0), .int .u64 (d m 1), .int .u64 (d m 2), .int .u64 (d m 3)] 24) (arow_below (arow_alloc _ (arow_new w #[.int .u64 (d x 0), .int .u64 (d x 1), .int .u64 (d x 2), .int .u64 (d x 3)] 24)) hb (by simp; omega))
  have ro := arow_alloc (.cells #[.int .u64 (d m 0), .int .u64 (d m 1), .int .u64 (d m 2), .int .u64 (d m 3)] 24) (arow_below (arow_new (w.alloc (.cells #[.int .u64 (d x 0), .int .u64 (d x 1), .int .u64 (d x 2), .int .u64 (d x 3)] 24)) _ _) hb (by simp))
  have rm := arow_new w1 #[.int .u64 (d m 0), .int .u64 (d m 1), .int .u64 (d m 2), .int .u64 (d m 3)] 24
  rw [World.size_alloc] at ro
  have hz := hb.size
  simp only [World.size_alloc] at hz
  have hbq : Below w.heap.size w (w1.alloc (.cells #[.int .u64 (d m 0), .int .u64 (d m 1), .int .u64 (d m 2), .int .u64 (d m 3)] 24)) := ((below2' w _ _).trans (hb.mono (by simp; omega))).alloc (by omega) _
  have hzq : w1.heap.size < (w1.alloc (.cells #[.int .u64 (d m 0), .int .u64 (d m 1), .int .u64 (d m 2), .int .u64 (d m 3)] 24)).heap.size := by simp
  clear hb
  generalize (w1.alloc (.cells #[.int .u64 (d m 0), .int .u64 (d m 1), .int .u64 (d m 2), .int .u64 (d m 3)] 24)) = wq at *
  generalize w1.heap.size = M at *
  have RA := Lib.hid ra
  have RM := Lib.hid rm
  have RO := Lib.hid ro
  obtain ⟨a0, a1, a2, a3⟩ := cells4 ra
  obtain ⟨m0, m1, m2, m3⟩ := cells4 rm
  clear ra rm ro
  have n1 := Lib.hid (show w.heap.size + 1 ≠ w.heap.size by omega)
  have n2 := Lib.hid (show w.heap.size + 1 ≠ M by omega)
  have hz1 := Lib.hid (show w.heap.size < wq.heap.size by omega)
  have hz2 := Lib.hid (show M < wq.heap.size by omega)
  have hz3 := Lib.hid (show w.heap.size + 1 < wq.heap.size by omega)
  go_region_held3 (fun w' => w'.cell? ⟨w.heap.size, 0, none⟩ = some (.int .u64 (d x 0)) ∧ w'.cell? ⟨w.heap.size, 1, none⟩ = some (.int .u64 (d x 1)) ∧ w'.cell? ⟨w.heap.size, 2, none⟩ = some (.int .u64 (d x 2)) ∧ w'.cell? ⟨w.heap.size, 3, none⟩ = some (.int .u64 (d x 3)) ∧
      w'.cell? ⟨M, 0, none⟩ = some (.int .u64 (d m 0)) ∧ w'.cell? ⟨M, 1, none⟩ = some (.int .u64 (d m 1)) ∧ w'.cell? ⟨M, 2, none⟩ = some (.int .u64 (d m 2)) ∧ w'.cell? ⟨M, 3, none⟩ = some (.int .u64 (d m 3)))
    (((try simp only [World.cell?_drew]); first | (with_reducible exact cells44 RA.out RM.out) | (with_reducible exact cells44 hx1.out hx2.out) | (with_reducible exact cells44 (far4 n1.out hx1.out) (far4 n2.out hx2.out))))
    (first | (go_at_call 48; refine (HD.out _).mono ?_; rintro e w3 ⟨rfl, hb3⟩; have hx1 := Lib.hid (arow_below (w := wq.drew) RA.out hb3 hz1.out); have hx2 := Lib.hid (arow_below (w := wq.drew) RM.out hb3 hz2.out); have hx3 := arow_below (w := wq.drew) RO.out hb3 hz3.out; have hb4 : Below w.heap.size w w3 := hbq.drew.trans (hb3.mono (Nat.le_of_lt hz1.out)); obtain ⟨⟨z0, o0⟩, f0⟩ := out4 hx3 rfl 0 (by omega); obtain ⟨⟨z1, o1⟩, f1⟩ := out4 hx3 rfl 1 (by omega); obtain ⟨⟨z2, o2⟩, f2⟩ := out4 hx3 rfl 2 (by omega); obtain ⟨⟨z3, o3⟩, f3⟩ := out4 hx3 rfl 3 (by omega); clear hb3 hx3))
  go_wp2
  refine bodyPost_ret (v := .tuple #[.agg #[.int .u64 (d m 0), .int .u64 (d m 1), .int .u64 (d m 2), .int .u64 (d m 3)], .bool (!eqB r x)]) ?_ rfl ⟨rfl, ?_⟩
  · simp [results, Try.results29, go_sem, *]
  · have hN : w.heap.size ≤ w.heap.size + 1 := by omega
    exact (((hb4.setCell hN _).setCell hN _).setCell hN _).setCell hN _

set_option maxRecDepth 100000 in
set_option maxHeartbeats 400000 in
theorem shr4_fn (x m r : Int) (n : Nat) (w : World)
    (hup : ∀ w : World, Calls Try.prog 48 #[.agg #[.int .u64 (d x 0), .int .u64 (d x 1), .int .u64 (d x 2), .int .u64 (d x 3)], .int .u64 (n : Int)] w fun e w' => e = .returned (.agg #[.int .u64 (d m 0), .int .u64 (d m 1), .int .u64 (d m 2), .int .u64 (d m 3)]) ∧ Below w.heap.size w w')
    (hdn : ∀ w : World, Calls Try.prog 47 #[.agg #[.int .u64 (d m 0), .int .u64 (d m 1), .int .u64 (d m 2), .int .u64 (d m 3)], .int .u64 (n : Int)] w fun e w' => e = .returned (.agg #[.int .u64 (d r 0), .int .u64 (d r 1), .int .u64 (d r 2), .int .u64 (d r 3)]) ∧ Below w.heap.size w w')
    (heq : ∀ w, (Op.equalIn 10000 24 (.agg #[.int .u64 (d r 0), .int .u64 (d r 1), .int .u64 (d r 2), .int .u64 (d r 3)]) (.agg #[.int .u64 (d x 0), .int .u64 (d x 1), .int .u64 (d x 2), .int .u64 (d x 3)])).run Try.prog w = .ok (eqB r x) w) :
    Calls Try.prog 30 #[.agg #[.int .u64 (d x 0), .int .u64 (d x 1), .int .u64 (d x 2), .int .u64 (d x 3)], .int .u64 (n : Int)] w fun e w' => e = .returned (.tuple #[.agg #[.int .u64 (d m 0), .int .u64 (d m 1), .int .u64 (d m 2), .int .u64 (d m 3)], .bool (!eqB r x)]) ∧ Below w.heap.size w w' := by
  have HU := Lib.hid hup
  have HD := Lib.hid hdn
  clear hup hdn
  go_enter Try.func30, Try.ntmps30
  go_wp2_with (go_at_call 48; refine (HU.out _).mono ?_; rintro e w1 ⟨rfl, hb⟩)
  have ra := arow_alloc (.cells #[.int .u64 (d m 0), .int .u64 (d m 1), .int .u64 (d m 2), .int .u64 (d m 3)] 24) (arow_below (arow_alloc _ (arow_new w #[.int .u64 (d x 0), .int .u64 (d x 1), .int .u64 (d x 2), .int .u64 (d x 3)] 24)) hb (by simp; omega))
  have ro := arow_alloc (.cells #[.int .u64 (d m 0), .int .u64 (d m 1), .int .u64 (d m 2), .int .u64 (d m 3)] 24) (arow_below (arow_new (w.alloc (.cells #[.int .u64 (d x 0), .int .u64 (d x 1), .int .u64 (d x 2), .int .u64 (d x 3)] 24)) _ _) hb (by simp))
  have rm := arow_new w1 #[.int .u64 (d m 0), .int .u64 (d m 1), .int .u64 (d m 2), .int .u64 (d m 3)] 24
  rw [World.size_alloc] at ro
  have hz := hb.size
  simp only [World.size_alloc] at hz
  have hbq : Below w.heap.size w (w1.alloc (.cells #[.int .u64 (d m 0), .int .u64 (d m 1), .int .u64 (d m 2), .int .u64 (d m 3)] 24)) := ((below2' w _ _).trans (hb.mono (by simp; omega))).alloc (by omega) _
  have hzq : w1.heap.size < (w1.alloc (.cells #[.int .u64 (d m 0), .int .u64 (d m 1), .int .u64 (d m 2), .int .u64 (d m 3)] 24)).heap.size := by simp
  clear hb
  generalize (w1.alloc (.cells #[.int .u64 (d m 0), .int .u64 (d m 1), .int .u64 (d m 2), .int .u64 (d m 3)] 24)) = wq at *
  generalize w1.heap.size = M at *
  have RA := Lib.hid ra
  have RM := Lib.hid rm
  have RO := Lib.hid ro
  obtain ⟨a0, a1, a2, a3⟩ := cells4 ra
  obtain ⟨m0, m1, m2, m3⟩ := cells4 rm
  clear ra rm ro
  have n1 := Lib.hid (show w.heap.size + 1 ≠ w.heap.size by omega)
  have n2 := Lib.hid (show w.heap.size + 1 ≠ M by omega)
  have hz1 := Lib.hid (show w.heap.size < wq.heap.size by omega)
  have hz2 := Lib.hid (show M < wq.heap.size by omega)
  have hz3 := Lib.hid (show w.heap.size + 1 < wq.heap.size by omega)
  go_region_held3 (fun w' => w'.cell? ⟨w.heap.size, 0, none⟩ = some (.int .u64 (d x 0)) ∧ w'.cell? ⟨w.heap.size, 1, none⟩ = some (.int .u64 (d x 1)) ∧ w'.cell? ⟨w.heap.size, 2, none⟩ = some (.int .u64 (d x 2)) ∧ w'.cell? ⟨w.heap.size, 3, none⟩ = some (.int .u64 (d x 3)) ∧
      w'.cell? ⟨M, 0, none⟩ = some (.int .u64 (d m 0)) ∧ w'.cell? ⟨M, 1, none⟩ = some (.int .u64 (d m 1)) ∧ w'.cell? ⟨M, 2, none⟩ = some (.int .u64 (d m 2)) ∧ w'.cell? ⟨M, 3, none⟩ = some (.int .u64 (d m 3)))
    (((try simp only [World.cell?_drew]); first | (with_reducible exact cells44 RA.out RM.out) | (with_reducible exact cells44 hx1.out hx2.out) | (with_reducible exact cells44 (far4 n1.out hx1.out) (far4 n2.out hx2.out))))
    (first | (go_at_call 47; refine (HD.out _).mono ?_; rintro e w3 ⟨rfl, hb3⟩; have hx1 := Lib.hid (arow_below (w := wq.drew) RA.out hb3 hz1.out); have hx2 := Lib.hid (arow_below (w := wq.drew) RM.out hb3 hz2.out); have hx3 := arow_below (w := wq.drew) RO.out hb3 hz3.out; have hb4 : Below w.heap.size w w3 := hbq.drew.trans (hb3.mono (Nat.le_of_lt hz1.out)); obtain ⟨⟨z0, o0⟩, f0⟩ := out4 hx3 rfl 0 (by omega); obtain ⟨⟨z1, o1⟩, f1⟩ := out4 hx3 rfl 1 (by omega); obtain ⟨⟨z2, o2⟩, f2⟩ := out4 hx3 rfl 2 (by omega); obtain ⟨⟨z3, o3⟩, f3⟩ := out4 hx3 rfl 3 (by omega); clear hb3 hx3))
  go_wp2
  refine bodyPost_ret (v := .tuple #[.agg #[.int .u64 (d m 0), .int .u64 (d m 1), .int .u64 (d m 2), .int .u64 (d m 3)], .bool (!eqB r x)]) ?_ rfl ⟨rfl, ?_⟩
  · simp [results, Try.results30, go_sem, *]
  · have hN : w.heap.size ≤ w.heap.size + 1 := by omega
    exact (((hb4.setCell hN _).setCell hN _).setCell hN _).setCell hN _

theorem shl4_any (A : Array Value) (x : Int) (n : Nat) (w : World) (hA : A = #[.int .u64 (d x 0), .int .u64 (d x 1), .int .u64 (d x 2), .int .u64 (d x 3)]) (hx : In 4 x) (hn : n < 1000) :
    Calls Try.prog 29 #[.agg A, .int .u64 (n : Int)] w fun e w' => e = .returned (.tuple #[.agg #[.int .u64 (d (upI x n) 0), .int .u64 (d (upI x n) 1), .int .u64 (d (upI x n) 2), .int .u64 (d (upI x n) 3)], .bool (geB (upI x n) (pw 4))]) ∧ Below w.heap.size w w' := by
  subst hA
  have h := shl4_fn x (upI x n % pw 4) (dnI (upI x n % pw 4) n) n w
    (fun w => by have := up4_any _ x n w rfl hn; rw [Q4_mod (upI x n)] at this; exact this) (fun w => down4_any _ _ n w rfl (In.mod 4 _) hn) (eqQ4 _ _ (dnI_in _ n (In.mod 4 _)) hx)
  rw [not_eqB_up x n hx, ← Q4_mod] at h
  exact h
/-- did bits fall out below? -/
def lostB (x : Int) (n : Nat) : Bool := decide (x % 2 ^ n ≠ 0)
theorem not_eqB_dn (x : Int) (n : Nat) : (!eqB (upI (dnI x n) n) x) = lostB x n := by
  rw [eqB, lostB]
  by_cases h : x % 2 ^ n = 0
  · rw [decide_eq_true ((back_down x n).2 h), decide_eq_false (fun c => c h)]; rfl
  · rw [decide_eq_false (fun e => h ((back_down x n).1 e)), decide_eq_true h]; rfl
theorem upI_dnI_in (x : Int) (n : Nat) (h : In 4 x) : In 4 (upI (dnI x n) n) := by
  refine ⟨upI_nonneg _ n (dnI_in x n h).1, Int.lt_of_le_of_lt ?_ h.2⟩
  exact Int.ediv_mul_le _ (Int.ne_of_gt (p2_pos n))
theorem shr4_any (A : Array Value) (x : Int) (n : Nat) (w : World) (hA : A = #[.int .u64 (d x 0), .int .u64 (d x 1), .int .u64 (d x 2), .int .u64 (d x 3)]) (hx : In 4 x) (hn : n < 1000) :
    Calls Try.prog 30 #[.agg A, .int .u64 (n : Int)] w fun e w' => e = .returned (.tuple #[.agg #[.int .u64 (d (dnI x n) 0), .int .u64 (d (dnI x n) 1), .int .u64 (d (dnI x n) 2), .int .u64 (d (dnI x n) 3)], .bool (lostB x n)]) ∧ Below w.heap.size w w' := by
  subst hA
  have h := shr4_fn x (dnI x n) (upI (dnI x n) n) n w
    (fun w => down4_any _ x n w rfl hx hn) (fun w => up4_any _ (dnI x n) n w rfl hn) (eqQ4 _ _ (upI_dnI_in x n hx) hx)
  rw [not_eqB_dn x n] at h
  exact h
end Go.Proofs.Ytiglhgcckceikaa
