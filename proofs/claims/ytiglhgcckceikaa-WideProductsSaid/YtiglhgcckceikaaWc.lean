/- Add, Sub, Cmp, BitLen and Low of numbers of limbs, by the program: what the numbers say. -/
import Derived.Test.YtiglhgcckceikaaWb2
import Derived.Test.YtiglhgcckceikaaWb4
import Derived.Test.YtiglhgcckceikaaWb8
namespace Go.Proofs.Ytiglhgcckceikaa
open Go.RowKit

/-- tests, kept from the walk -/
def geB (z p : Int) : Bool := decide (p ≤ z)
def ltB (x y : Int) : Bool := decide (x < y)
/-- a number of n limbs -/
def In (n : Nat) (x : Int) : Prop := 0 ≤ x ∧ x < pw n
theorem In.d (n : Nat) (x : Int) : ∀ i < n, 0 ≤ d x i ∧ d x i < 18446744073709551616 := fun i _ => ⟨d_lo x i, d_hi x i⟩
theorem In.sm {n : Nat} {x : Int} (h : In n x) : sm (Go.Proofs.Ytiglhgcckceikaa.d x) n = x := by rw [sm_d, Int.emod_eq_of_lt h.1 h.2]

theorem bcell {W w1 : World} (hb : Below W.heap.size W w1) : (∀ b o, b < W.heap.size → w1.cell? ⟨b, o, none⟩ = W.cell? ⟨b, o, none⟩) ∧ (∀ b o, b < W.heap.size → w1.frozen? ⟨b, o, none⟩ = W.frozen? ⟨b, o, none⟩) :=
  ⟨fun b o h => hb.cell (p := ⟨b, o, none⟩) h, fun b o h => hb.frozen (p := ⟨b, o, none⟩) h⟩

theorem over_add (n : Nat) (x y : Int) (hx : In n x) (hy : In n y) : (sg false (cy (fun i => Go.Proofs.Ytiglhgcckceikaa.d x i + Go.Proofs.Ytiglhgcckceikaa.d y i) n) != 0) = geB (x + y) (pw n) := by
  have hp := pw_pos n
  rw [cy, sm_add, hx.sm, hy.sm, geB, sg]
  obtain ⟨x1, x2⟩ := hx
  obtain ⟨y1, y2⟩ := hy
  by_cases h : pw n ≤ x + y
  · have e : (x + y) / pw n = 1 := by
      have h1 : 1 ≤ (x + y) / pw n := Int.le_ediv_of_mul_le hp (by omega)
      have h2 : (x + y) / pw n < 2 := Int.ediv_lt_of_lt_mul hp (by omega)
      omega
    rw [e, decide_eq_true h]; rfl
  · rw [Int.ediv_eq_zero_of_lt (by omega) (by omega), decide_eq_false h]; rfl
theorem over_sub (n : Nat) (x y : Int) (hx : In n x) (hy : In n y) : (sg true (cy (fun i => Go.Proofs.Ytiglhgcckceikaa.d x i - Go.Proofs.Ytiglhgcckceikaa.d y i) n) != 0) = ltB x y := by
  have hp := pw_pos n
  rw [cy, sm_sub, hx.sm, hy.sm, ltB, sg]
  obtain ⟨x1, x2⟩ := hx
  obtain ⟨y1, y2⟩ := hy
  by_cases h : x < y
  · have e : (x - y) / pw n = -1 := by
      have h1 : -1 ≤ (x - y) / pw n := Int.le_ediv_of_mul_le hp (by omega)
      have h2 : (x - y) / pw n < 0 := Int.ediv_lt_of_lt_mul hp (by omega)
      omega
    rw [e, decide_eq_true h]; rfl
  · rw [Int.ediv_eq_zero_of_lt (by omega) (by omega), decide_eq_false h]; rfl

theorem limb2_add (A B : Array Value) (x y : Int) (w : World) (hA : A = #[.int .u64 (d x 0), .int .u64 (d x 1)]) (hB : B = #[.int .u64 (d y 0), .int .u64 (d y 1)]) (hx : In 2 x) (hy : In 2 y) :
    Calls Try.prog 43 #[.agg A, .agg B, .func (.func 34) #[] #[]] w fun e w' => e = .returned (.tuple #[.agg #[.int .u64 (d (x + y) 0), .int .u64 (d (x + y) 1)], .bool (geB (x + y) (pw 2))]) ∧ Below w.heap.size w w' := by
  have h := limb2_fn 34 false (d x) (d y) _ w (steps_add 2 (d x) (d y) (In.d 2 x) (In.d 2 y))
  rw [over_add 2 x y hx hy, sm_add, hx.sm, hy.sm] at h
  rw [hA, hB]; exact h
theorem limb4_add (A B : Array Value) (x y : Int) (w : World) (hA : A = #[.int .u64 (d x 0), .int .u64 (d x 1), .int .u64 (d x 2), .int .u64 (d x 3)]) (hB : B = #[.int .u64 (d y 0), .int .u64 (d y 1), .int .u64 (d y 2), .int .u64 (d y 3)]) (hx : In 4 x) (hy : In 4 y) :
    Calls Try.prog 33 #[.agg A, .agg B, .func (.func 34) #[] #[]] w fun e w' => e = .returned (.tuple #[.agg #[.int .u64 (d (x + y) 0), .int .u64 (d (x + y) 1), .int .u64 (d (x + y) 2), .int .u64 (d (x + y) 3)], .bool (geB (x + y) (pw 4))]) ∧ Below w.heap.size w w' := by
  have h := limb4_fn 34 false (d x) (d y) _ w (steps_add 4 (d x) (d y) (In.d 4 x) (In.d 4 y))
  rw [over_add 4 x y hx hy, sm_add, hx.sm, hy.sm] at h
  rw [hA, hB]; exact h
theorem limb8_add (A B : Array Value) (x y : Int) (w : World) (hA : A = #[.int .u64 (d x 0), .int .u64 (d x 1), .int .u64 (d x 2), .int .u64 (d x 3), .int .u64 (d x 4), .int .u64 (d x 5), .int .u64 (d x 6), .int .u64 (d x 7)]) (hB : B = #[.int .u64 (d y 0), .int .u64 (d y 1), .int .u64 (d y 2), .int .u64 (d y 3), .int .u64 (d y 4), .int .u64 (d y 5), .int .u64 (d y 6), .int .u64 (d y 7)]) (hx : In 8 x) (hy : In 8 y) :
    Calls Try.prog 38 #[.agg A, .agg B, .func (.func 34) #[] #[]] w fun e w' => e = .returned (.tuple #[.agg #[.int .u64 (d (x + y) 0), .int .u64 (d (x + y) 1), .int .u64 (d (x + y) 2), .int .u64 (d (x + y) 3), .int .u64 (d (x + y) 4), .int .u64 (d (x + y) 5), .int .u64 (d (x + y) 6), .int .u64 (d (x + y) 7)], .bool (geB (x + y) (pw 8))]) ∧ Below w.heap.size w w' := by
  have h := limb8_fn 34 false (d x) (d y) _ w (steps_add 8 (d x) (d y) (In.d 8 x) (In.d 8 y))
  rw [over_add 8 x y hx hy, sm_add, hx.sm, hy.sm] at h
  rw [hA, hB]; exact h
theorem limb4_sub (A B : Array Value) (x y : Int) (w : World) (hA : A = #[.int .u64 (d x 0), .int .u64 (d x 1), .int .u64 (d x 2), .int .u64 (d x 3)]) (hB : B = #[.int .u64 (d y 0), .int .u64 (d y 1), .int .u64 (d y 2), .int .u64 (d y 3)]) (hx : In 4 x) (hy : In 4 y) :
    Calls Try.prog 33 #[.agg A, .agg B, .func (.func 37) #[] #[]] w fun e w' => e = .returned (.tuple #[.agg #[.int .u64 (d (x - y) 0), .int .u64 (d (x - y) 1), .int .u64 (d (x - y) 2), .int .u64 (d (x - y) 3)], .bool (ltB x y)]) ∧ Below w.heap.size w w' := by
  have h := limb4_fn 37 true (d x) (d y) _ w (steps_sub 4 (d x) (d y) (In.d 4 x) (In.d 4 y))
  rw [over_sub 4 x y hx hy, sm_sub, hx.sm, hy.sm] at h
  rw [hA, hB]; exact h
theorem limb8_sub (A B : Array Value) (x y : Int) (w : World) (hA : A = #[.int .u64 (d x 0), .int .u64 (d x 1), .int .u64 (d x 2), .int .u64 (d x 3), .int .u64 (d x 4), .int .u64 (d x 5), .int .u64 (d x 6), .int .u64 (d x 7)]) (hB : B = #[.int .u64 (d y 0), .int .u64 (d y 1), .int .u64 (d y 2), .int .u64 (d y 3), .int .u64 (d y 4), .int .u64 (d y 5), .int .u64 (d y 6), .int .u64 (d y 7)]) (hx : In 8 x) (hy : In 8 y) :
    Calls Try.prog 38 #[.agg A, .agg B, .func (.func 37) #[] #[]] w fun e w' => e = .returned (.tuple #[.agg #[.int .u64 (d (x - y) 0), .int .u64 (d (x - y) 1), .int .u64 (d (x - y) 2), .int .u64 (d (x - y) 3), .int .u64 (d (x - y) 4), .int .u64 (d (x - y) 5), .int .u64 (d (x - y) 6), .int .u64 (d (x - y) 7)], .bool (ltB x y)]) ∧ Below w.heap.size w w' := by
  have h := limb8_fn 37 true (d x) (d y) _ w (steps_sub 8 (d x) (d y) (In.d 8 x) (In.d 8 y))
  rw [over_sub 8 x y hx hy, sm_sub, hx.sm, hy.sm] at h
  rw [hA, hB]; exact h

theorem below1' (w : World) (A : Obj) : Below w.heap.size w (w.alloc A) := (Below.refl _ _).alloc (Nat.le_refl _) _
theorem below2' (w : World) (A B : Obj) : Below w.heap.size w ((w.alloc A).alloc B) := (below1' w A).alloc (by simp) _
theorem below3' (w : World) (A B C : Obj) : Below w.heap.size w (((w.alloc A).alloc B).alloc C) := (below2' w A B).alloc (by simp; omega) _

set_option maxRecDepth 100000 in
set_option maxHeartbeats 1000000 in
theorem add4_any (A B : Array Value) (x y : Int) (w : World) (hA : A = #[.int .u64 (d x 0), .int .u64 (d x 1), .int .u64 (d x 2), .int .u64 (d x 3)]) (hB : B = #[.int .u64 (d y 0), .int .u64 (d y 1), .int .u64 (d y 2), .int .u64 (d y 3)]) (hx : In 4 x) (hy : In 4 y) :
    Calls Try.prog 9 #[.agg A, .agg B] w fun e w' => e = .returned (.tuple #[.agg #[.int .u64 (d (x + y) 0), .int .u64 (d (x + y) 1), .int .u64 (d (x + y) 2), .int .u64 (d (x + y) 3)], .bool (geB (x + y) (pw 4))]) ∧ Below w.heap.size w w' := by
  subst hA hB
  go_enter Try.func9, Try.ntmps9
  go_wp2_with (go_at_call 33; refine (limb4_add _ _ x y _ rfl rfl hx hy).mono ?_; rintro e w1 ⟨rfl, hb⟩; obtain ⟨hc, hf⟩ := bcell hb)
  refine bodyPost_ret (v := .tuple #[.agg #[.int .u64 (d (x + y) 0), .int .u64 (d (x + y) 1), .int .u64 (d (x + y) 2), .int .u64 (d (x + y) 3)], .bool (geB (x + y) (pw 4))]) ?_ rfl ⟨rfl, ?_⟩
  · simp [results, Try.results9, go_sem, *]
  · have hN : w.heap.size ≤ w.heap.size + 1 + 1 := by omega
    have hB := (below3' w _ _ _).trans (hb.mono (by simp; omega))
    exact ((((hB.setCell hN _).setCell hN _).setCell hN _).setCell hN _)
set_option maxRecDepth 100000 in
set_option maxHeartbeats 1000000 in
theorem sub4_any (A B : Array Value) (x y : Int) (w : World) (hA : A = #[.int .u64 (d x 0), .int .u64 (d x 1), .int .u64 (d x 2), .int .u64 (d x 3)]) (hB : B = #[.int .u64 (d y 0), .int .u64 (d y 1), .int .u64 (d y 2), .int .u64 (d y 3)]) (hx : In 4 x) (hy : In 4 y) :
    Calls Try.prog 12 #[.agg A, .agg B] w fun e w' => e = .returned (.tuple #[.agg #[.int .u64 (d (x - y) 0), .int .u64 (d (x - y) 1), .int .u64 (d (x - y) 2), .int .u64 (d (x - y) 3)], .bool (ltB x y)]) ∧ Below w.heap.size w w' := by
  subst hA hB
  go_enter Try.func12, Try.ntmps12
  go_wp2_with (go_at_call 33; refine (limb4_sub _ _ x y _ rfl rfl hx hy).mono ?_; rintro e w1 ⟨rfl, hb⟩; obtain ⟨hc, hf⟩ := bcell hb)
  refine bodyPost_ret (v := .tuple #[.agg #[.int .u64 (d (x - y) 0), .int .u64 (d (x - y) 1), .int .u64 (d (x - y) 2), .int .u64 (d (x - y) 3)], .bool (ltB x y)]) ?_ rfl ⟨rfl, ?_⟩
  · simp [results, Try.results12, go_sem, *]
  · have hN : w.heap.size ≤ w.heap.size + 1 + 1 := by omega
    have hB := (below3' w _ _ _).trans (hb.mono (by simp; omega))
    exact ((((hB.setCell hN _).setCell hN _).setCell hN _).setCell hN _)
set_option maxRecDepth 100000 in
set_option maxHeartbeats 1000000 in
theorem add8_any (A B : Array Value) (x y : Int) (w : World) (hA : A = #[.int .u64 (d x 0), .int .u64 (d x 1), .int .u64 (d x 2), .int .u64 (d x 3), .int .u64 (d x 4), .int .u64 (d x 5), .int .u64 (d x 6), .int .u64 (d x 7)]) (hB : B = #[.int .u64 (d y 0), .int .u64 (d y 1), .int .u64 (d y 2), .int .u64 (d y 3), .int .u64 (d y 4), .int .u64 (d y 5), .int .u64 (d y 6), .int .u64 (d y 7)]) (hx : In 8 x) (hy : In 8 y) :
    Calls Try.prog 14 #[.agg A, .agg B] w fun e w' => e = .returned (.tuple #[.agg #[.int .u64 (d (x + y) 0), .int .u64 (d (x + y) 1), .int .u64 (d (x + y) 2), .int .u64 (d (x + y) 3), .int .u64 (d (x + y) 4), .int .u64 (d (x + y) 5), .int .u64 (d (x + y) 6), .int .u64 (d (x + y) 7)], .bool (geB (x + y) (pw 8))]) ∧ Below w.heap.size w w' := by
  subst hA hB
  go_enter Try.func14, Try.ntmps14
  go_wp2_with (go_at_call 38; refine (limb8_add _ _ x y _ rfl rfl hx hy).mono ?_; rintro e w1 ⟨rfl, hb⟩; obtain ⟨hc, hf⟩ := bcell hb)
  refine bodyPost_ret (v := .tuple #[.agg #[.int .u64 (d (x + y) 0), .int .u64 (d (x + y) 1), .int .u64 (d (x + y) 2), .int .u64 (d (x + y) 3), .int .u64 (d (x + y) 4), .int .u64 (d (x + y) 5), .int .u64 (d (x + y) 6), .int .u64 (d (x + y) 7)], .bool (geB (x + y) (pw 8))]) ?_ rfl ⟨rfl, ?_⟩
  · simp [results, Try.results14, go_sem, *]
  · have hN : w.heap.size ≤ w.heap.size + 1 + 1 := by omega
    have hB := (below3' w _ _ _).trans (hb.mono (by simp; omega))
    exact ((((((((hB.setCell hN _).setCell hN _).setCell hN _).setCell hN _).setCell hN _).setCell hN _).setCell hN _).setCell hN _)
end Go.Proofs.Ytiglhgcckceikaa
