/- Low, by the program: the lower half, and whether something is in the upper one. -/
import Derived.Test.YtiglhgcckceikaaWi
import Derived.Laws.CopyOwn
namespace Go.Proofs.Ytiglhgcckceikaa
open Go.RowKit

theorem d_div (x : Int) (n i : Nat) : d (x / pw n) i = d x (n + i) := by
  rw [d, d, Int.ediv_ediv_of_nonneg (Int.le_of_lt (pw_pos n)), ← pw_add]
theorem high_in (x : Int) (h : In 8 x) : In 4 (x / pw 4) := by
  refine ⟨Int.ediv_nonneg h.1 (Int.le_of_lt (pw_pos 4)), Int.ediv_lt_of_lt_mul (pw_pos 4) ?_⟩
  rw [← pw_add]; exact h.2
theorem not_eqB_high (x : Int) (h : In 8 x) : (!eqB (x / pw 4) 0) = geB x (pw 4) := by
  have hp := pw_pos 4
  rw [eqB, geB]
  by_cases c : pw 4 ≤ x
  · have : 1 ≤ x / pw 4 := Int.le_ediv_of_mul_le hp (by omega)
    rw [decide_eq_false (by omega), decide_eq_true c]; rfl
  · rw [Int.ediv_eq_zero_of_lt h.1 (by omega), decide_eq_false c]; rfl
theorem Q4_zero : (#[.int .u64 (d 0 0), .int .u64 (d 0 1), .int .u64 (d 0 2), .int .u64 (d 0 3)] : Array Value) = #[.int .u64 0, .int .u64 0, .int .u64 0, .int .u64 0] := by
  have h : ∀ i, d 0 i = 0 := fun i => by simp [d]
  rw [h, h, h, h]
theorem zero_in (n : Nat) : In n 0 := ⟨Int.le_refl 0, pw_pos n⟩
theorem news4 {w : World} {N o : Nat} {z : Nat → Int} (h : ∀ i < 4, w.cell? ⟨N, o + i, none⟩ = some (.int .u64 (z i))) :
    ∀ (j : Nat) v, ([.int .u64 (z 0), .int .u64 (z 1), .int .u64 (z 2), .int .u64 (z 3)] : List Value)[j]? = some v → w.cell? ((⟨N, o, none⟩ : Addr).add j) = some v := by
  intro j v hv
  have hj : j < 4 := by
    rw [List.getElem?_eq_some_iff] at hv
    obtain ⟨hj, _⟩ := hv
    simpa using hj
  rw [Addr.add_mid, h j hj]
  obtain rfl | rfl | rfl | rfl : j = 0 ∨ j = 1 ∨ j = 2 ∨ j = 3 := by omega
  all_goals exact hv

/-- four blocks one behind the other -/
theorem rows4 (w : World) (A B C D : Array Value) (t u v x : TypeId) :
    ((((w.alloc (.cells A t)).alloc (.cells B u)).alloc (.cells C v)).alloc (.cells D x)).heap[w.heap.size]? = some (.cells A t (0, 0)) ∧
    ((((w.alloc (.cells A t)).alloc (.cells B u)).alloc (.cells C v)).alloc (.cells D x)).heap[w.heap.size + 1]? = some (.cells B u (0, 0)) ∧
    ((((w.alloc (.cells A t)).alloc (.cells B u)).alloc (.cells C v)).alloc (.cells D x)).heap[w.heap.size + 1 + 1]? = some (.cells C v (0, 0)) ∧
    ((((w.alloc (.cells A t)).alloc (.cells B u)).alloc (.cells C v)).alloc (.cells D x)).heap[w.heap.size + 1 + 1 + 1]? = some (.cells D x (0, 0)) := by
  refine ⟨arow_alloc _ (arow_alloc _ (arow_alloc _ (heap_alloc_new w _))), arow_alloc _ (arow_alloc _ ?_), arow_alloc _ ?_, ?_⟩
  · have := heap_alloc_new (w.alloc (.cells A t)) (.cells B u)
    rwa [World.size_alloc] at this
  · have := heap_alloc_new ((w.alloc (.cells A t)).alloc (.cells B u)) (.cells C v)
    rwa [World.size_alloc, World.size_alloc] at this
  · have := heap_alloc_new (((w.alloc (.cells A t)).alloc (.cells B u)).alloc (.cells C v)) (.cells D x)
    rwa [World.size_alloc, World.size_alloc, World.size_alloc] at this

set_option maxRecDepth 100000 in
set_option maxHeartbeats 1000000 in
theorem low_fn (x y : Int) (w : World) (hy : ∀ i < 4, d x (4 + i) = d y i) (heq : ∀ w, (Op.equalIn 10000 24 (.agg #[.int .u64 (d y 0), .int .u64 (d y 1), .int .u64 (d y 2), .int .u64 (d y 3)]) (.agg #[.int .u64 0, .int .u64 0, .int .u64 0, .int .u64 0])).run Try.prog w = .ok (eqB y 0) w) :
    Calls Try.prog 15 #[.agg #[.int .u64 (d x 0), .int .u64 (d x 1), .int .u64 (d x 2), .int .u64 (d x 3), .int .u64 (d x 4), .int .u64 (d x 5), .int .u64 (d x 6), .int .u64 (d x 7)]] w fun e w' => e = .returned (.tuple #[.agg #[.int .u64 (d x 0), .int .u64 (d x 1), .int .u64 (d x 2), .int .u64 (d x 3)], .bool (!eqB y 0)]) ∧ Below w.heap.size w w' := by
  have hsz : (Try.prog.info? 22).map (·.size) = some 1 := by kernel_rfl
  have HY := Lib.hid hy
  have HS := Lib.hid hsz
  clear hy hsz
  go_enter Try.func15, Try.ntmps15
  go_wp2
  obtain ⟨ra, ro, rl, rh⟩ := rows4 w #[.int .u64 (d x 0), .int .u64 (d x 1), .int .u64 (d x 2), .int .u64 (d x 3), .int .u64 (d x 4), .int .u64 (d x 5), .int .u64 (d x 6), .int .u64 (d x 7)] #[.int .u64 0, .int .u64 0, .int .u64 0, .int .u64 0] #[.int .u64 0, .int .u64 0, .int .u64 0, .int .u64 0] #[.int .u64 0, .int .u64 0, .int .u64 0, .int .u64 0] 26 24 24 24
  have hbq := below4' w (.cells #[.int .u64 (d x 0), .int .u64 (d x 1), .int .u64 (d x 2), .int .u64 (d x 3), .int .u64 (d x 4), .int .u64 (d x 5), .int .u64 (d x 6), .int .u64 (d x 7)] 26) (.cells #[.int .u64 0, .int .u64 0, .int .u64 0, .int .u64 0] 24) (.cells #[.int .u64 0, .int .u64 0, .int .u64 0, .int .u64 0] 24) (.cells #[.int .u64 0, .int .u64 0, .int .u64 0, .int .u64 0] 24)
  generalize ((((w.alloc (.cells #[.int .u64 (d x 0), .int .u64 (d x 1), .int .u64 (d x 2), .int .u64 (d x 3), .int .u64 (d x 4), .int .u64 (d x 5), .int .u64 (d x 6), .int .u64 (d x 7)] 26)).alloc (.cells #[.int .u64 0, .int .u64 0, .int .u64 0, .int .u64 0] 24)).alloc (.cells #[.int .u64 0, .int .u64 0, .int .u64 0, .int .u64 0] 24)).alloc (.cells #[.int .u64 0, .int .u64 0, .int .u64 0, .int .u64 0] 24)) = wq at *
  have RA := Lib.hid ra
  have RO := Lib.hid ro
  have RL := Lib.hid rl
  have RH := Lib.hid rh
  clear ra ro rl rh
  go_still_tail 2, (by kernel_rfl)
  change wpList _ _ _ _ _ (World.drew wq)
  go_wp2_with (refine wpList_copy_own rfl (.tmp 6) (.tmp 7) 30 30 rfl 22 Try.underlying30 HS.out (w.heap.size + 1 + 1) 0 4 4 _ 4 8 rfl rfl #[.int .u64 0, .int .u64 0, .int .u64 0, .int .u64 0] 24 RL.out [.int .u64 (d x 0), .int .u64 (d x 1), .int .u64 (d x 2), .int .u64 (d x 3)] rfl (news4 (z := d x) (fun i hi => by rw [Nat.zero_add]; exact (arow_cell RA.out i).trans (atQ8 x i (by omega)))) (by simp) (by simp [Value.oneCell']) ?_)
  have ra : (wq.drew.setRow (w.heap.size + 1 + 1) #[.int .u64 (d x 0), .int .u64 (d x 1), .int .u64 (d x 2), .int .u64 (d x 3)]).heap[w.heap.size]? = _ := (setRow_other _ _ _ _ (by omega)).trans RA.out
  have ro : (wq.drew.setRow (w.heap.size + 1 + 1) #[.int .u64 (d x 0), .int .u64 (d x 1), .int .u64 (d x 2), .int .u64 (d x 3)]).heap[w.heap.size + 1]? = _ := (setRow_other _ _ _ _ (by omega)).trans RO.out
  have rh : (wq.drew.setRow (w.heap.size + 1 + 1) #[.int .u64 (d x 0), .int .u64 (d x 1), .int .u64 (d x 2), .int .u64 (d x 3)]).heap[w.heap.size + 1 + 1 + 1]? = _ := (setRow_other _ _ _ _ (by omega)).trans RH.out
  have rl : (wq.drew.setRow (w.heap.size + 1 + 1) #[.int .u64 (d x 0), .int .u64 (d x 1), .int .u64 (d x 2), .int .u64 (d x 3)]).heap[w.heap.size + 1 + 1]? = some (.cells #[.int .u64 (d x 0), .int .u64 (d x 1), .int .u64 (d x 2), .int .u64 (d x 3)] 24 (0, 0)) := setRow_heap _ _ _ _ _ _ RL.out
  have hb2 : Below w.heap.size w (wq.drew.setRow (w.heap.size + 1 + 1) #[.int .u64 (d x 0), .int .u64 (d x 1), .int .u64 (d x 2), .int .u64 (d x 3)]) := below_setRow hbq.drew (by omega) _

  change Code.wp _ _ _ _ (wq.drew.setRow (w.heap.size + 1 + 1) #[.int .u64 (d x 0), .int .u64 (d x 1), .int .u64 (d x 2), .int .u64 (d x 3)])
  simp only [Act.put, List.setIfInBounds_toArray, List.set_cons_zero, List.set_cons_succ, List.length_cons, List.length_nil]
  clear RA RO RL RH hbq
  generalize wq.drew.setRow (w.heap.size + 1 + 1) #[.int .u64 (d x 0), .int .u64 (d x 1), .int .u64 (d x 2), .int .u64 (d x 3)] = wr at *
  have RA := Lib.hid ra
  have RO := Lib.hid ro
  have RL := Lib.hid rl
  have RH := Lib.hid rh
  clear ra ro rl rh
  go_still_tail 2, (by kernel_rfl)
  change wpList _ _ _ _ _ (World.drew wr)
  go_wp2_with (refine wpList_copy_own rfl (.tmp 9) (.tmp 10) 30 30 rfl 22 Try.underlying30 HS.out (w.heap.size + 1 + 1 + 1) 0 4 4 _ 4 4 rfl rfl #[.int .u64 0, .int .u64 0, .int .u64 0, .int .u64 0] 24 RH.out [.int .u64 (d y 0), .int .u64 (d y 1), .int .u64 (d y 2), .int .u64 (d y 3)] rfl (news4 (z := d y) (fun i hi => by rw [← HY.out i hi]; exact (arow_cell RA.out (4 + i)).trans (atQ8 x (4 + i) (by omega)))) (by simp) (by simp [Value.oneCell']) ?_)
  have ro : (wr.drew.setRow (w.heap.size + 1 + 1 + 1) #[.int .u64 (d y 0), .int .u64 (d y 1), .int .u64 (d y 2), .int .u64 (d y 3)]).heap[w.heap.size + 1]? = _ := (setRow_other _ _ _ _ (by omega)).trans RO.out
  have rl : (wr.drew.setRow (w.heap.size + 1 + 1 + 1) #[.int .u64 (d y 0), .int .u64 (d y 1), .int .u64 (d y 2), .int .u64 (d y 3)]).heap[w.heap.size + 1 + 1]? = _ := (setRow_other _ _ _ _ (by omega)).trans RL.out
  have rh : (wr.drew.setRow (w.heap.size + 1 + 1 + 1) #[.int .u64 (d y 0), .int .u64 (d y 1), .int .u64 (d y 2), .int .u64 (d y 3)]).heap[w.heap.size + 1 + 1 + 1]? = some (.cells #[.int .u64 (d y 0), .int .u64 (d y 1), .int .u64 (d y 2), .int .u64 (d y 3)] 24 (0, 0)) := setRow_heap _ _ _ _ _ _ RH.out
  have hb3 : Below w.heap.size w (wr.drew.setRow (w.heap.size + 1 + 1 + 1) #[.int .u64 (d y 0), .int .u64 (d y 1), .int .u64 (d y 2), .int .u64 (d y 3)]) := below_setRow hb2.drew (by omega) _
  change Code.wp _ _ _ _ (wr.drew.setRow (w.heap.size + 1 + 1 + 1) #[.int .u64 (d y 0), .int .u64 (d y 1), .int .u64 (d y 2), .int .u64 (d y 3)])
  simp only [Act.put, List.setIfInBounds_toArray, List.set_cons_zero, List.set_cons_succ, List.length_cons, List.length_nil]
  clear RA RO RL RH hb2
  generalize wr.drew.setRow (w.heap.size + 1 + 1 + 1) #[.int .u64 (d y 0), .int .u64 (d y 1), .int .u64 (d y 2), .int .u64 (d y 3)] = wx at *
  have RL := Lib.hid rl
  have RH := Lib.hid rh
  obtain ⟨⟨z0, o0⟩, f0⟩ := out4 ro rfl 0 (by omega)
  obtain ⟨⟨z1, o1⟩, f1⟩ := out4 ro rfl 1 (by omega)
  obtain ⟨⟨z2, o2⟩, f2⟩ := out4 ro rfl 2 (by omega)
  obtain ⟨⟨z3, o3⟩, f3⟩ := out4 ro rfl 3 (by omega)
  clear ro rl rh
  have n1 := Lib.hid (show w.heap.size + 1 ≠ w.heap.size + 1 + 1 by omega)
  have n2 := Lib.hid (show w.heap.size + 1 ≠ w.heap.size + 1 + 1 + 1 by omega)
  go_region_held3 (fun w' => w'.cell? ⟨w.heap.size + 1 + 1, 0, none⟩ = some (.int .u64 (d x 0)) ∧ w'.cell? ⟨w.heap.size + 1 + 1, 1, none⟩ = some (.int .u64 (d x 1)) ∧ w'.cell? ⟨w.heap.size + 1 + 1, 2, none⟩ = some (.int .u64 (d x 2)) ∧ w'.cell? ⟨w.heap.size + 1 + 1, 3, none⟩ = some (.int .u64 (d x 3)) ∧
      w'.cell? ⟨w.heap.size + 1 + 1 + 1, 0, none⟩ = some (.int .u64 (d y 0)) ∧ w'.cell? ⟨w.heap.size + 1 + 1 + 1, 1, none⟩ = some (.int .u64 (d y 1)) ∧ w'.cell? ⟨w.heap.size + 1 + 1 + 1, 2, none⟩ = some (.int .u64 (d y 2)) ∧ w'.cell? ⟨w.heap.size + 1 + 1 + 1, 3, none⟩ = some (.int .u64 (d y 3)))
    (((try simp only [World.cell?_drew]); first | (with_reducible exact cells44 RL.out RH.out) | (with_reducible exact cells44 (far4 n1.out RL.out) (far4 n2.out RH.out))))
    (fail)
  go_wp2
  refine bodyPost_ret (v := .tuple #[.agg #[.int .u64 (d x 0), .int .u64 (d x 1), .int .u64 (d x 2), .int .u64 (d x 3)], .bool (!eqB y 0)]) ?_ rfl ⟨rfl, ?_⟩
  · simp [results, Try.results15, go_sem, *]
  · have hN : w.heap.size ≤ w.heap.size + 1 := by omega
    exact (((hb3.drew.setCell hN _).setCell hN _).setCell hN _).setCell hN _

theorem low8_any (A : Array Value) (x : Int) (w : World) (hA : A = #[.int .u64 (d x 0), .int .u64 (d x 1), .int .u64 (d x 2), .int .u64 (d x 3), .int .u64 (d x 4), .int .u64 (d x 5), .int .u64 (d x 6), .int .u64 (d x 7)]) (hx : In 8 x) :
    Calls Try.prog 15 #[.agg A] w fun e w' => e = .returned (.tuple #[.agg #[.int .u64 (d x 0), .int .u64 (d x 1), .int .u64 (d x 2), .int .u64 (d x 3)], .bool (geB x (pw 4))]) ∧ Below w.heap.size w w' := by
  subst hA
  have heq := eqQ4 (x / pw 4) 0 (high_in x hx) (zero_in 4)
  simp only [Q4_zero] at heq
  have h := low_fn x (x / pw 4) w (fun i _ => (d_div x 4 i).symm) heq
  rw [not_eqB_high x hx] at h
  exact h
end Go.Proofs.Ytiglhgcckceikaa
