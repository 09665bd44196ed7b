/- What the stage's theorem asks: plain arithmetic of it, one call at a time; and a number as one of eight limbs. -/
import Derived.Test.YtiglhgcckceikaaWz5
import Derived.Test.YtiglhgcckceikaaWj
namespace Go.Proofs.Ytiglhgcckceikaa
open Go.RowKit

set_option maxRecDepth 100000 in
set_option maxHeartbeats 1000000 in
theorem twice_any (x : Int) (w : World) (hx : In 4 x) :
    Calls Try.prog 32 #[.agg #[.int .u64 (d x 0), .int .u64 (d x 1), .int .u64 (d x 2), .int .u64 (d x 3)]] w fun e w' => e = .returned (.agg #[.int .u64 (d x 0), .int .u64 (d x 1), .int .u64 (d x 2), .int .u64 (d x 3), .int .u64 (d x 4), .int .u64 (d x 5), .int .u64 (d x 6), .int .u64 (d x 7)]) ∧ Below w.heap.size w w' := by
  rw [← Q8_of4 x hx]
  clear hx
  go_enter Try.func32, Try.ntmps32
  go_wp2
  refine bodyPost_ret (v := .agg #[.int .u64 (d x 0), .int .u64 (d x 1), .int .u64 (d x 2), .int .u64 (d x 3), .int .u64 0, .int .u64 0, .int .u64 0, .int .u64 0]) ?_ rfl ⟨rfl, ?_⟩
  · simp [results, Try.results32, go_sem, *]
  · exact below2' w _ _

theorem In.eight {x : Int} (h : In 4 x) : In 8 x := ⟨h.1, Int.lt_trans h.2 (by decide +kernel)⟩
/-- the sum, as it stands -/
theorem law_add (x y : Int) (w : World) (hx : In 4 x) (hy : In 4 y) :
    Calls Try.prog 9 #[.agg #[.int .u64 (d x 0), .int .u64 (d x 1), .int .u64 (d x 2), .int .u64 (d x 3)], .agg #[.int .u64 (d y 0), .int .u64 (d y 1), .int .u64 (d y 2), .int .u64 (d y 3)]] w fun e w' => e = .returned (.tuple #[.agg #[.int .u64 (d ((x + y) % pw 4) 0), .int .u64 (d ((x + y) % pw 4) 1), .int .u64 (d ((x + y) % pw 4) 2), .int .u64 (d ((x + y) % pw 4) 3)], .bool (geB (x + y) (pw 4))]) ∧ Below w.heap.size w w' := by
  have h := add4_any _ _ x y w rfl rfl hx hy
  rwa [Q4_mod (x + y)] at h
theorem sum_cases (x y : Int) (hx : In 4 x) (hy : In 4 y) : (pw 4 ≤ x + y ∧ (x + y) % pw 4 = x + y - pw 4) ∨ (x + y < pw 4 ∧ (x + y) % pw 4 = x + y) := by
  obtain ⟨x1, x2⟩ := hx
  obtain ⟨y1, y2⟩ := hy
  by_cases h : pw 4 ≤ x + y
  · refine .inl ⟨h, ?_⟩
    rw [← Int.emod_eq_of_lt (show 0 ≤ x + y - pw 4 by omega) (show x + y - pw 4 < pw 4 by omega), Int.sub_emod_right]
  · exact .inr ⟨by omega, Int.emod_eq_of_lt (by omega) (by omega)⟩
/-- what was added is taken away again -/
theorem law_sub (x y : Int) (w : World) (hx : In 4 x) (hy : In 4 y) :
    Calls Try.prog 12 #[.agg #[.int .u64 (d ((x + y) % pw 4) 0), .int .u64 (d ((x + y) % pw 4) 1), .int .u64 (d ((x + y) % pw 4) 2), .int .u64 (d ((x + y) % pw 4) 3)], .agg #[.int .u64 (d y 0), .int .u64 (d y 1), .int .u64 (d y 2), .int .u64 (d y 3)]] w fun e w' => e = .returned (.tuple #[.agg #[.int .u64 (d x 0), .int .u64 (d x 1), .int .u64 (d x 2), .int .u64 (d x 3)], .bool (geB (x + y) (pw 4))]) ∧ Below w.heap.size w w' := by
  have h := sub4_any _ _ ((x + y) % pw 4) y w rfl rfl (In.mod 4 _) hy
  have e1 : ltB ((x + y) % pw 4) y = geB (x + y) (pw 4) := by
    unfold ltB geB
    obtain ⟨x1, x2⟩ := hx
    rcases sum_cases x y ⟨x1, x2⟩ hy with ⟨h1, h2⟩ | ⟨h1, h2⟩
    · rw [h2, decide_eq_true (by omega), decide_eq_true h1]
    · rw [h2, decide_eq_false (by omega), decide_eq_false (by omega)]
  have e2 : ((x + y) % pw 4 - y) % pw 4 = x := by
    rw [Int.emod_sub_emod, Int.add_sub_cancel, Int.emod_eq_of_lt hx.1 hx.2]
  rwa [e1, Q4_mod ((x + y) % pw 4 - y), e2] at h
theorem law_cmp (x y : Int) (hx : In 4 x) (hy : In 4 y) :
    ∃ c : Int, decide (c < 0) = geB (x + y) (pw 4) ∧ ∀ w, Calls Try.prog 16 #[.agg #[.int .u64 (d ((x + y) % pw 4) 0), .int .u64 (d ((x + y) % pw 4) 1), .int .u64 (d ((x + y) % pw 4) 2), .int .u64 (d ((x + y) % pw 4) 3)], .agg #[.int .u64 (d x 0), .int .u64 (d x 1), .int .u64 (d x 2), .int .u64 (d x 3)]] w fun e w' => e = .returned (.int .i64 c) ∧ Below w.heap.size w w' := by
  refine ⟨cmpI ((x + y) % pw 4) x, ?_, fun w => cmp4_any _ _ _ _ w rfl rfl (In.mod 4 _) hx⟩
  unfold geB
  obtain ⟨y1, y2⟩ := hy
  rcases sum_cases x y hx ⟨y1, y2⟩ with ⟨h1, h2⟩ | ⟨h1, h2⟩
  · rw [h2, cmpI_lt (by omega), decide_eq_true h1]; rfl
  · rw [h2, decide_eq_false (show ¬ pw 4 ≤ x + y by omega)]
    by_cases e : y = 0
    · rw [e, Int.add_zero, cmpI_eq]; rfl
    · rw [cmpI_gt (by omega)]; rfl
/-- a quotient times what it was divided by, and the rest -/
theorem quot_facts (x y : Int) (hx : In 4 x) (h0 : 0 < y) : In 4 (x / y) ∧ In 4 (x / y * y) ∧ In 8 (x / y * y) ∧ 0 ≤ x % y ∧ x % y < y ∧ x / y * y + x % y = x := by
  have em := Int.emod_add_mul_ediv x y
  have r0 := Int.emod_nonneg x (Int.ne_of_gt h0)
  have r1 := Int.emod_lt_of_pos x h0
  have q0 : 0 ≤ x / y := Int.ediv_nonneg hx.1 (Int.le_of_lt h0)
  have q1 : x / y ≤ x := Int.ediv_le_self _ hx.1
  have p0 : 0 ≤ x / y * y := Int.mul_nonneg q0 (Int.le_of_lt h0)
  rw [Int.mul_comm y] at em
  have hi : In 4 (x / y * y) := ⟨p0, by have := hx.2; omega⟩
  exact ⟨⟨q0, by have := hx.2; omega⟩, hi, hi.eight, r0, r1, by omega⟩
theorem law_low (p : Int) (w : World) (hp : In 4 p) :
    Calls Try.prog 15 #[.agg #[.int .u64 (d p 0), .int .u64 (d p 1), .int .u64 (d p 2), .int .u64 (d p 3), .int .u64 (d p 4), .int .u64 (d p 5), .int .u64 (d p 6), .int .u64 (d p 7)]] w fun e w' => e = .returned (.tuple #[.agg #[.int .u64 (d p 0), .int .u64 (d p 1), .int .u64 (d p 2), .int .u64 (d p 3)], .bool false]) ∧ Below w.heap.size w w' := by
  have h := low8_any _ p w rfl hp.eight
  rwa [show geB p (pw 4) = false by unfold geB; exact decide_eq_false (by have := hp.2; omega)] at h
theorem law_back (p r x : Int) (w : World) (hp : In 4 p) (hr : In 4 r) (hx : In 4 x) (h : p + r = x) :
    Calls Try.prog 9 #[.agg #[.int .u64 (d p 0), .int .u64 (d p 1), .int .u64 (d p 2), .int .u64 (d p 3)], .agg #[.int .u64 (d r 0), .int .u64 (d r 1), .int .u64 (d r 2), .int .u64 (d r 3)]] w fun e w' => e = .returned (.tuple #[.agg #[.int .u64 (d x 0), .int .u64 (d x 1), .int .u64 (d x 2), .int .u64 (d x 3)], .bool false]) ∧ Below w.heap.size w w' := by
  have k := add4_any _ _ p r w rfl rfl hp hr
  rwa [h, show geB x (pw 4) = false by unfold geB; exact decide_eq_false (by have := hx.2; omega)] at k
theorem law_rest (r y : Int) (w : World) (hr : In 4 r) (hy : In 4 y) (h : r < y) :
    Calls Try.prog 16 #[.agg #[.int .u64 (d r 0), .int .u64 (d r 1), .int .u64 (d r 2), .int .u64 (d r 3)], .agg #[.int .u64 (d y 0), .int .u64 (d y 1), .int .u64 (d y 2), .int .u64 (d y 3)]] w fun e w' => e = .returned (.int .i64 (-1)) ∧ Below w.heap.size w w' := by
  have k := cmp4_any _ _ r y w rfl rfl hr hy
  rwa [cmpI_lt h] at k
theorem prod_in (x y : Int) (hx : In 4 x) (hy : In 4 y) : In 8 (x * y) := by
  refine ⟨Int.mul_nonneg hx.1 hy.1, ?_⟩
  have h1 : x * y ≤ x * pw 4 := Int.mul_le_mul_of_nonneg_left (Int.le_of_lt hy.2) hx.1
  have h2 : x * pw 4 < pw 4 * pw 4 := Int.mul_lt_mul_of_pos_right hx.2 (pw_pos 4)
  rw [← pw_add] at h2
  exact Int.lt_of_le_of_lt h1 h2
/-- products are spread over sums -/
theorem law_spread (x y z : Int) (w : World) (hx : In 4 x) (hy : In 4 y) (hz : In 4 z) (h : y + z < pw 4) :
    Calls Try.prog 14 #[.agg #[.int .u64 (d (x * y) 0), .int .u64 (d (x * y) 1), .int .u64 (d (x * y) 2), .int .u64 (d (x * y) 3), .int .u64 (d (x * y) 4), .int .u64 (d (x * y) 5), .int .u64 (d (x * y) 6), .int .u64 (d (x * y) 7)], .agg #[.int .u64 (d (x * z) 0), .int .u64 (d (x * z) 1), .int .u64 (d (x * z) 2), .int .u64 (d (x * z) 3), .int .u64 (d (x * z) 4), .int .u64 (d (x * z) 5), .int .u64 (d (x * z) 6), .int .u64 (d (x * z) 7)]] w fun e w' => e = .returned (.tuple #[.agg #[.int .u64 (d (x * (y + z)) 0), .int .u64 (d (x * (y + z)) 1), .int .u64 (d (x * (y + z)) 2), .int .u64 (d (x * (y + z)) 3), .int .u64 (d (x * (y + z)) 4), .int .u64 (d (x * (y + z)) 5), .int .u64 (d (x * (y + z)) 6), .int .u64 (d (x * (y + z)) 7)], .bool false]) ∧ Below w.heap.size w w' := by
  have k := add8_any _ _ (x * y) (x * z) w rfl rfl (prod_in x y hx hy) (prod_in x z hx hz)
  have hi : In 8 (x * (y + z)) := prod_in x (y + z) hx ⟨by have := hy.1; have := hz.1; omega, h⟩
  rwa [← Int.mul_add, show geB (x * (y + z)) (pw 8) = false by unfold geB; exact decide_eq_false (by have := hi.2; omega)] at k
/-- moved up and down again -/
theorem law_up (x : Int) (n : Nat) (w : World) (hx : In 4 x) (hn : n < 256) :
    Calls Try.prog 29 #[.agg #[.int .u64 (d x 0), .int .u64 (d x 1), .int .u64 (d x 2), .int .u64 (d x 3)], .int .u64 (n : Int)] w fun e w' => e = .returned (.tuple #[.agg #[.int .u64 (d (upI x n % pw 4) 0), .int .u64 (d (upI x n % pw 4) 1), .int .u64 (d (upI x n % pw 4) 2), .int .u64 (d (upI x n % pw 4) 3)], .bool (geB (upI x n) (pw 4))]) ∧ Below w.heap.size w w' := by
  have k := shl4_any _ x n w rfl hx (by omega)
  rwa [Q4_mod (upI x n)] at k
theorem law_down (x : Int) (n : Nat) (w : World) (hn : n < 256) :
    Calls Try.prog 30 #[.agg #[.int .u64 (d (upI x n % pw 4) 0), .int .u64 (d (upI x n % pw 4) 1), .int .u64 (d (upI x n % pw 4) 2), .int .u64 (d (upI x n % pw 4) 3)], .int .u64 (n : Int)] w fun e w' => e = .returned (.tuple #[.agg #[.int .u64 (d (dnI (upI x n % pw 4) n) 0), .int .u64 (d (dnI (upI x n % pw 4) n) 1), .int .u64 (d (dnI (upI x n % pw 4) n) 2), .int .u64 (d (dnI (upI x n % pw 4) n) 3)], .bool false]) ∧ Below w.heap.size w w' := by
  have k := shr4_any _ (upI x n % pw 4) n w rfl (In.mod 4 _) (by omega)
  have hd : (2 : Int) ^ n ∣ pw 4 := by
    rw [pw_two, show 64 * 4 = n + (256 - n) by omega, Int.pow_add]
    exact Int.dvd_mul_right _ _
  have e : upI x n % pw 4 % 2 ^ n = 0 := by
    rw [Int.emod_emod_of_dvd _ hd, upI, Int.mul_emod_left]
  rwa [show lostB (upI x n % pw 4) n = false by unfold lostB; exact decide_eq_false (fun c => c e)] at k
theorem law_lost (x : Int) (n : Nat) (hx : In 4 x) : (eqB (dnI (upI x n % pw 4) n) x == geB (upI x n) (pw 4)) = false := by
  rw [← not_eqB_up x n hx]
  cases eqB (dnI (upI x n % pw 4) n) x <;> rfl
end Go.Proofs.Ytiglhgcckceikaa
