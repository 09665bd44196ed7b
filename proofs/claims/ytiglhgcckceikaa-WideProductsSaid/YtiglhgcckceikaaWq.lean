/- Long division of two digits by one: plain arithmetic. -/
import Derived.Test.YtiglhgcckceikaaWi
namespace Go.Proofs.Ytiglhgcckceikaa
open Go.RowKit

/-- a product below a bound, from bounds of both -/
theorem mul_le_mul2 {a b c d : Int} (h1 : 0 ≤ a) (h2 : a ≤ c) (h3 : 0 ≤ b) (h4 : b ≤ d) : a * b ≤ c * d :=
  Int.le_trans (Int.mul_le_mul_of_nonneg_right h2 h3) (Int.mul_le_mul_of_nonneg_left h4 (by omega))

/-- where the search for a digit stands: U is the number's upper part, u its next half limb, Y the divisor of halves h and l -/
structure Dig (U u Y h l q r : Int) : Prop where
  hY : Y = h * 4294967296 + l
  hh : 2147483648 ≤ h ∧ h < 4294967296
  hl : 0 ≤ l ∧ l < 4294967296
  hU : 0 ≤ U ∧ U < Y
  hu : 0 ≤ u ∧ u < 4294967296
  hr : 0 ≤ r ∧ r < 4294967296
  sum : q * h + r = U
  lo : (U * 4294967296 + u) / Y ≤ q
  q0 : 0 ≤ q
  hi : q ≤ 4294967297

/-- the digit itself -/
def digQ (U u Y : Int) : Int := (U * 4294967296 + u) / Y
theorem Dig.ypos {U u Y h l q r : Int} (D : Dig U u Y h l q r) : 0 < Y := by
  obtain ⟨hY, hh, hl, _⟩ := D; omega
theorem Dig.start (U u Y h l : Int) (hY : Y = h * 4294967296 + l) (hh : 2147483648 ≤ h ∧ h < 4294967296) (hl : 0 ≤ l ∧ l < 4294967296) (hU : 0 ≤ U ∧ U < Y) (hu : 0 ≤ u ∧ u < 4294967296) :
    Dig U u Y h l (U / h) (U - U / h * h) := by
  have hp : 0 < h := by omega
  have e := Int.emod_add_mul_ediv U h
  have e0 := Int.emod_nonneg U (Int.ne_of_gt hp)
  have e1 := Int.emod_lt_of_pos U hp
  have ec : U / h * h = h * (U / h) := Int.mul_comm _ _
  have hY0 : 0 < Y := by omega
  refine ⟨hY, hh, hl, hU, hu, by omega, by omega, ?_, Int.ediv_nonneg hU.1 (by omega), ?_⟩
  · -- the digit is not above it
    have h1 : U * 4294967296 + u < (U / h + 1) * Y := by
      have h2 : (U / h + 1) * Y = (U / h + 1) * h * 4294967296 + (U / h + 1) * l := by rw [hY, Int.mul_add, Int.mul_assoc]
      have h3 : 0 ≤ (U / h + 1) * l := Int.mul_nonneg (by have := Int.ediv_nonneg hU.1 (show 0 ≤ h by omega); omega) hl.1
      have h4 : (U / h + 1) * h = h * (U / h) + h := by rw [Int.add_mul, Int.one_mul, Int.mul_comm]
      rw [h2, h4]
      omega
    have := Int.ediv_lt_of_lt_mul hY0 h1
    omega
  · have h1 : U < 4294967298 * h := by omega
    have := Int.ediv_lt_of_lt_mul hp h1
    omega
/-- a digit that is too great: one less is not too small -/
theorem Dig.less {U u Y h l q r : Int} (D : Dig U u Y h l q r) (hc : 4294967296 ≤ q ∨ 4294967296 * r + u < q * l) : digQ U u Y ≤ q - 1 ∧ 1 ≤ q := by
  have hy := D.ypos
  obtain ⟨hY, hh, hl, hU, hu, hr, sum, lo, q0, hi⟩ := D
  have hd : digQ U u Y < q := by
    rcases hc with hc | hc
    · have : digQ U u Y < 4294967296 := Int.ediv_lt_of_lt_mul hy (by omega)
      omega
    · refine Int.ediv_lt_of_lt_mul hy ?_
      have h2 : q * Y = q * h * 4294967296 + q * l := by rw [hY, Int.mul_add, Int.mul_assoc]
      rw [h2]
      omega
  have : 0 ≤ digQ U u Y := Int.ediv_nonneg (by omega) (by omega)
  omega
theorem Dig.next {U u Y h l q r : Int} (D : Dig U u Y h l q r) (hc : 4294967296 ≤ q ∨ 4294967296 * r + u < q * l) (hr : r + h < 4294967296) : Dig U u Y h l (q - 1) (r + h) := by
  obtain ⟨h1, h2⟩ := D.less hc
  obtain ⟨hY, hh, hl, hU, hu, hr', sum, lo, q0, hi⟩ := D
  refine ⟨hY, hh, hl, hU, hu, by omega, ?_, h1, by omega, by omega⟩
  rw [Int.sub_mul]; omega
/-- the search ends: by a rest that is great, .. -/
theorem Dig.over {U u Y h l q r : Int} (D : Dig U u Y h l q r) (hc : 4294967296 ≤ q ∨ 4294967296 * r + u < q * l) (hr : ¬ r + h < 4294967296) : q - 1 = digQ U u Y := by
  obtain ⟨h1, h2⟩ := D.less hc
  have hy := D.ypos
  obtain ⟨hY, hh, hl, hU, hu, hr', sum, lo, q0, hi⟩ := D
  have h3 : (q - 1) * l ≤ 4294967296 * 4294967295 := mul_le_mul2 (by omega) (by omega) hl.1 (by omega)
  have h4 : (q - 1) * Y = (q - 1) * h * 4294967296 + (q - 1) * l := by rw [hY, Int.mul_add, Int.mul_assoc]
  have h5 : (q - 1) * h = U - (r + h) := by rw [Int.sub_mul]; omega
  have h6 : q - 1 ≤ digQ U u Y := Int.le_ediv_of_mul_le hy (by rw [h4, h5]; omega)
  omega
/-- .. or by a digit that fits -/
theorem Dig.fits {U u Y h l q r : Int} (D : Dig U u Y h l q r) (hc2 : ¬ 4294967296 * r + u < q * l) : q = digQ U u Y := by
  have hy := D.ypos
  obtain ⟨hY, hh, hl, hU, hu, hr', sum, lo, q0, hi⟩ := D
  have h4 : q * Y = q * h * 4294967296 + q * l := by rw [hY, Int.mul_add, Int.mul_assoc]
  have h6 : q ≤ digQ U u Y := Int.le_ediv_of_mul_le hy (by rw [h4]; omega)
  have : digQ U u Y ≤ q := lo
  omega
/-- products of the search fit -/
theorem Dig.prod {U u Y h l q r : Int} (D : Dig U u Y h l q r) : 0 ≤ q * l ∧ q * l < 18446744073709551616 := by
  obtain ⟨hY, hh, hl, hU, hu, hr', sum, lo, q0, hi⟩ := D
  have h3 : q * l ≤ 4294967297 * 4294967295 := mul_le_mul2 q0 hi hl.1 (by omega)
  exact ⟨Int.mul_nonneg q0 hl.1, by omega⟩
theorem digQ_bounds (U u Y : Int) (hU : 0 ≤ U ∧ U < Y) (hu : 0 ≤ u ∧ u < 4294967296) (hy : 0 < Y) : 0 ≤ digQ U u Y ∧ digQ U u Y < 4294967296 :=
  ⟨Int.ediv_nonneg (by omega) (by omega), Int.ediv_lt_of_lt_mul hy (by omega)⟩
/-- the rest behind a digit -/
def digR (U u Y : Int) : Int := (U * 4294967296 + u) % Y
theorem digR_bounds (U u Y : Int) (hy : 0 < Y) : 0 ≤ digR U u Y ∧ digR U u Y < Y := ⟨Int.emod_nonneg _ (Int.ne_of_gt hy), Int.emod_lt_of_pos _ hy⟩
theorem dig_sum (U u Y : Int) : U * 4294967296 + u - digQ U u Y * Y = digR U u Y := by
  have := Int.emod_add_mul_ediv (U * 4294967296 + u) Y
  unfold digQ digR
  rw [Int.mul_comm (_ / _)]
  omega
/-- so, in numbers that wrap round -/
theorem dig_wrap (U u Y : Int) (hy : 0 < Y) (hY : Y < 18446744073709551616) : ((U * 4294967296 + u) - digQ U u Y * Y) % 18446744073709551616 = digR U u Y := by
  obtain ⟨h1, h2⟩ := digR_bounds U u Y hy
  rw [dig_sum, Int.emod_eq_of_lt h1 (by omega)]
/-- two digits make the quotient -/
theorem two_digits (U a b Y : Int) (hy : 0 < Y) :
    (U * 18446744073709551616 + (a * 4294967296 + b)) / Y = digQ U a Y * 4294967296 + digQ (digR U a Y) b Y ∧ (U * 18446744073709551616 + (a * 4294967296 + b)) % Y = digR (digR U a Y) b Y := by
  have h1 := dig_sum U a Y
  have h2 := dig_sum (digR U a Y) b Y
  obtain ⟨r0, r1⟩ := digR_bounds (digR U a Y) b Y hy
  have e : U * 18446744073709551616 + (a * 4294967296 + b) = digR (digR U a Y) b Y + Y * (digQ U a Y * 4294967296 + digQ (digR U a Y) b Y) := by
    rw [Int.mul_add, ← Int.mul_assoc, Int.mul_comm Y, Int.mul_comm Y]
    omega
  rw [e, Int.add_mul_ediv_left _ _ (Int.ne_of_gt hy), Int.add_mul_emod_self_left, Int.ediv_eq_zero_of_lt r0 r1, Int.emod_eq_of_lt r0 r1, Int.zero_add]
  exact ⟨rfl, rfl⟩
/-- both moved up -/
theorem div_up (x y p : Int) (hp : 0 < p) : x * p / (y * p) = x / y ∧ x * p % (y * p) / p = x % y := by
  refine ⟨Int.mul_ediv_mul_of_pos_left _ _ hp, ?_⟩
  rw [Int.mul_comm x, Int.mul_comm y, Int.mul_emod_mul_of_pos _ _ hp, Int.mul_ediv_cancel_left _ (Int.ne_of_gt hp)]
end Go.Proofs.Ytiglhgcckceikaa
