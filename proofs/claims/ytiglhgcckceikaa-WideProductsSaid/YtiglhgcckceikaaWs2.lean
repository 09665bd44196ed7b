/- Div64 and Div128, by the program. -/
import Derived.Test.YtiglhgcckceikaaWr
namespace Go.Proofs.Ytiglhgcckceikaa
open Go.RowKit

theorem p63 (y : Int) (s : Nat) (h0 : 0 < y) (h1 : y < 18446744073709551616) (hs : blN y.toNat + s = 64) : 9223372036854775808 ≤ y * 2 ^ s ∧ y * 2 ^ s < 18446744073709551616 ∧ s < 64 := by
  obtain ⟨n, rfl⟩ := Int.eq_ofNat_of_zero_le (Int.le_of_lt h0)
  rw [Int.toNat_natCast] at hs
  obtain ⟨b1, b2, b3⟩ := blN_bounds n (by omega)
  have e : (2 : Int) ^ s = ((2 ^ s : Nat) : Int) := by rw [Int.natCast_pow]; rfl
  have h2 := Nat.mul_le_mul_right (2 ^ s) b2
  rw [← Nat.pow_add, show blN n - 1 + s = 63 by omega] at h2
  have h3 := Nat.mul_lt_mul_of_pos_right b3 (Nat.two_pow_pos s)
  rw [← Nat.pow_add, hs] at h3
  rw [e, ← Int.natCast_mul]
  refine ⟨by omega, by omega, by omega⟩

theorem div64_any (hi lo y : Int) (w : World) (hh : 0 ≤ hi ∧ hi < y) (hl : Limb lo) (hy : Limb y) :
    Calls Try.prog 46 #[.int .u64 hi, .int .u64 lo, .int .u64 y] w fun e w' => e = .returned (.tuple #[.int .u64 ((hi * 18446744073709551616 + lo) / y), .int .u64 ((hi * 18446744073709551616 + lo) % y)]) ∧ Below w.heap.size w w' := by
  by_cases h0 : hi = 0
  · subst h0
    rw [Int.zero_mul, Int.zero_add]
    exact div64_zero lo y w hl hy (by omega)
  · obtain ⟨s, hs⟩ : ∃ s, blN y.toNat + s = 64 := ⟨64 - blN y.toNat, by have := blN_le y.toNat 64 (by have := hy.2; have := hy.1; omega); omega⟩
    obtain ⟨Y0, Y1, hs2⟩ := p63 y s (by omega) hy.2 hs
    obtain ⟨l0, l1⟩ := hl
    have h2 := p2_pos s
    have hq := p2_pos (64 - s)
    have h64 := p64 s (by omega)
    have c0 : 0 ≤ lo / 2 ^ (64 - s) := Int.ediv_nonneg l0 (Int.le_of_lt hq)
    have c1 : lo / 2 ^ (64 - s) < 2 ^ s := Int.ediv_lt_of_lt_mul hq (by rw [h64]; exact l1)
    have m0 : 0 ≤ hi * 2 ^ s := Int.mul_nonneg hh.1 (Int.le_of_lt h2)
    have m1 : (hi + 1) * 2 ^ s ≤ y * 2 ^ s := Int.mul_le_mul_of_nonneg_right (by omega) (Int.le_of_lt h2)
    rw [Int.add_mul, Int.one_mul] at m1
    have hx : lo * 2 ^ s = 18446744073709551616 * (lo / 2 ^ (64 - s)) + lo * 2 ^ s % 18446744073709551616 := by
      have e := Int.emod_add_mul_ediv (lo * 2 ^ s) 18446744073709551616
      have : lo * 2 ^ s / 18446744073709551616 = lo / 2 ^ (64 - s) := by
        rw [← h64, Int.mul_comm (2 ^ s), Int.mul_ediv_mul_of_pos_left _ _ h2]
      rw [this] at e
      omega
    have hor : bits .or .u64 (IntKind.u64.wrap (hi * 2 ^ s)) (lo / 2 ^ (64 - s)) = hi * 2 ^ s + lo / 2 ^ (64 - s) := by
      rw [wrapU64, Int.emod_eq_of_lt m0 (by omega)]
      exact or_addI _ _ (2 ^ s) s hi rfl hh.1 (Int.mul_comm _ _) ⟨c0, c1⟩ (by omega)
    have hX0 := Int.emod_nonneg (lo * 2 ^ s) (show (18446744073709551616 : Int) ≠ 0 by decide)
    have hX1 := Int.emod_lt_of_pos (lo * 2 ^ s) (show (0 : Int) < 18446744073709551616 by decide)
    obtain ⟨X, hX⟩ : ∃ X, lo * 2 ^ s % 18446744073709551616 = X := ⟨_, rfl⟩
    rw [hX] at hx hX0 hX1
    obtain ⟨t1, t2⟩ := two_digits (hi * 2 ^ s + lo / 2 ^ (64 - s)) (X / 4294967296) (X % 4294967296) (y * 2 ^ s) (by omega)
    obtain ⟨u1, u2⟩ := div_up (hi * 18446744073709551616 + lo) y (2 ^ s) h2
    have ev : (hi * 18446744073709551616 + lo) * 2 ^ s = (hi * 2 ^ s + lo / 2 ^ (64 - s)) * 18446744073709551616 + (X / 4294967296 * 4294967296 + X % 4294967296) := by
      rw [Int.add_mul, hx, Int.add_mul (hi * 2 ^ s), Int.mul_assoc, Int.mul_assoc, Int.mul_comm (2 ^ s)]
      omega
    rw [ev, t1] at u1
    rw [ev, t2] at u2
    exact div64_fn hi lo y (hi * 2 ^ s + lo / 2 ^ (64 - s)) X (y * 2 ^ s) (y * 2 ^ s / 4294967296) (y * 2 ^ s % 4294967296) (X / 4294967296) (X % 4294967296) _ _ s w ⟨by omega, hh.2⟩ ⟨l0, l1⟩ hy hs hs2
      (by rw [wrapU64, Int.emod_eq_of_lt (by omega) Y1]) rfl (and_low _ (by omega) Y1) hor (by rw [wrapU64, hX]) rfl (and_low X hX0 hX1) (by omega) (by omega) (by omega) (by omega) (by omega) (by omega) ⟨u1.symm, u2.symm⟩
end Go.Proofs.Ytiglhgcckceikaa
