/- Products of one limb each, by the program; how a row of limbs changes in one place. -/
import Derived.Test.YtiglhgcckceikaaWi
namespace Go.Proofs.Ytiglhgcckceikaa
open Go.RowKit

/-- a limb -/
def Limb (x : Int) : Prop := 0 ≤ x ∧ x < 18446744073709551616
theorem Limb.d (x : Int) (i : Nat) : Limb (d x i) := ⟨d_lo x i, d_hi x i⟩
theorem mul_limbs {x y : Int} (hx : Limb x) (hy : Limb y) : 0 ≤ x * y ∧ x * y ≤ 340282366920938463426481119284349108225 := by
  refine ⟨Int.mul_nonneg hx.1 hy.1, ?_⟩
  have h1 : x * y ≤ 18446744073709551615 * y := Int.mul_le_mul_of_nonneg_right (by have := hx.2; omega) hy.1
  have h2 : 18446744073709551615 * y ≤ 18446744073709551615 * 18446744073709551615 := Int.mul_le_mul_of_nonneg_left (by have := hy.2; omega) (by decide)
  omega
theorem pw_2 : pw 2 = 340282366920938463463374607431768211456 := by rfl
theorem bMul64_any (x y : Int) (w : World) (hx : Limb x) (hy : Limb y) :
    Calls Try.prog 44 #[.int .u64 x, .int .u64 y] w fun e w' => e = .returned (.tuple #[.int .u64 (x * y / 18446744073709551616), .int .u64 (x * y % 18446744073709551616)]) ∧ w = w' := by
  obtain ⟨hx0, hx1⟩ := hx
  obtain ⟨hy0, hy1⟩ := hy
  obtain ⟨x, rfl⟩ := Int.eq_ofNat_of_zero_le hx0
  obtain ⟨y, rfl⟩ := Int.eq_ofNat_of_zero_le hy0
  have h := Try.bits_Mul64 x y (by omega) (by omega) w
  refine h.mono fun e w' he => ⟨?_, he.2.symm⟩
  rw [he.1, Int.natCast_ediv, Int.natCast_emod, Int.natCast_mul]
  rfl
theorem d_two (z : Int) (h : 0 ≤ z) (h2 : z < pw 2) : d z 0 = z % 18446744073709551616 ∧ d z 1 = z / 18446744073709551616 := by
  rw [pw_2] at h2
  refine ⟨by rw [d, div_zero'], ?_⟩
  rw [d, show pw 1 = 18446744073709551616 by rfl, Int.emod_eq_of_lt (by omega) (by omega)]

set_option maxHeartbeats 1000000 in
theorem mul64_any (x y : Int) (w : World) (hx : Limb x) (hy : Limb y) :
    Calls Try.prog 24 #[.int .u64 x, .int .u64 y] w fun e w' => e = .returned (.agg #[.int .u64 (d (x * y) 0), .int .u64 (d (x * y) 1)]) ∧ Below w.heap.size w w' := by
  have hm := mul_limbs hx hy
  obtain ⟨e0, e1⟩ := d_two (x * y) hm.1 (by rw [pw_2]; omega)
  rw [e0, e1]
  clear e0 e1 hm
  obtain ⟨lo, hlo⟩ : ∃ lo, x * y % 18446744073709551616 = lo := ⟨_, rfl⟩
  obtain ⟨hi, hhi⟩ : ∃ hi, x * y / 18446744073709551616 = hi := ⟨_, rfl⟩
  have HB := Lib.hid (fun w => bMul64_any x y w hx hy)
  rw [hlo, hhi] at HB
  rw [hlo, hhi]
  clear hlo hhi hx hy
  go_enter Try.func24, Try.ntmps24
  go_wp2_with (go_at_call 44; refine (HB.out _).mono ?_; rintro e w1 ⟨rfl, rfl⟩)
  refine bodyPost_ret (v := .agg #[.int .u64 lo, .int .u64 hi]) ?_ rfl ⟨rfl, ?_⟩
  · simp [results, Try.results24, go_sem, *]
  · first | exact below1' w _ | (have hN : w.heap.size ≤ w.heap.size := Nat.le_refl _; exact ((below1' w _).setCell hN _).setCell hN _)

/-- limbs with another one in one place -/
def upd (f : Nat → Int) (k : Nat) (v : Int) : Nat → Int := fun i => if i = k then v else f i
theorem sm_upd (f : Nat → Int) (k : Nat) (v : Int) : ∀ n, sm (upd f k v) n = sm f n + (if k < n then pw k * (v - f k) else 0)
  | 0 => by simp [sm]
  | n + 1 => by
    rw [sm, sm, sm_upd f k v n, upd]
    by_cases e : n = k
    · subst e; rw [if_pos rfl, if_neg (by omega), if_pos (by omega), Int.mul_sub]; omega
    · rw [if_neg e]
      by_cases h : k < n
      · rw [if_pos h, if_pos (by omega)]; omega
      · rw [if_neg h, if_neg (by omega)]; omega
/-- a row of limbs -/
def RowOf (f : Nat → Int) (n : Nat) (R : Array Value) : Prop := R.size = n ∧ ∀ k, k < n → R[k]? = some (.int .u64 (f k))
theorem RowOf.set {f : Nat → Int} {n : Nat} {R : Array Value} (h : RowOf f n R) (k : Nat) (v : Int) : RowOf (upd f k v) n (R.setIfInBounds k (.int .u64 v)) := by
  refine ⟨by simpa using h.1, fun i hi => ?_⟩
  by_cases e : i = k
  · subst e; rw [Array.getElem?_setIfInBounds_self_of_lt (by rw [h.1]; exact hi), upd, if_pos rfl]
  · rw [Array.getElem?_setIfInBounds_ne (fun c => e c.symm), h.2 i hi, upd, if_neg e]
theorem run_index4 (x : Int) (k : Nat) (hk : k < 4) (w : World) : (Instr.index 24 (.agg #[.int .u64 (d x 0), .int .u64 (d x 1), .int .u64 (d x 2), .int .u64 (d x 3)]) (.int .i64 (k : Int))).run Try.prog w = .ok (.int .u64 (d x k)) w := by
  have h1 : (0 : Int) ≤ (k : Int) ∧ (k : Int) < ((4 : Nat) : Int) := by omega
  have h2 : (sizeOf 22).run Try.prog w = .ok 1 w := by kernel_rfl
  have h := atQ4 x k hk
  generalize (#[.int .u64 (d x 0), .int .u64 (d x 1), .int .u64 (d x 2), .int .u64 (d x 3)] : Array Value) = R at h
  simp [Instr.index, asIntOf, run_underlying Try.underlying24, h1, part, h2, h]
  intro h4
  omega
end Go.Proofs.Ytiglhgcckceikaa
