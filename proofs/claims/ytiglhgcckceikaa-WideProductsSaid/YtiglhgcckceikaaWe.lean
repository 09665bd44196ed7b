/- How many bits a number of limbs has without noughts ahead, by the program. -/
import Derived.Test.YtiglhgcckceikaaWd
import Derived.Test.YtiglhgcckceikaaWs
import Derived.Lib.ItoaNum
namespace Go.Proofs.Ytiglhgcckceikaa
open Go.RowKit

/-- how many bits a number has -/
def blN (x : Nat) : Nat := if x = 0 then 0 else Nat.log2 x + 1
def bl (x : Int) : Int := (blN x.toNat : Int)
theorem blN_bounds (x : Nat) (h : x ≠ 0) : 1 ≤ blN x ∧ 2 ^ (blN x - 1) ≤ x ∧ x < 2 ^ blN x := by
  rw [blN, if_neg h]
  refine ⟨by omega, ?_, Nat.lt_log2_self⟩
  rw [Nat.add_sub_cancel]; exact Nat.log2_self_le h
theorem blN_unique (x m : Nat) (h1 : 1 ≤ m) (h2 : 2 ^ (m - 1) ≤ x) (h3 : x < 2 ^ m) : blN x = m := by
  have hx : x ≠ 0 := by have := Nat.two_pow_pos (m - 1); omega
  obtain ⟨g1, g2, g3⟩ := blN_bounds x hx
  have a : blN x - 1 < m := (Nat.pow_lt_pow_iff_right (by decide)).1 (Nat.lt_of_le_of_lt g2 h3)
  have b : m - 1 < blN x := (Nat.pow_lt_pow_iff_right (by decide)).1 (Nat.lt_of_le_of_lt h2 g3)
  omega
theorem blN_zero : blN 0 = 0 := rfl
theorem blN_le (x m : Nat) (h : x < 2 ^ m) : blN x ≤ m := by
  by_cases hx : x = 0
  · subst hx; rw [blN_zero]; omega
  · obtain ⟨g1, g2, _⟩ := blN_bounds x hx
    have a : blN x - 1 < m := (Nat.pow_lt_pow_iff_right (by decide)).1 (Nat.lt_of_le_of_lt g2 h)
    omega
theorem bitLen_blN (x : Nat) (h : x < 2 ^ 64) : Lib.bitLen x = blN x := by
  by_cases hx : x = 0
  · subst hx; rfl
  · obtain ⟨g1, g2, g3⟩ := Lib.bitLenAux_bounds 64 x h hx
    exact (blN_unique x _ g1 g2 g3).symm
theorem pw_nat (k : Nat) : pw k = ((2 ^ (64 * k) : Nat) : Int) := by
  rw [pw, Nat.pow_mul, Int.natCast_pow]; rfl
/-- the bits of a number whose highest limb is number k -/
theorem blN_top (x k t : Nat) (ht : x / 2 ^ (64 * k) = t) (h0 : t ≠ 0) : blN x = 64 * k + blN t := by
  obtain ⟨g1, g2, g3⟩ := blN_bounds t h0
  have hp : 0 < 2 ^ (64 * k) := Nat.two_pow_pos _
  have hd := Nat.div_add_mod x (2 ^ (64 * k))
  have hm := Nat.mod_lt x hp
  rw [ht] at hd
  refine blN_unique x _ (by omega) ?_ ?_
  · rw [show 64 * k + blN t - 1 = 64 * k + (blN t - 1) by omega, Nat.pow_add]
    have := Nat.mul_le_mul_left (2 ^ (64 * k)) g2
    omega
  · rw [Nat.pow_add]
    have := Nat.mul_le_mul_left (2 ^ (64 * k)) (show t + 1 ≤ 2 ^ blN t from g3)
    rw [Nat.mul_add] at this
    omega
theorem bl_top (x : Int) (k : Nat) (hx : 0 ≤ x) (h : x / pw (k + 1) = 0) (h0 : d x k ≠ 0) : bl x = 64 * (k : Int) + (blN (d x k).toNat : Int) := by
  have h1 := div_step x k
  rw [h, Int.mul_zero, Int.add_zero] at h1
  obtain ⟨n, rfl⟩ := Int.eq_ofNat_of_zero_le hx
  have h2 : n / 2 ^ (64 * k) = (d (n : Int) k).toNat := by
    have : ((n / 2 ^ (64 * k) : Nat) : Int) = d (n : Int) k := by rw [← h1, pw_nat, Int.natCast_ediv]
    rw [← this, Int.toNat_natCast]
  have h3 := blN_top n k _ h2 (by have := d_lo (n : Int) k; omega)
  rw [bl, Int.toNat_natCast, h3]
  omega

theorem len64_any (x : Int) (m : Nat) (w : World) (h0 : 0 ≤ x) (h1 : x < 18446744073709551616) (hm : blN x.toNat = m) :
    Calls Try.prog 50 #[.int .u64 x] w fun e w' => e = .returned (.int .i64 (m : Int)) ∧ w = w' := by
  have h := Try.bits_Len64 x w h0 (by omega)
  rw [bitLen_blN x.toNat (by omega), hm] at h
  exact h.mono fun _ _ h => ⟨h.1, h.2.symm⟩

set_option maxRecDepth 100000 in
set_option maxHeartbeats 1000000 in
theorem bitLen4_fn (A : Array Value) (x : Int) (w : World) (hA : A = #[.int .u64 (d x 0), .int .u64 (d x 1), .int .u64 (d x 2), .int .u64 (d x 3)]) (hx : In 4 x) :
    Calls Try.prog 41 #[.agg A] w fun e w' => e = .returned (.int .i64 (bl x)) ∧ Below w.heap.size w w' := by
  subst hA
  go_enter Try.func41, Try.ntmps41
  go_wp2
  go_loopw [3] (fun i wr => ∃ k : Nat, k ≤ 4 ∧ i = .int .i64 ((k : Int) - 1) ∧ Hid (x / pw k = 0) ∧ Hid (wr.heap[w.heap.size]? = some (.cells #[.int .u64 (d x 0), .int .u64 (d x 1), .int .u64 (d x 2), .int .u64 (d x 3)] 24 (0, 0))) ∧ Below w.heap.size w wr)
    (fun i _ => (intOf i + 1).toNat)
  case atStart => exact ⟨4, by omega, rfl, Lib.hid (div_zero 4 x hx), Lib.hid (heap_alloc_new w _), below1' _ _⟩
  case round =>
    obtain ⟨k, hk, rfl, HE, HL, hbe⟩ := hrel
    by_cases hpos : 0 < k
    · obtain ⟨j, rfl⟩ : ∃ j, k = j + 1 := ⟨k - 1, by omega⟩
      have hak := (arow_cell HL.out j).trans (atQ4 x j (by omega))
      obtain ⟨j0, l0⟩ : (0 ≤ (j : Int)) ∧ ((j : Int) < 4) := ⟨by omega, by omega⟩
      rw [show (((j + 1 : Nat) : Int) - 1) = (j : Int) by omega]
      by_cases he : d x j = 0
      · have e1 : (d x j == 0) = true := by simpa using he
        have e2 : (d x j != 0) = false := by simpa using he
        have HE2 := Lib.hid (show x / pw j = 0 by rw [div_step, he, HE.out]; rfl)
        clear he
        go_wp2
        go_roundw
        case rel => exact ⟨j, by omega, by go_num, HE2, HL, hbe⟩
        case measure => simp [intOf] <;> omega
      · have e1 : (d x j == 0) = false := by simpa using he
        have e2 : (d x j != 0) = true := by simpa using he
        have HE2 := Lib.hid (bl_top x j hx.1 HE.out he)
        obtain ⟨m, hm⟩ : ∃ m, blN (d x j).toNat = m := ⟨_, rfl⟩
        have hm64 : m ≤ 64 := by have := blN_le (d x j).toNat 64 (by have := d_hi x j; have := d_lo x j; omega); omega
        have HM := Lib.hid hm
        clear he hm
        go_wp2_with (go_at_call 50; refine (len64_any _ m _ (d_lo x j) (d_hi x j) HM.out).mono ?_; rintro e w1 ⟨rfl, rfl⟩)
        go_ret
        exact ⟨by rw [HE2.out, HM.out, Int.mul_comm]; rfl, hbe⟩
    · have ek : Hid (k = 0) := Lib.hid (by omega)
      have HX := Lib.hid (show x = 0 by have := HE.out; rw [ek.out, div_zero'] at this; exact this)
      go_wp2
      go_ret
      exact ⟨by rw [HX.out]; rfl, hbe⟩

set_option maxHeartbeats 1000000 in
theorem bitLen4_any (A : Array Value) (x : Int) (w : World) (hA : A = #[.int .u64 (d x 0), .int .u64 (d x 1), .int .u64 (d x 2), .int .u64 (d x 3)]) (hx : In 4 x) :
    Calls Try.prog 19 #[.agg A] w fun e w' => e = .returned (.int .i64 (bl x)) ∧ Below w.heap.size w w' := by
  subst hA
  go_enter Try.func19, Try.ntmps19
  go_wp2_with (go_at_call 41; refine (bitLen4_fn _ x _ rfl hx).mono ?_; rintro e w1 ⟨rfl, hb⟩)
  go_ret
  exact ⟨rfl, (below1' w _).trans (hb.mono (by simp))⟩

set_option maxRecDepth 100000 in
set_option maxHeartbeats 1000000 in
theorem bitLen8_fn (A : Array Value) (x : Int) (w : World) (hA : A = #[.int .u64 (d x 0), .int .u64 (d x 1), .int .u64 (d x 2), .int .u64 (d x 3), .int .u64 (d x 4), .int .u64 (d x 5), .int .u64 (d x 6), .int .u64 (d x 7)]) (hx : In 8 x) :
    Calls Try.prog 42 #[.agg A] w fun e w' => e = .returned (.int .i64 (bl x)) ∧ Below w.heap.size w w' := by
  subst hA
  go_enter Try.func42, Try.ntmps42
  go_wp2
  go_loopw [3] (fun i wr => ∃ k : Nat, k ≤ 8 ∧ i = .int .i64 ((k : Int) - 1) ∧ Hid (x / pw k = 0) ∧ Hid (wr.heap[w.heap.size]? = some (.cells #[.int .u64 (d x 0), .int .u64 (d x 1), .int .u64 (d x 2), .int .u64 (d x 3), .int .u64 (d x 4), .int .u64 (d x 5), .int .u64 (d x 6), .int .u64 (d x 7)] 26 (0, 0))) ∧ Below w.heap.size w wr)
    (fun i _ => (intOf i + 1).toNat)
  case atStart => exact ⟨8, by omega, rfl, Lib.hid (div_zero 8 x hx), Lib.hid (heap_alloc_new w _), below1' _ _⟩
  case round =>
    obtain ⟨k, hk, rfl, HE, HL, hbe⟩ := hrel
    by_cases hpos : 0 < k
    · obtain ⟨j, rfl⟩ : ∃ j, k = j + 1 := ⟨k - 1, by omega⟩
      have hak := (arow_cell HL.out j).trans (atQ8 x j (by omega))
      obtain ⟨j0, l0⟩ : (0 ≤ (j : Int)) ∧ ((j : Int) < 8) := ⟨by omega, by omega⟩
      rw [show (((j + 1 : Nat) : Int) - 1) = (j : Int) by omega]
      by_cases he : d x j = 0
      · have e1 : (d x j == 0) = true := by simpa using he
        have e2 : (d x j != 0) = false := by simpa using he
        have HE2 := Lib.hid (show x / pw j = 0 by rw [div_step, he, HE.out]; rfl)
        clear he
        go_wp2
        go_roundw
        case rel => exact ⟨j, by omega, by go_num, HE2, HL, hbe⟩
        case measure => simp [intOf] <;> omega
      · have e1 : (d x j == 0) = false := by simpa using he
        have e2 : (d x j != 0) = true := by simpa using he
        have HE2 := Lib.hid (bl_top x j hx.1 HE.out he)
        obtain ⟨m, hm⟩ : ∃ m, blN (d x j).toNat = m := ⟨_, rfl⟩
        have hm64 : m ≤ 64 := by have := blN_le (d x j).toNat 64 (by have := d_hi x j; have := d_lo x j; omega); omega
        have HM := Lib.hid hm
        clear he hm
        go_wp2_with (go_at_call 50; refine (len64_any _ m _ (d_lo x j) (d_hi x j) HM.out).mono ?_; rintro e w1 ⟨rfl, rfl⟩)
        go_ret
        exact ⟨by rw [HE2.out, HM.out, Int.mul_comm]; rfl, hbe⟩
    · have ek : Hid (k = 0) := Lib.hid (by omega)
      have HX := Lib.hid (show x = 0 by have := HE.out; rw [ek.out, div_zero'] at this; exact this)
      go_wp2
      go_ret
      exact ⟨by rw [HX.out]; rfl, hbe⟩

set_option maxHeartbeats 1000000 in
theorem bitLen8_any (A : Array Value) (x : Int) (w : World) (hA : A = #[.int .u64 (d x 0), .int .u64 (d x 1), .int .u64 (d x 2), .int .u64 (d x 3), .int .u64 (d x 4), .int .u64 (d x 5), .int .u64 (d x 6), .int .u64 (d x 7)]) (hx : In 8 x) :
    Calls Try.prog 21 #[.agg A] w fun e w' => e = .returned (.int .i64 (bl x)) ∧ Below w.heap.size w w' := by
  subst hA
  go_enter Try.func21, Try.ntmps21
  go_wp2_with (go_at_call 42; refine (bitLen8_fn _ x _ rfl hx).mono ?_; rintro e w1 ⟨rfl, hb⟩)
  go_ret
  exact ⟨rfl, (below1' w _).trans (hb.mono (by simp))⟩
end Go.Proofs.Ytiglhgcckceikaa
