/- Products of bits, as the document's answer makes them. -/
import Derived.Test.YtiglhgcckceikaaRc
import Derived.Test.YtiglhgcckceikaaRe
namespace Go.Proofs.Ytiglhgcckceikaa
open Go.RowKit

theorem mul_step (x y k : Nat) (b : Bool) (h : y.testBit k = b) : x * (y % 2 ^ (k + 1)) = x * (y % 2 ^ k) + (if b then x * 2 ^ k else 0) := by
  rw [mod_succ, h, Nat.mul_add]
  cases b <;> simp

set_option maxRecDepth 100000 in
set_option maxHeartbeats 2000000 in
theorem rmul_any (ao a2 : Option Addr) (cap cap2 x n y m : Nat) (w : World) (hx : x < 2 ^ n) (hB : Bs ao x n w) (hy : y < 2 ^ m) (hB2 : Bs a2 y m w) (hn : n ≤ 512) (hm : m ≤ 512) :
    Calls Try.prog 25 #[.slice ao n cap, .slice a2 m cap2] w fun e w' => ∃ a3 N cap3, e = .returned (.slice a3 N cap3) ∧ N ≤ 2000 ∧ x * y < 2 ^ N ∧ Bs a3 (x * y) N w' ∧ Below w.heap.size w w' := by
  have HB := Lib.hid hB
  have HX := Lib.hid hx
  have HB2 := Lib.hid hB2
  have HY := Lib.hid hy
  clear hB hx hB2 hy
  go_enter Try.func25, Try.ntmps25
  go_wp2
  go_loopw [5, 6] (fun v i wr => ∃ k : Nat, k ≤ m ∧ i = .int .i64 (k : Int) ∧ (∃ ao' N cap', v = .slice ao' N cap' ∧ N ≤ n + m + k ∧ Hid (x * (y % 2 ^ k) < 2 ^ N) ∧ Hid (Bs ao' (x * (y % 2 ^ k)) N wr)) ∧ Below w.heap.size w wr)
    (fun _ i _ => m - (intOf i).toNat)
  case atStart => exact ⟨0, by omega, rfl, ⟨none, 0, 0, rfl, by omega, Lib.hid (by rw [Nat.pow_zero, Nat.mod_one, Nat.mul_zero]; exact Nat.one_pos), Lib.hid (.inl rfl)⟩, Below.refl _ _⟩
  case round =>
    obtain ⟨k, hk, rfl, ⟨ao', N, cap', rfl, hN, HP, HO⟩, hbe⟩ := hrel
    by_cases hkm : k < m
    · have k1 : (k : Int) < (m : Int) := by omega
      obtain ⟨b, rfl, hc⟩ := (HB2.out.below hbe (Nat.le_refl _)).cell k hkm
      obtain ⟨bx, hbx⟩ : ∃ bx, y.testBit k = bx := ⟨_, rfl⟩
      rw [hbx] at hc
      have HS := Lib.hid (mul_step x y k bx hbx)
      clear hbx
      cases bx
      · have HS2 := Lib.hid (show x * (y % 2 ^ (k + 1)) = x * (y % 2 ^ k) by rw [HS.out]; simp)
        go_wp2
        go_roundw
        case rel => exact ⟨k + 1, by omega, by go_num, ⟨ao', N, cap', rfl, by omega, Lib.hid (by rw [HS2.out]; exact HP.out), Lib.hid (by rw [HS2.out]; exact HO.out)⟩, hbe⟩
        case measure => simp [intOf] <;> omega
      · have HS2 := Lib.hid (show x * (y % 2 ^ (k + 1)) = x * (y % 2 ^ k) + x * 2 ^ k by rw [HS.out]; simp)
        have HB1 := Lib.hid (HB.out.below hbe (Nat.le_refl _))
        have HX2 := Lib.hid (show x * 2 ^ k < 2 ^ (n + k) by rw [Nat.pow_add]; exact Nat.mul_lt_mul_of_pos_right HX.out (Nat.two_pow_pos k))
        obtain ⟨A, hA⟩ : ∃ A, x * (y % 2 ^ k) = A := ⟨_, rfl⟩
        rw [hA] at HP HO HS2
        clear hA HS
        go_wp2_with (go_at_call 31; refine (shift_up ao cap x n k _ HX.out HB1.out (by omega) (by omega)).mono ?_; rintro e w1 ⟨a4, cap4, rfl, hc4, hB4, hb4⟩)
        have HB4 := Lib.hid hB4
        have HO1 := Lib.hid (HO.out.below hb4 (Nat.le_refl _))
        refine (radd_any ao' a4 cap' cap4 A N (x * 2 ^ k) (n + k) w1 HP.out HO1.out HX2.out HB4.out (by omega) (by omega)).mono ?_
        rintro e w2 ⟨a5, N5, cap5, rfl, hN5, hP5, hB5, hb5⟩
        have hbe2 := hbe.trans ((hb4.mono hbe.size).trans (hb5.mono (Nat.le_trans hbe.size hb4.size)))
        have HP5 := Lib.hid hP5
        have HB5 := Lib.hid hB5
        clear hb4 hb5 hbe hB4 hB5 hP5 HB1 HO HO1 HB4 hc4
        go_wp2
        go_roundw
        case rel => exact ⟨k + 1, by omega, by go_num, ⟨a5, N5, cap5, rfl, by omega, Lib.hid (by rw [HS2.out]; exact HP5.out), Lib.hid (by rw [HS2.out]; exact HB5.out)⟩, hbe2⟩
        case measure => simp [intOf] <;> omega
    · have k1 : ¬ (k : Int) < (m : Int) := by omega
      have ek : k = m := by omega
      subst ek
      have hmod : y % 2 ^ k = y := Nat.mod_eq_of_lt HY.out
      rw [hmod] at HP HO
      clear hmod
      go_wp2
      go_ret
      exact ⟨_, N, ⟨_, rfl⟩, by omega, HP.out, HO.out, hbe⟩
end Go.Proofs.Ytiglhgcckceikaa
