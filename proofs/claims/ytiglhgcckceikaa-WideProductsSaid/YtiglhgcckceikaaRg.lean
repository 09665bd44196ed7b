/- How bits compare, and how many there are, as the document's answer says it. -/
import Derived.Test.YtiglhgcckceikaaRa
import Derived.Test.YtiglhgcckceikaaWd
import Derived.Test.YtiglhgcckceikaaWe
import Derived.IntWalk
namespace Go.Proofs.Ytiglhgcckceikaa
open Go.RowKit

theorem div_bit (x k : Nat) : x / 2 ^ k = 2 * (x / 2 ^ (k + 1)) + (x.testBit k).toNat := by
  rw [Nat.toNat_testBit, Nat.pow_succ, ← Nat.div_div_eq_div_mul]
  omega
theorem cmp_at (x y k : Nat) (h : x / 2 ^ (k + 1) = y / 2 ^ (k + 1)) (hx : x.testBit k = true) (hy : y.testBit k = false) : y < x := by
  have h1 := div_bit x k
  have h2 := div_bit y k
  rw [hx] at h1; rw [hy] at h2
  simp at h1 h2
  have h3 : y / 2 ^ k < x / 2 ^ k := by omega
  exact Nat.lt_of_not_le fun c => Nat.not_le_of_lt h3 (Nat.div_le_div_right c)
theorem cmp_on (x y k : Nat) (h : x / 2 ^ (k + 1) = y / 2 ^ (k + 1)) (hb : x.testBit k = y.testBit k) : x / 2 ^ k = y / 2 ^ k := by
  rw [div_bit x k, div_bit y k, h, hb]

set_option maxRecDepth 100000 in
set_option maxHeartbeats 2000000 in
theorem rcmp_any (ao a2 : Option Addr) (cap cap2 x n y m : Nat) (w : World) (hx : x < 2 ^ n) (hB : Bs ao x n w) (hy : y < 2 ^ m) (hB2 : Bs a2 y m w) (hn : n ≤ 5000) (hm : m ≤ 5000) :
    Calls Try.prog 17 #[.slice ao n cap, .slice a2 m cap2] w fun e w' => e = .returned (.int .i64 (cmpI x y)) ∧ Below w.heap.size w w' := by
  obtain ⟨M, hM⟩ : ∃ M, max n m = M := ⟨_, rfl⟩
  have hMi : max (n : Int) (m : Int) = (M : Int) := by omega
  have HT1 := Lib.hid (fun (k : Nat) => tb_nat x k ▸ bit_any ao cap x n (k : Int) w hx hB)
  have HT2 := Lib.hid (fun (k : Nat) => tb_nat y k ▸ bit_any a2 cap2 y m (k : Int) w hy hB2)
  have hx0 : x / 2 ^ M = 0 := Nat.div_eq_of_lt (Nat.lt_of_lt_of_le hx (Nat.pow_le_pow_right (by decide) (by omega)))
  have hy0 : y / 2 ^ M = 0 := Nat.div_eq_of_lt (Nat.lt_of_lt_of_le hy (Nat.pow_le_pow_right (by decide) (by omega)))
  have HE := Lib.hid (hx0.trans hy0.symm)
  have hM5 : M ≤ 5000 := by omega
  have w1 : IntKind.i64.wrap ((M : Int) - 1) = (M : Int) - 1 := IntWalk.i64_in _ (by omega)
  clear hx hB hy hB2 hM hx0 hy0
  go_enter Try.func17, Try.ntmps17
  go_wp2
  go_loopw [5] (fun i wr => ∃ k : Nat, k ≤ M ∧ i = .int .i64 ((k : Int) - 1) ∧ Hid (x / 2 ^ k = y / 2 ^ k) ∧ wr = w)
    (fun i _ => (intOf i + 1).toNat)
  case atStart => exact ⟨M, Nat.le_refl _, rfl, HE, rfl⟩
  case round =>
    obtain ⟨k, hk, rfl, HD, rfl⟩ := hrel
    by_cases h0 : k = 0
    · subst h0
      have he : x = y := by have := HD.out; simpa using this
      have hc : cmpI (x : Int) (y : Int) = 0 := by rw [he, cmpI_eq]
      have HCC := Lib.hid hc
      clear hc
      go_wp2
      go_ret
      exact ⟨by rw [HCC.out]; rfl, Below.refl _ _⟩
    · obtain ⟨j, rfl⟩ : ∃ j, k = j + 1 := ⟨k - 1, by omega⟩
      have ej : ((j + 1 : Nat) : Int) - 1 = (j : Int) := by omega
      rw [ej]
      clear ej h0
      obtain ⟨bx, hbx⟩ : ∃ bx, x.testBit j = bx := ⟨_, rfl⟩
      obtain ⟨b2, hb2⟩ : ∃ b2, y.testBit j = b2 := ⟨_, rfl⟩
      have HS1 := Lib.hid (HT1.out j)
      have HS2 := Lib.hid (HT2.out j)
      rw [hbx] at HS1
      rw [hb2] at HS2
      have HA := Lib.hid hbx
      have HB := Lib.hid hb2
      clear hbx hb2
      have j0 : (0 : Int) ≤ (j : Int) := by omega
      have w2 : IntKind.i64.wrap ((j : Int) - 1) = (j : Int) - 1 := IntWalk.i64_in _ (by omega)
      by_cases hb : bx = b2
      · subst hb
        have HD2 := Lib.hid (cmp_on x y j HD.out (HA.out.trans HB.out.symm))
        go_wp2_with (first
          | (go_at_call 36; with_reducible refine (HS1.out).mono ?_; rintro e wb ⟨rfl, rfl⟩)
          | (go_at_call 36; with_reducible refine (HS2.out).mono ?_; rintro e wb ⟨rfl, rfl⟩))
        go_roundw
        case rel => exact ⟨j, by omega, rfl, HD2, trivial⟩
        case measure => simp [intOf] <;> omega
      · cases bx
        · cases b2
          · exact absurd rfl hb
          · have hc : cmpI (x : Int) (y : Int) = -1 := cmpI_lt (Int.ofNat_lt.2 (cmp_at y x j HD.out.symm HB.out HA.out))
            have HCC := Lib.hid hc
            clear hc
            go_wp2_with (first
              | (go_at_call 36; with_reducible refine (HS1.out).mono ?_; rintro e wb ⟨rfl, rfl⟩)
              | (go_at_call 36; with_reducible refine (HS2.out).mono ?_; rintro e wb ⟨rfl, rfl⟩))
            go_ret
            exact ⟨by rw [HCC.out]; rfl, Below.refl _ _⟩
        · cases b2
          · have hc : cmpI (x : Int) (y : Int) = 1 := cmpI_gt (Int.ofNat_lt.2 (cmp_at x y j HD.out HA.out HB.out))
            have HCC := Lib.hid hc
            clear hc
            go_wp2_with (first
              | (go_at_call 36; with_reducible refine (HS1.out).mono ?_; rintro e wb ⟨rfl, rfl⟩)
              | (go_at_call 36; with_reducible refine (HS2.out).mono ?_; rintro e wb ⟨rfl, rfl⟩))
            go_ret
            exact ⟨by rw [HCC.out]; rfl, Below.refl _ _⟩
          · exact absurd rfl hb

set_option maxRecDepth 100000 in
set_option maxHeartbeats 2000000 in
theorem rlen_any (ao : Option Addr) (cap x n : Nat) (w : World) (hx : x < 2 ^ n) (hB : Bs ao x n w) (hn : n ≤ 5000) :
    Calls Try.prog 20 #[.slice ao n cap] w fun e w' => e = .returned (.int .i64 (bl (x : Int))) ∧ Below w.heap.size w w' := by
  have HB := Lib.hid hB
  have HX := Lib.hid hx
  clear hB hx
  go_enter Try.func20, Try.ntmps20
  go_wp2
  go_loopw [3] (fun i wr => ∃ k : Nat, k ≤ n ∧ i = .int .i64 (k : Int) ∧ Hid (x < 2 ^ k) ∧ wr = w) (fun i _ => (intOf i).toNat)
  case atStart => exact ⟨n, Nat.le_refl _, rfl, HX, rfl⟩
  case round =>
    obtain ⟨k, hk, rfl, HK, rfl⟩ := hrel
    by_cases h0 : k = 0
    · subst h0
      have hc : bl (x : Int) = 0 := by
        have := HK.out
        rw [show x = 0 by omega]; rfl
      have HCC := Lib.hid hc
      clear hc
      go_wp2
      go_ret
      exact ⟨by rw [HCC.out]; rfl, Below.refl _ _⟩
    · obtain ⟨j, rfl⟩ : ∃ j, k = j + 1 := ⟨k - 1, by omega⟩
      obtain ⟨b, rfl, hc⟩ := HB.out.cell j (by omega)
      obtain ⟨bx, hbx⟩ : ∃ bx, x.testBit j = bx := ⟨_, rfl⟩
      rw [hbx] at hc
      have HA := Lib.hid hbx
      clear hbx h0
      have w2 : IntKind.i64.wrap (((j + 1 : Nat) : Int) - 1) = (j : Int) := by rw [IntWalk.i64_in _ (by omega)]; omega
      have j0 : (0 : Int) < ((j + 1 : Nat) : Int) := by omega
      cases bx
      · have HL := Lib.hid (show x < 2 ^ j by
          have h1 := HK.out
          have h2 := mod_succ x j
          rw [HA.out, Nat.mod_eq_of_lt h1, Bool.toNat_false, Nat.mul_zero, Nat.add_zero] at h2
          rw [h2]; exact Nat.mod_lt _ (Nat.two_pow_pos j))
        go_wp2
        go_roundw
        case rel => exact ⟨j, by omega, by go_num, HL, trivial⟩
        case measure => simp [intOf] <;> omega
      · have HL := Lib.hid (show bl (x : Int) = ((j + 1 : Nat) : Int) by
          have h1 := Nat.ge_two_pow_of_testBit HA.out
          rw [bl, Int.toNat_natCast, blN_unique x (j + 1) (by omega) (by simpa using h1) HK.out])
        go_wp2
        go_ret
        exact ⟨by rw [HL.out]; rfl, Below.refl _ _⟩
end Go.Proofs.Ytiglhgcckceikaa
