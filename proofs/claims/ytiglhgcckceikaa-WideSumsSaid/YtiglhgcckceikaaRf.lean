/- Differences of bits, as the document's answer makes them. -/
import Derived.Test.YtiglhgcckceikaaRe
namespace Go.Proofs.Ytiglhgcckceikaa
open Go.RowKit

theorem sub_step (x y Z M k : Nat) (bx b2 c : Bool) (hk : k < M) (hZ : Z + y = x + (if x < y then 2 ^ M else 0)) (hx : x.testBit k = bx) (hy : y.testBit k = b2) (hc : cyb Z y k = c) :
    Z.testBit k = ((bx != b2) != c) ∧ cyb Z y (k + 1) = ((!bx && (b2 || c)) || (b2 && c)) := by
  obtain ⟨bz, hz⟩ : ∃ bz, Z.testBit k = bz := ⟨_, rfl⟩
  obtain ⟨h1, h2⟩ := add_step Z y k bz b2 c hz hy hc
  have h3 : (Z + y).testBit k = bx := by
    rw [hZ]
    by_cases h : x < y
    · rw [if_pos h, Nat.add_comm, Nat.testBit_two_pow_add_gt hk, hx]
    · rw [if_neg h, Nat.add_zero, hx]
  rw [h3] at h1
  rw [hz, h2]
  clear hx hy hc h2 h3 hz hZ
  revert h1
  cases bx <;> cases b2 <;> cases c <;> cases bz <;> decide
theorem sub_end (x y Z M : Nat) (hZ : Z + y = x + (if x < y then 2 ^ M else 0)) (hz : Z < 2 ^ M) (hy : y < 2 ^ M) (hx : x < 2 ^ M) : cyb Z y M = decide (x < y) := by
  rw [cyb, Nat.mod_eq_of_lt hz, Nat.mod_eq_of_lt hy, hZ]
  by_cases h : x < y
  · rw [if_pos h]; exact (decide_eq_true (by omega)).trans (decide_eq_true h).symm
  · rw [if_neg h]; exact (decide_eq_false (by omega)).trans (decide_eq_false h).symm

set_option maxRecDepth 100000 in
set_option maxHeartbeats 2000000 in
theorem rsubF_any (ao a2 : Option Addr) (cap cap2 x n y m Z M : Nat) (w : World) (hx : x < 2 ^ n) (hB : Bs ao x n w) (hy : y < 2 ^ m) (hB2 : Bs a2 y m w) (hn : n ≤ 5000) (hm : m ≤ 5000) (hM : max n m = M)
    (hz : Z < 2 ^ M) (hZ : Z + y = x + (if x < y then 2 ^ M else 0)) :
    Calls Try.prog 13 #[.slice ao n cap, .slice a2 m cap2] w fun e w' => ∃ a3 cap3, e = .returned (.tuple #[.slice a3 M cap3, .bool (decide (x < y))]) ∧ Bs a3 Z M w' ∧ (∀ p, a3 = some p → w.heap.size ≤ p.block) ∧ Below w.heap.size w w' := by
  have HB := Lib.hid hB
  have HX := Lib.hid hx
  have HB2 := Lib.hid hB2
  have HY := Lib.hid hy
  have HZ := Lib.hid hZ
  have HM := Lib.hid hM
  have HE := Lib.hid (sub_end x y Z M hZ hz (Nat.lt_of_lt_of_le hy (Nat.pow_le_pow_right (by decide) (by omega))) (Nat.lt_of_lt_of_le hx (Nat.pow_le_pow_right (by decide) (by omega))))
  have hMi : max (n : Int) (m : Int) = (M : Int) := by omega
  obtain ⟨lt, hlt⟩ : ∃ lt, decide (x < y) = lt := ⟨_, rfl⟩
  rw [hlt] at HE ⊢
  clear hB hx hB2 hy hM hZ hz hlt
  go_enter Try.func13, Try.ntmps13
  go_wp2
  go_loopw [6, 7, 8] (fun v c i wr => ∃ k : Nat, k ≤ M ∧ i = .int .i64 (k : Int) ∧ c = .bool (cyb Z y k) ∧ wr.ownsRow w.heap.size 4 1 v k (bitsV Z k) ∧ Below w.heap.size w wr)
    (fun _ _ i _ => M - (intOf i).toNat)
  case atStart => exact ⟨0, by omega, rfl, by rw [cyb_zero], World.ownsRow_nil _ _ _ _, Below.refl _ _⟩
  case round =>
    obtain ⟨k, hk, rfl, rfl, hown, hbe⟩ := hrel
    have hz := hbe.size
    have HO := Lib.hid hown
    clear hown
    obtain ⟨c, hc⟩ : ∃ c, cyb Z y k = c := ⟨_, rfl⟩
    rw [hc]
    have HC := Lib.hid hc
    clear hc
    by_cases hkm : k < M
    · have k1 : (k : Int) < (M : Int) := by omega
      obtain ⟨bx, hbx⟩ : ∃ bx, x.testBit k = bx := ⟨_, rfl⟩
      obtain ⟨b2, hb2⟩ : ∃ b2, y.testBit k = b2 := ⟨_, rfl⟩
      have HS := Lib.hid (sub_step x y Z M k bx b2 c hkm HZ.out hbx hb2 HC.out)
      have HB1 := Lib.hid (HB.out.below hbe (Nat.le_refl _))
      have HB3 := Lib.hid (HB2.out.below hbe (Nat.le_refl _))
      have HT1 := Lib.hid (bit_any ao cap x n k wr HX.out HB1.out)
      have HT2 := Lib.hid (bit_any a2 cap2 y m k wr HY.out HB3.out)
      rw [tb_nat, hbx] at HT1
      rw [tb_nat, hb2] at HT2
      clear hbx hb2 HB1 HB3
      have hk2 : k ≤ 100000 := by have := HM.out; omega
      cases bx <;> cases b2 <;> cases c
      all_goals
        go_wp2_with (first
          | (go_at_call 36; with_reducible refine (HT1.out).mono ?_; rintro e wb ⟨rfl, rfl⟩)
          | (go_at_call 36; with_reducible refine (HT2.out).mono ?_; rintro e wb ⟨rfl, rfl⟩)
          | (at_builtin; refine append_bit rfl _ _ rfl rfl rfl HO.out HS.out.1.symm hk2 hbe hz ?_))
        intro v' wa hown1 hb1 hz1
        clear HO hbe hz HT1 HT2
        go_wp2
        go_roundw
        case rel => exact ⟨k + 1, by omega, by go_num, by rw [HS.out.2]; rfl, hown1, hb1⟩
        case measure => simp [intOf] <;> omega
    · have k1 : ¬ (k : Int) < (M : Int) := by omega
      have ek : k = M := by omega
      subst ek
      have hct : c = lt := HC.out.symm.trans HE.out
      subst hct
      have hfr := fun k e => (HO.out.lt k e).1
      obtain ⟨a3, cap3, rfl, _, h2⟩ := Bs.of_own HO.out
      have HF := Lib.hid (show ∀ p, a3 = some p → w.heap.size ≤ p.block from fun p e => hfr p.block (by rw [e]; rfl))
      clear hfr
      have H2 := Lib.hid h2
      clear h2
      go_wp2
      refine bodyPost_ret (v := .tuple #[.slice a3 k cap3, .bool c]) (by simp [results, Try.results13, go_sem, *]) rfl ?_
      exact ⟨_, ⟨_, rfl⟩, H2.out, HF.out, hbe⟩
theorem rsub_any (ao a2 : Option Addr) (cap cap2 x n y m Z M : Nat) (w : World) (hx : x < 2 ^ n) (hB : Bs ao x n w) (hy : y < 2 ^ m) (hB2 : Bs a2 y m w) (hn : n ≤ 5000) (hm : m ≤ 5000) (hM : max n m = M)
    (hz : Z < 2 ^ M) (hZ : Z + y = x + (if x < y then 2 ^ M else 0)) :
    Calls Try.prog 13 #[.slice ao n cap, .slice a2 m cap2] w fun e w' => ∃ a3 cap3, e = .returned (.tuple #[.slice a3 M cap3, .bool (decide (x < y))]) ∧ Bs a3 Z M w' ∧ Below w.heap.size w w' :=
  (rsubF_any ao a2 cap cap2 x n y m Z M w hx hB hy hB2 hn hm hM hz hZ).mono fun _ _ ⟨a3, c3, h1, h2, _, h4⟩ => ⟨a3, c3, h1, h2, h4⟩
end Go.Proofs.Ytiglhgcckceikaa
