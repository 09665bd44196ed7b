/- Quotients of bits: the walk. -/
import Derived.Test.YtiglhgcckceikaaRn
namespace Go.Proofs.Ytiglhgcckceikaa
open Go.RowKit

set_option maxRecDepth 100000 in
set_option maxHeartbeats 2000000 in
theorem rdiv_any (ao a2 : Option Addr) (cap cap2 x n y m : Nat) (w : World) (hx : x < 2 ^ n) (hB : Bs ao x n w) (hy : y < 2 ^ m) (hB2 : Bs a2 y m w) (hn : n ≤ 512) (hm : m ≤ 512) (hy0 : 0 < y) :
    Calls Try.prog 28 #[.slice ao n cap, .slice a2 m cap2] w fun e w' => ∃ g a3 L cap3, e = .returned (.tuple #[.slice (some ⟨g, 0, none⟩) n n, .slice a3 L cap3]) ∧ L ≤ 2000 ∧ x % y < 2 ^ L ∧ Bs (some ⟨g, 0, none⟩) (x / y) n w' ∧ Bs a3 (x % y) L w' ∧ Below w.heap.size w w' := by
  obtain ⟨i0, hi, hz0, hz1, hz2⟩ := info_parts Try.info4
  have HB := Lib.hid hB
  have HX := Lib.hid hx
  have HB2 := Lib.hid hB2
  have HY := Lib.hid hy
  have HY0 := Lib.hid hy0
  clear hB hx hB2 hy hy0
  have hm2 : n ≤ 281474976710656 := by omega
  have hm3 : n ≤ maxLen := by unfold maxLen; omega
  have w1 : IntKind.i64.wrap ((n : Int) - 1) = (n : Int) - 1 := IntWalk.i64_in _ (by omega)
  go_enter Try.func28, Try.ntmps28
  go_wp2_with (at_make; refine wpList_make_full _ rfl _ _ 28 rfl w.heap.size 4 i0 (.bool false) 1 Try.underlying28 hi hz0 hz1 _ _ _ _ n rfl rfl rfl rfl (by rw [hz2, Nat.one_mul]; exact hm2) hm3 (Nat.le_refl _) ?_)
  intro w1' hown hgrow
  rw [bitsV_zero n] at hown
  have hbe : Below w.heap.size w w1' := (Below.refl _ _).grown hgrow (Nat.le_refl _) (fun k e => by cases e)
  clear hi hz0 hz1 hz2 hm2 hm3 hgrow
  go_wp2
  go_loopw [7, 8] (fun v i wr => ∃ k : Nat, k ≤ n ∧ i = .int .i64 ((k : Int) - 1) ∧ (∃ ao' L cap', v = .slice ao' L cap' ∧ L ≤ m + (n - k) ∧ Hid (x / 2 ^ k % y < 2 ^ L) ∧ Hid (Bs ao' (x / 2 ^ k % y) L wr) ∧ Hid (0 < L ∨ (ao' = none ∧ L = 0 ∧ cap' = 0 ∧ x / 2 ^ k % y = 0))) ∧
      Hid (wr.ownsRow w.heap.size 4 1 (.slice (some ⟨w.heap.size, 0, none⟩) n n) n (bitsV (topQ x y k) n)) ∧ Below w.heap.size w wr)
    (fun _ i _ => (intOf i + 1).toNat)
  case atStart =>
    have e : x / 2 ^ n % y = 0 := by rw [Nat.div_eq_of_lt HX.out, Nat.zero_mod]
    exact ⟨n, Nat.le_refl _, rfl, ⟨none, 0, 0, rfl, by omega, Lib.hid (by rw [e]; exact Nat.one_pos), Lib.hid (.inl rfl), Lib.hid (.inr ⟨rfl, rfl, rfl, e⟩)⟩, Lib.hid (by rw [topQ_none x y n HX.out]; exact hown), hbe⟩
  case round =>
    clear hown hbe
    obtain ⟨k, hk, rfl, ⟨ao', L, cap', rfl, hL, HP, HO, HN⟩, HQ, hbe⟩ := hrel
    by_cases h0 : k = 0
    · subst h0
      rw [topQ_all] at HQ
      rw [Nat.pow_zero, Nat.div_one] at HP HO HN
      go_wp2
      refine bodyPost_ret (v := .tuple #[.slice (some ⟨w.heap.size, 0, none⟩) n n, .slice ao' L cap']) (by simp [results, Try.results28, go_sem, *]) rfl ?_
      refine ⟨_, _, _, _, rfl, by omega, HP.out, ?_, HO.out, hbe⟩
      exact .inr ⟨w.heap.size, rfl, (HQ.out.lt _ rfl).2, fun i hi => (HQ.out.cellAt i (by omega)).trans (bitsV_get _ n i hi)⟩
    · obtain ⟨j, rfl⟩ : ∃ j, k = j + 1 := ⟨k - 1, by omega⟩
      have ej : ((j + 1 : Nat) : Int) - 1 = (j : Int) := by omega
      rw [ej]
      clear ej h0
      obtain ⟨b, rfl, hc⟩ := (HB.out.below hbe (Nat.le_refl _)).cell j (by omega)
      obtain ⟨bx, hbx⟩ : ∃ bx, x.testBit j = bx := ⟨_, rfl⟩
      rw [hbx] at hc
      have HD := Lib.hid (bits_div_next x y j HY0.out bx hbx)
      obtain ⟨R, hR⟩ : ∃ R, x / 2 ^ (j + 1) % y = R := ⟨_, rfl⟩
      rw [hR] at HP HO HN HD
      clear hbx hR
      have j0 : (0 : Int) ≤ (j : Int) := by omega
      have w2 : IntKind.i64.wrap ((j : Int) - 1) = (j : Int) - 1 := IntWalk.i64_in _ (by omega)
      have jn : (j : Int) < (n : Int) := by omega
      have hz := hbe.size
      have HBT := Lib.hid (show bx = bx.toNat.testBit 0 by cases bx <;> rfl)
      have HNIL := Lib.hid (World.ownsRow_nil wr wr.heap.size 4 1)
      have HRF := Lib.hid (Below.refl wr.heap.size wr)
      have HTL := Lib.hid (show 2 * R + bx.toNat < 2 ^ (L + 1) by
        have h1 := HP.out
        have h2 : bx.toNat < 2 := by cases bx <;> decide
        rw [Nat.pow_succ]; omega)
      have hL1 : L ≤ 100000 := by omega
      go_wp2_with (at_builtin; refine append_bit rfl _ _ rfl rfl rfl HNIL.out HBT.out (by omega) HRF.out (Nat.le_refl _) ?_)
      intro v1 w2 hown1 hb1 hz1
      have HO1 := Lib.hid (HO.out.below hb1 (Nat.le_refl _))
      have HO2 := Lib.hid hown1
      have HB1 := Lib.hid hb1
      clear HNIL HRF HBT hown1 hb1 hc HO hz
      go_wp2_with (at_builtin; refine append_rest rfl _ _ rfl rfl rfl HO2.out HO1.out HN.out hL1 HB1.out hz1 ?_)
      intro v2 w3 hown2 hb2 hz2
      obtain ⟨a5, cap5, rfl, _, hB5⟩ := Bs.of_own hown2
      have HQ := Lib.hid (row_kept HQ.out hb2)
      have hbe := hbe.trans (hb2.mono hbe.size)
      have HB5 := Lib.hid hB5
      have HB2 := Lib.hid (HB2.out.below hbe (Nat.le_refl _))
      clear HO1 HO2 HB1 hz1 hown2 hb2 hz2 hB5 HN HP
      obtain ⟨T, hT⟩ : ∃ T, 2 * R + bx.toNat = T := ⟨_, rfl⟩
      rw [hT] at HB5 HD HTL
      clear hT
      have HC := Lib.hid (rcmp_any a5 a2 cap5 cap2 T (L + 1) y m w3 HTL.out HB5.out HY.out HB2.out (by omega) (by omega))
      by_cases hlt : T < y
      · have hcmp : cmpI (T : Int) (y : Int) = -1 := cmpI_lt (Int.ofNat_lt.2 hlt)
        rw [hcmp] at HC
        obtain ⟨d1, d2⟩ := HD.out.1 hlt
        have HD1 := Lib.hid d1
        have HD2 := Lib.hid d2
        clear d1 d2 HD hcmp
        go_wp2_with fail
        refine HC.out.mono ?_
        rintro e w4 ⟨rfl, hb⟩
        have HQ := Lib.hid (row_kept HQ.out hb)
        have hbe := hbe.trans (hb.mono hbe.size)
        have HB5 := Lib.hid (HB5.out.below hb (Nat.le_refl _))
        clear hb HC
        go_wp2
        go_roundw
        case rel => exact ⟨j, by omega, rfl, ⟨a5, L + 1, cap5, rfl, by omega, Lib.hid (by rw [HD1.out]; exact HTL.out), Lib.hid (by rw [HD1.out]; exact HB5.out), Lib.hid (.inl (by omega))⟩, Lib.hid (by rw [topQ_same x y j n HD2.out]; exact HQ.out), hbe⟩
        case measure => simp [intOf] <;> omega
      · obtain ⟨c, hcc, hc0⟩ : ∃ c, cmpI (T : Int) (y : Int) = c ∧ 0 ≤ c := by
          rcases Nat.lt_or_ge y T with h | h
          · exact ⟨1, cmpI_gt (Int.ofNat_lt.2 h), by omega⟩
          · exact ⟨0, by rw [show T = y by omega, cmpI_eq], by omega⟩
        rw [hcc] at HC
        obtain ⟨d1, d2⟩ := HD.out.2 (by omega)
        have HD1 := Lib.hid d1
        have HD2 := Lib.hid d2
        obtain ⟨M, hM⟩ : ∃ M, max (L + 1) m = M := ⟨_, rfl⟩
        have HM := Lib.hid hM
        have HZ := Lib.hid (show T - y < 2 ^ M from Nat.lt_of_le_of_lt (Nat.sub_le _ _) (Nat.lt_of_lt_of_le HTL.out (Nat.pow_le_pow_right (by decide) (by omega))))
        have hM2 : M ≤ m + (n - j) := by omega
        have hM3 : 0 < M := by omega
        clear d1 d2 HD hcc hM
        go_wp2_with fail
        refine HC.out.mono ?_
        rintro e w4 ⟨rfl, hb⟩
        have HQ := Lib.hid (row_kept HQ.out hb)
        have hbe := hbe.trans (hb.mono hbe.size)
        have HB5 := Lib.hid (HB5.out.below hb (Nat.le_refl _))
        have HB2 := Lib.hid (HB2.out.below hb (Nat.le_refl _))
        clear hb HC
        go_wp2_with fail
        refine (rsubF_any a5 a2 cap5 cap2 T (L + 1) y m (T - y) M w4 HTL.out HB5.out HY.out HB2.out (by omega) (by omega) HM.out HZ.out (by rw [if_neg hlt]; omega)).mono ?_
        rintro e w5 ⟨a6, cap6, rfl, hB6, hF6, hb⟩
        have HF6 := Lib.hid (show ∀ p, a6 = some p → p.block ≠ w.heap.size from fun p e => by have := hF6 p e; have h3 : w.heap.size < w4.heap.size := (HQ.out.lt _ rfl).2; omega)
        have HQ := Lib.hid (row_kept HQ.out hb)
        have hbe := hbe.trans (hb.mono hbe.size)
        have HB6 := Lib.hid hB6
        have hcl := (HQ.out.cellAt j (by omega)).trans (bitsV_get _ n j (by omega))
        have hfr := HQ.out.frozenAt j
        clear hb hB6 HB5 hF6
        go_wp2
        go_roundw
        case rel =>
          refine ⟨j, by omega, rfl, ⟨a6, M, cap6, rfl, hM2, Lib.hid (by rw [HD1.out]; exact HZ.out), Lib.hid ?_, Lib.hid (.inl hM3)⟩, Lib.hid ?_, hbe.setCell (Nat.le_refl _) _⟩
          · rw [HD1.out]
            exact HB6.out.set HF6.out
          · rw [← topQ_set x y j n HD2.out]
            exact (HQ.out.stored j _).1
        case measure => simp [intOf] <;> omega
end Go.Proofs.Ytiglhgcckceikaa
