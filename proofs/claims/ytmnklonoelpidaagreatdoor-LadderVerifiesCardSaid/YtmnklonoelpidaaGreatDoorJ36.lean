/- Layer 14's document: Sign. -/
import Derived.Test.YtmnklonoelpidaaGreatDoorJ35
namespace Go.Proofs.YtmnklonoelpidaaGreatDoor
open Go.RowKit

theorem signA_round {s : (List UInt8)} {f l n r : Nat} {d : (List UInt8)} (h : (keyF f l n r).2 = false) : signA s f l n r d = ⟨16, 0, [], []⟩ := if_pos h
theorem signA_arg {s : (List UInt8)} {f l n r : Nat} {d : (List UInt8)} (h : (keyF f l n r).2 = true) (hd : d.length ≠ 32) : signA s f l n r d = ⟨2, 0, [], []⟩ := by rw [signA, if_neg (by rw [h]; decide), if_pos hd]
theorem signA_yes {s : (List UInt8)} {f l n r : Nat} {d : (List UInt8)} (h : (keyF f l n r).2 = true) (hd : d.length = 32) : signA s f l n r d = ⟨0, (keyF f l n r).1, sigL s (keyF f l n r).1 d, proofD (rungsL s n) [(keyF f l n r).1]⟩ := by rw [signA, if_neg (by rw [h]; decide), if_neg (by omega)]
theorem strs_off {ao : Option Addr} {L : List (List UInt8)} {w w' : World} {R : Nat} {cs : Array Value} {T : TypeId} (h : Strs ao L w) (hX : w.heap[R]? = some (.cells cs T (0, 0))) (hns : ∀ (i : Nat) (t : ByteArray), cs[i]? ≠ some (.string t)) (hk : Kept (fun j => j ≠ R) w w') : Strs ao L w' := by
  rcases h with h | ⟨b, off, h1, h2, h3⟩
  · exact .inl h
  · by_cases hL : L.length = 0
    · exact .inl (List.length_eq_zero_iff.1 hL)
    · have hne : b ≠ R := by
        intro e
        have h4 := h3 0 (by omega)
        rw [e, lit_cell hX] at h4
        exact hns _ _ h4
      exact .inr ⟨b, off, h1, Nat.lt_of_lt_of_le h2 hk.size, fun i hi => (World.cell?_of_block (a := ⟨b, off + i, none⟩) (hk.block b h2 hne)).trans (h3 i hi)⟩
theorem sig_cells (k : Int) (v u : Value) (hv : ∀ t, v ≠ .string t) (hu : ∀ t, u ≠ .string t) : ∀ (i : Nat) (t : ByteArray), (#[Value.int .u64 k, v, u] : Array Value)[i]? ≠ some (.string t) := by
  intro i t h
  match i with
  | 0 => simp at h
  | 1 => simp at h; exact hv _ h
  | 2 => simp at h; exact hu _ h
  | j + 3 => simp at h
set_option maxRecDepth 100000 in
set_option maxHeartbeats 8000000 in
theorem rsign14_any (b : Nat) (s : (List UInt8)) (f l n r : Nat) (d : (List UInt8)) (w : World) (h : RLad b s f l n w) (hs : s.length ≤ 1000) (hl : 0 < l) (hn : n ≤ 64) (hr : r < 18446744073709551616) : Calls Tryz.prog 21 #[.pointer (some ⟨b, 0, none⟩), .int .u64 (r : Int), .string ⟨d.toArray⟩] w (SigO (signA s f l n r d) w) := by
  obtain ⟨R, hR⟩ : ∃ R, R = w.heap.size := ⟨_, rfl⟩
  have HRR := Lib.hid hR
  obtain ⟨w1, hw1⟩ : ∃ w1, w1 = w.alloc (.cells #[.int .u64 0, .slice none 0 0, .slice none 0 0] 48) := ⟨_, rfl⟩
  have hb1 : Below R w w1 := by rw [hw1, hR]; exact by0 w _
  have hx1 : w1.heap[R]? = some (.cells #[.int .u64 0, .slice none 0 0, .slice none 0 0] 48 (0, 0)) := by rw [hw1, hR]; exact heap_alloc_new w _
  have HK := Lib.hid (rkey_any b s f l n r w1 (h.next (by rw [← hR]; exact hb1)) hl hn hr)
  have HB1 := Lib.hid hb1
  have HX1 := Lib.hid hx1
  clear hb1 hx1
  have HW1 := Lib.hid hw1
  by_cases hk : (keyF f l n r).2 = true
  · have hkl := keyF_lt (show keyF f l n r = ((keyF f l n r).1, true) by rw [← hk])
    rw [hk] at HK
    by_cases hd : d.length = 32
    · rw [signA_yes hk hd]
      have hdi : (d.length : Int) = 32 := by omega
      generalize (keyF f l n r).1 = k at *
      have hk64 : k < 64 := by omega
      have HSG := Lib.hid (fun wz => show Calls Tryz.prog 55 #[.string ⟨s.toArray⟩, .int .u64 (k : Int), .string ⟨d.toArray⟩] wz fun e w' => ∃ ao cp, e = .returned (.tuple #[.slice ao 67 cp, .int .i64 0]) ∧ Strs ao (sigL s k d) w' ∧ Below wz.heap.size wz w' by
        have := rsign_any s k d wz (by omega) (by omega)
        rw [signC_yes hd, show (sigL s k d).length = 67 by rw [sigL, row67_len]] at this
        exact this)
      have hlen := rungsL_len s n
      obtain ⟨ao, cp, c0, c1, c2, c3, hS⟩ := h.cells
      have HSS := Lib.hid hS
      have HC := Lib.hid (And.intro c0 c3)
      have HPV := Lib.hid (fun (bo : Option Addr) (wz : World) (hb : Below w.heap.size w wz) (hN : Nums bo [k] wz) => show Calls Tryz.prog 56 #[.slice ao n cp, .slice bo 1 1] wz fun e w' => ∃ po pc, e = .returned (.tuple #[.slice po (proofD (rungsL s n) [k]).length pc, .int .i64 0]) ∧ Strs po (proofD (rungsL s n) [k]) w' ∧ (proofD (rungsL s n) [k]).length ≤ pc ∧ Below wz.heap.size wz w' by
        have := rprove_good (rungsL s n) ao cp bo 1 [k] wz (hS.below (Nat.le_refl _) hb) hN (by simp) (by omega) (fun i h => Nat.le_trans (rungsL_short s n _ (List.getElem_mem h)) (by decide)) (by rw [hlen]; exact stands_one hkl.1)
        rw [hlen] at this
        refine this.mono ?_
        rintro e w' ⟨v, h1, h2, h3⟩
        obtain ⟨po, pc, rfl, h4, h5⟩ := strs_cap_of_row h2
        exact ⟨po, pc, h1, h4, h5, h3⟩)
      have HSL := Lib.hid (show (sigL s k d).length = 67 by rw [sigL, row67_len])
      generalize hQ : proofD (rungsL s n) [k] = Q at *
      generalize hWW : sigL s k d = WW at *
      clear h c0 c1 c2 c3 hS hkl hl hn hr hlen hd hk hs hQ hWW
      go_enter Tryz.func21, Tryz.ntmps21
      go_upto_region 1 with fail
      rw [← hw1, ← HRR.out]
      clear hw1 hR
      go_upto_region 6 with (go_at_call 19; with_reducible refine HK.out.mono ?_; rintro e w2 ⟨rfl, hb2⟩; have hb2w := HB1.out.trans (hb2.mono (by rw [HRR.out]; exact HB1.out.size)); have HX2 := Lib.hid ((hb2.block _ (lit_lt HX1.out)).trans HX1.out); have HB2 := Lib.hid hb2w; clear hb2 hb2w)
      have q0 := key_keep (by rw [← HRR.out]; exact HB2.out) HC.out.1
      go_upto_region 7 with (go_at_call 55; with_reducible refine (HSG.out _).mono ?_; rintro e w3 ⟨wo, wc, rfl, hw3, hb3⟩; have HX3 := Lib.hid ((hb3.block _ (lit_lt HX2.out)).trans HX2.out); have HB3 := Lib.hid (HB2.out.trans (hb3.mono (by rw [HRR.out]; exact HB2.out.size))); have SW := Lib.hid hw3; clear hb3 hw3 q0)
      have q3 := key_keep (by rw [← HRR.out]; exact HB3.out) HC.out.2
      have hNu : Nums (some ⟨w3.heap.size, 0, none⟩) [k] (w3.alloc (.cells #[.int .u64 (k : Int)] 22)) := .inr ⟨w3.heap.size, 0, rfl, by simp, fun i hi => by
        have hi0 : i = 0 := by simp at hi; omega
        subst hi0
        exact (lit_cell (heap_alloc_new w3 _) 0).trans rfl⟩
      have HB3a := Lib.hid (HB3.out.alloc (by rw [HRR.out]; exact HB3.out.size) (.cells #[.int .u64 (k : Int)] 22))
      have HNu := Lib.hid hNu
      clear hNu
      go_upto_region 8 with (go_at_call 56; with_reducible refine (HPV.out _ _ (by rw [← HRR.out]; exact HB3a.out) HNu.out).mono ?_; rintro e w4 ⟨po, pc, rfl, hp4, hpl, hb4⟩; have hb34 := below_next (by0 w3 (.cells #[.int .u64 (k : Int)] 22)) hb4; have HX4 := Lib.hid ((hb34.block _ (lit_lt HX3.out)).trans HX3.out); have HB4 := Lib.hid (HB3.out.trans (hb34.mono (by rw [HRR.out]; exact HB3.out.size))); have SW := Lib.hid (SW.out.below (Nat.le_refl _) hb34); have SP := Lib.hid hp4; have HPL := Lib.hid hpl; clear hb4 hp4 hpl hb34 q3)
      clear HSG HPV HK HB3a HNu
      have r0 := (lit_cell HX4.out 0).trans rfl
      have f0 := lit_free HX4.out 0
      have r1 := (lit_cell HX4.out 1).trans rfl
      have f1 := lit_free HX4.out 1
      have r2 := (lit_cell HX4.out 2).trans rfl
      have f2 := lit_free HX4.out 2
      go_wp2
      clear r0 r1 r2 f0 f1 f2
      have hXT := lit_set (k := 2) (.slice po Q.length pc) (lit_set (k := 1) (.slice wo 67 wc) (lit_set (k := 0) (.int .u64 (k : Int)) HX4.out))
      have v0 := (lit_cell hXT 0).trans rfl
      have v1 := (lit_cell hXT 1).trans rfl
      have v2 := (lit_cell hXT 2).trans rfl
      have hBT := ((HB4.out.setCell (p := ⟨R, 0, none⟩) (Nat.le_refl _) (.int .u64 (k : Int))).setCell (p := ⟨R, 1, none⟩) (Nat.le_refl _) (.slice wo 67 wc)).setCell (p := ⟨R, 2, none⟩) (Nat.le_refl _) (.slice po Q.length pc)
      have hbk : Kept (fun j => j ≠ R) w4 (((w4.setCell ⟨R, 0, none⟩ (.int .u64 (k : Int))).setCell ⟨R, 1, none⟩ (.slice wo 67 wc)).setCell ⟨R, 2, none⟩ (.slice po Q.length pc)) := (((Kept.refl _ w4).setCell R 0 _ (fun _ h => h rfl)).setCell R 1 _ (fun _ h => h rfl)).setCell R 2 _ (fun _ h => h rfl)
      have sw := strs_off SW.out HX4.out (sig_cells _ _ _ (fun t h => by cases h) (fun t h => by cases h)) hbk
      have sp := strs_off SP.out HX4.out (sig_cells _ _ _ (fun t h => by cases h) (fun t h => by cases h)) hbk
      clear hXT
      generalize (((w4.setCell ⟨R, 0, none⟩ (.int .u64 (k : Int))).setCell ⟨R, 1, none⟩ (.slice wo 67 wc)).setCell ⟨R, 2, none⟩ (.slice po Q.length pc)) = wT at *
      refine bodyPost_ret (v := .tuple #[.agg #[.int .u64 (k : Int), .slice wo 67 wc, .slice po Q.length pc], .int .i64 0]) (by simp [results, Tryz.results21, go_sem, v0, v1, v2]) rfl ⟨wo, po, wc, pc, by rw [HSL.out]; rfl, sw, sp, HPL.out, by rw [← HRR.out]; exact hBT⟩
    · rw [signA_arg hk hd]
      have hdi : ¬ (d.length : Int) = 32 := by omega
      generalize (keyF f l n r).1 = k at *
      clear h hkl hl hn hr hd hk hs
      go_enter Tryz.func21, Tryz.ntmps21
      go_upto_region 1 with fail
      rw [← hw1, ← HRR.out]
      clear hw1 hR
      go_upto_region 5 with (go_at_call 19; with_reducible refine HK.out.mono ?_; rintro e w2 ⟨rfl, hb2⟩; have hb2w := HB1.out.trans (hb2.mono (by rw [HRR.out]; exact HB1.out.size)); have HX2 := Lib.hid ((hb2.block _ (lit_lt HX1.out)).trans HX1.out); have HB2 := Lib.hid hb2w; clear hb2 hb2w)
      have r0 := (lit_cell HX2.out 0).trans rfl
      have f0 := lit_free HX2.out 0
      have r1 := (lit_cell HX2.out 1).trans rfl
      have f1 := lit_free HX2.out 1
      have r2 := (lit_cell HX2.out 2).trans rfl
      have f2 := lit_free HX2.out 2
      go_wp2

      clear r0 r1 r2 f0 f1 f2
      have hXT := lit_set (k := 2) (.slice none 0 0) (lit_set (k := 1) (.slice none 0 0) (lit_set (k := 0) (.int .u64 0) HX2.out))
      have v0 := (lit_cell hXT 0).trans rfl
      have v1 := (lit_cell hXT 1).trans rfl
      have v2 := (lit_cell hXT 2).trans rfl
      have hBT := ((HB2.out.setCell (p := ⟨R, 0, none⟩) (Nat.le_refl _) (.int .u64 0)).setCell (p := ⟨R, 1, none⟩) (Nat.le_refl _) (.slice none 0 0)).setCell (p := ⟨R, 2, none⟩) (Nat.le_refl _) (.slice none 0 0)
      clear hXT
      generalize (((w2.setCell ⟨R, 0, none⟩ (.int .u64 0)).setCell ⟨R, 1, none⟩ (.slice none 0 0)).setCell ⟨R, 2, none⟩ (.slice none 0 0)) = wT at *
      refine bodyPost_ret (v := .tuple #[.agg #[.int .u64 0, .slice none 0 0, .slice none 0 0], .int .i64 2]) (by simp [results, Tryz.results21, go_sem, v0, v1, v2]) rfl ⟨none, none, 0, 0, rfl, .inl rfl, .inl rfl, Nat.le_refl _, by rw [← HRR.out]; exact hBT⟩
  · have hk2 : (keyF f l n r).2 = false := by simpa using hk
    rw [signA_round hk2]
    rw [hk2] at HK
    generalize (keyF f l n r).1 = k at *
    clear h hl hn hr hk hk2 hs
    go_enter Tryz.func21, Tryz.ntmps21
    go_upto_region 1 with fail
    rw [← hw1, ← HRR.out]
    clear hw1 hR
    go_upto_region 3 with (go_at_call 19; with_reducible refine HK.out.mono ?_; rintro e w2 ⟨rfl, hb2⟩; have hb2w := HB1.out.trans (hb2.mono (by rw [HRR.out]; exact HB1.out.size)); have HX2 := Lib.hid ((hb2.block _ (lit_lt HX1.out)).trans HX1.out); have HB2 := Lib.hid hb2w; clear hb2 hb2w)
    have r0 := (lit_cell HX2.out 0).trans rfl
    have f0 := lit_free HX2.out 0
    have r1 := (lit_cell HX2.out 1).trans rfl
    have f1 := lit_free HX2.out 1
    have r2 := (lit_cell HX2.out 2).trans rfl
    have f2 := lit_free HX2.out 2
    go_wp2
    clear r0 r1 r2 f0 f1 f2
    have hXT := lit_set (k := 2) (.slice none 0 0) (lit_set (k := 1) (.slice none 0 0) (lit_set (k := 0) (.int .u64 0) HX2.out))
    have v0 := (lit_cell hXT 0).trans rfl
    have v1 := (lit_cell hXT 1).trans rfl
    have v2 := (lit_cell hXT 2).trans rfl
    have hBT := ((HB2.out.setCell (p := ⟨R, 0, none⟩) (Nat.le_refl _) (.int .u64 0)).setCell (p := ⟨R, 1, none⟩) (Nat.le_refl _) (.slice none 0 0)).setCell (p := ⟨R, 2, none⟩) (Nat.le_refl _) (.slice none 0 0)
    clear hXT
    generalize (((w2.setCell ⟨R, 0, none⟩ (.int .u64 0)).setCell ⟨R, 1, none⟩ (.slice none 0 0)).setCell ⟨R, 2, none⟩ (.slice none 0 0)) = wT at *
    refine bodyPost_ret (v := .tuple #[.agg #[.int .u64 0, .slice none 0 0, .slice none 0 0], .int .i64 16]) (by simp [results, Tryz.results21, go_sem, v0, v1, v2]) rfl ⟨none, none, 0, 0, rfl, .inl rfl, .inl rfl, Nat.le_refl _, by rw [← HRR.out]; exact hBT⟩
end Go.Proofs.YtmnklonoelpidaaGreatDoor
