/- DomApart's body. -/
import Derived.Test.YtmhmcfaalpcngaaDoorVi
import Derived.BigQuiet
import Derived.Deep.RegionLaw
import Derived.Deep.RegionHeld3
namespace Go.Proofs.YtmhmcfaalpcngaaDoor
open Go.RowKit

set_option maxRecDepth 100000 in
set_option maxHeartbeats 4000000 in
theorem domApart_any (S : List UInt8) (ao : Option Addr) (cap : Nat) (L : List (List UInt8)) (n : Nat) (w : World) (hg : Glob w) (hS : S.length ≤ maxLen) (hL : L.length ≤ maxLen) (hl : ∀ i (h : i < L.length), L[i].length ≤ maxLen) (hs : Strs ao L w) (hn : n < 256) :
    Calls Tryd.prog 4 #[.string ⟨S.toArray⟩, .slice ao L.length cap, .int .u8 (n : Int)] w fun e w' => e = .returned (.bool true) ∧ Below w.heap.size w w' := by
  obtain ⟨i0, hi, hz0, hz1, hz2⟩ := info_parts Tryd.info9
  have hsz := hg.size
  have hfew := fun w' hs' => fewN_any ao cap L w' hL hl hs'
  have HL := Lib.hid (framed_few · L)
  obtain ⟨hc8, hc200⟩ := few_le L
  obtain ⟨TS, hTS⟩ : ∃ TS, fewTo L 8 = TS := ⟨_, rfl⟩
  rw [hTS] at hfew HL hc8
  have H200 := Lib.hid (hTS ▸ hc200)
  have HF := Lib.hid hfew
  have HS := Lib.hid hs
  clear hfew hTS hl hs hc200
  unfold maxLen at hS hL
  go_enter Tryd.func4, Tryd.ntmps4
  go_wp2_with fail
  refine (works_any w hg).mono ?_
  rintro e w1 ⟨rfl, hB1⟩
  have z1 := hB1.size
  go_wp2_with fail
  obtain ⟨T, hT, hTl⟩ := cut_str S (min (S.length : Int) 16).toNat 16 (by omega)
  rw [hT]
  clear hT
  have hfl := HL.out T (by omega)
  have hTm : T.length ≤ maxLen := by unfold maxLen; omega
  refine (HF.out w1 (HS.out.below (Nat.le_refl _) hB1)).mono ?_
  rintro e w2 ⟨ao', cp, rfl, hs2, hb2⟩
  have hB2 := hB1.trans (hb2.mono z1)
  have z2 := hB2.size
  go_wp2_with fail
  refine (frameAll T ao' cp TS w2 hs2.strs hTm (by omega)).mono ?_
  rintro e w3 ⟨rfl, hb3⟩
  have hs3 := hs2.below (Nat.le_refl _) hb3
  have hB3 := hB2.trans (hb3.mono z2)
  have z3 := hB3.size
  clear hs2 hb2 hb3
  by_cases hT0 : T = []
  · subst hT0
    rw [frameL_none]
    go_wp2_with fail
    refine (hash_any [] ao' cp TS w3 (hg.below (by omega) hB3) hs3.strs hTm (by omega)).mono ?_
    rintro e w4 ⟨rfl, hb4⟩
    rw [hashL_none]
    go_wp2
    go_ret
    exact ⟨rfl, hB3.trans (hb4.mono z3)⟩
  · have hT1 : 1 ≤ T.length := List.length_pos_iff.2 hT0
    have hTe := not_empty T hT0
    have ht : Tag T := ⟨hT1, hTl⟩
    rw [frameL, if_pos ht]
    have htk := fun w' => taken_any T TS w' hT1 hTl hc8 hfl
    have hh := fun w' hg' hs' => hash_any T ao' cp TS w' hg' hs' hTm (by omega)
    rw [hashL, if_pos ht] at hh
    have HM := Lib.hid (framed_more T TS)
    have HC := Lib.hid (framed_cut T)
    have HFe : Hid (framed T TS = framed T TS) := Lib.hid rfl
    obtain ⟨F, hF⟩ : ∃ F, framed T TS = F := ⟨_, rfl⟩
    rw [hF] at htk hh HM hfl ⊢
    have HE := Lib.hid hF
    have HTk := Lib.hid htk
    have HH := Lib.hid hh
    clear hF htk hh HFe
    go_wp2_with fail
    refine (HTk.out w3).mono ?_
    rintro e w4 ⟨ao2, cp2, rfl, hm4, hb4⟩
    have hs4 := hs3.below (Nat.le_refl _) hb4
    have hB4 := hB3.trans (hb4.mono z3)
    have z4 := hB4.size
    clear hs3 hb4
    go_wp2
    go_loopw [11] (fun i wr => ∃ k : Nat, k ≤ TS.length ∧ i = .int .i64 (k : Int) ∧ StrsN ao' cp TS wr ∧ Strs ao2 TS wr ∧ Below w.heap.size w wr) (fun i _ => TS.length - (intOf i).toNat)
    case atStart => exact ⟨0, by omega, rfl, hs4, hm4, hB4⟩
    case round =>
      clear hs4 hm4 hB4
      obtain ⟨k, hk, rfl, hs, hm, hB⟩ := hrel
      have z := hB.size
      by_cases hlt : k < TS.length
      · obtain ⟨g, rfl, hcell1⟩ := hs.cell k hlt
        obtain ⟨b, off, rfl, hcell2⟩ := hm.cell k hlt
        obtain ⟨X, hX⟩ : ∃ X, TS[k] = X := ⟨_, rfl⟩
        rw [hX] at hcell1 hcell2
        clear hX
        have k0 : (0 : Int) ≤ (k : Int) := by omega
        have k1 : (k : Int) < (TS.length : Int) := by omega
        have HS2 := Lib.hid hs
        have HM2 := Lib.hid hm
        clear hs hm
        go_wp2
        go_quiet (fail)
        go_wp2
        go_roundw
        case rel => exact ⟨k + 1, by omega, by go_num, HS2.out, HM2.out, Below_drewN hB nq⟩
        case measure => simp [intOf]; omega
      · have ek : k = TS.length := by omega
        subst ek
        clear hm hk hlt
        go_wp2_with fail
        refine (HH.out wr (hg.below (by omega) hB) hs.strs).mono ?_
        rintro e w5 ⟨rfl, hb5⟩
        have hs5 := hs.below (Nat.le_refl _) hb5
        have hB5 := hB.trans (hb5.mono z)
        have z5 := hB5.size
        clear hs hb5
        go_wp2_with fail
        refine (shaSum_any F w5 (hg.below (by omega) hB5) (by omega)).mono ?_
        rintro e w6 ⟨rfl, hb6⟩
        have hs6 := hs5.below (Nat.le_refl _) hb6
        have hB6 := hB5.trans (hb6.mono z5)
        have z6 := hB6.size
        clear hs5 hb6 hB hB5
        generalize wr = wx at *
        by_cases h2 : TS.length < 2
        · rcases hs6 with ⟨h0, rfl, rfl⟩ | ⟨h0, g, rfl, hgl, hcp, hcells⟩
          · subst h0
            go_wp2_with fail
            refine (frameAll T _ _ [[]] _ (strs_one _ _ _ [] (by simp)) hTm (by rw [framed_cons]; simp [numL_length]; omega)).mono ?_
            rintro e w7 ⟨rfl, hb7⟩
            rw [frameL, if_pos ht]
            have hne := HM.out
            rw [List.nil_append] at hne
            obtain ⟨F2, hF2⟩ : ∃ F2, framed T [[]] = F2 := ⟨_, rfl⟩
            rw [hF2] at hne ⊢
            go_wp2
            go_ret
            refine ⟨rfl, ?_⟩
            exact ((((hB6.alloc z6 _).alloc (by simp; omega) _).alloc (by simp; omega) _).drew).trans (hb7.mono (by simp; omega))
          · obtain ⟨X, hX⟩ : ∃ X, TS = [X] := by
              match TS, h0, h2 with
              | [X], _, _ => exact ⟨X, rfl⟩
            subst hX
            have hcell : w6.cell? ⟨g, 0, none⟩ = some (.string ⟨X.toArray⟩) := hcells 0 (by simp)
            clear hcells h0
            have hown0 : (w6.alloc (.cells #[] 9)).ownsRow w.heap.size 9 1 (.slice (some ⟨w6.heap.size, 0, none⟩) 0 0) 0 [] := ⟨rfl, .inr ⟨_, _, _, rfl, z6, heap_alloc_new w6 _, by omega, by unfold maxLen; omega, rfl, rfl⟩⟩
            have hnews : ∀ j u, [Value.string ⟨X.toArray⟩][j]? = some u → (w6.alloc (.cells #[] 9)).cell? ((⟨g, 0, none⟩ : Addr).add j) = some u := by
              intro j u hj
              obtain rfl : j = 0 := by
                rcases Nat.eq_zero_or_pos j with h | h
                · exact h
                · rw [List.getElem?_eq_none (by simp; omega)] at hj; cases hj
              rw [Addr.add_mid, Nat.zero_add, Below.cell ((Below.refl w6.heap.size w6).alloc (Nat.le_refl _) _) (p := ⟨g, 0, none⟩) hgl, hcell]
              simpa using hj
            have HO := Lib.hid hown0
            have HN := Lib.hid hnews
            clear hown0 hnews hcell
            go_wp2_with (at_builtin; refine wpList_append_own _ rfl (.tmp 82) (.tmp 83) 22 rfl w.heap.size 9 i0 (.string ⟨#[]⟩) 1 16 Tryd.underlying22 hi hz0 hz1 hz2 rfl (by decide) _ 0 _ rfl HO.out ⟨g, 0, none⟩ 1 cp [.string ⟨X.toArray⟩] rfl rfl HN.out (by simp [Value.oneCell']) (by unfold maxLen; omega) (by omega) (by simp; omega) ?_)
            intro v1 w7 hown7 hgrow7 _
            have hB7 : Below w.heap.size w w7 := (hB6.alloc z6 _).grown hgrow7 (by simp; omega) (fun k' e => (HO.out.lt k' e).1)
            have z7 := hB7.size
            clear hgrow7 HO HN
            go_wp2_with (at_builtin; refine wpList_append_own _ rfl (.tmp 84) (.tmp 85) 22 rfl w.heap.size 9 i0 (.string ⟨#[]⟩) 1 16 Tryd.underlying22 hi hz0 hz1 hz2 rfl (by decide) v1 (0 + 1) _ rfl (hown7.alloc _) ⟨w7.heap.size, 0, none⟩ 1 1 [.string ⟨#[]⟩] rfl rfl (news_new w7 _ _) (by simp [Value.oneCell']) (by unfold maxLen; omega) (by omega) (by simp; omega) ?_)
            intro v2 w8 hown8 hgrow8 _
            have hB8 : Below w.heap.size w w8 := (hB7.alloc z7 _).grown hgrow8 (by simp; omega) (fun k' e => (hown7.lt k' e).1)
            have z8 := hB8.size
            obtain ⟨ao3, cp3, rfl, hs8⟩ := strs_of_owns (TS := [X, []]) hown8 rfl
            clear hgrow8 hown7 hown8
            have hX2 := H200.out 0 (by simp)
            rw [List.getElem_cons_zero] at hX2
            have hne := HM.out
            rw [List.singleton_append] at hne
            have hfr := frameAll T ao3 cp3 [X, []] w8 hs8 hTm (by rw [framed_cons]; simp [numL_length, partL_length]; omega)
            rw [frameL, if_pos ht] at hfr
            obtain ⟨F2, hF2⟩ : ∃ F2, framed T [X, []] = F2 := ⟨_, rfl⟩
            rw [hF2] at hne hfr
            clear hF2
            go_wp2_with fail
            refine hfr.mono ?_
            rintro e w9 ⟨rfl, hb9⟩
            clear hfr
            go_wp2
            go_ret
            exact ⟨rfl, hB8.trans (hb9.mono z8)⟩
        · rcases hs6 with ⟨h0, rfl, rfl⟩ | ⟨h0, g, rfl, hgl, hcp, hcells⟩
          · exfalso; subst h0; simp at h2
          · obtain ⟨X, Y, R, hXY⟩ : ∃ X Y R, TS = X :: Y :: R := by
              match TS, h2 with
              | [], h2 => simp at h2
              | [_], h2 => simp at h2
              | X :: Y :: R, _ => exact ⟨X, Y, R, rfl⟩
            subst hXY
            have hc0 : w6.cell? ⟨g, 0, none⟩ = some (.string ⟨X.toArray⟩) := hcells 0 (by simp)
            have hc1 : w6.cell? ⟨g, 1, none⟩ = some (.string ⟨Y.toArray⟩) := hcells 1 (by simp)
            have hX2 := H200.out 0 (by simp)
            have hY2 := H200.out 1 (by simp)
            rw [List.getElem_cons_zero] at hX2
            rw [List.getElem_cons_succ, List.getElem_cons_zero] at hY2
            have HCells := Lib.hid hcells
            clear hcells h0
            have hs1 := run_cat X Y (by omega)
            obtain ⟨m, hm⟩ : ∃ m, R.length = m := ⟨_, rfl⟩
            have hlen : (X :: Y :: R).length = m + 2 := by simp [hm]
            rw [hlen] at hc8 hcp h2 ⊢
            have l0 : (0 : Int) < (m : Int) + 2 := by omega
            have l1 : (1 : Int) < (m : Int) + 2 := by omega
            go_wp2
            go_quiet (fail)
            have hB7 : Below w.heap.size w (w6.drewN nq) := Below_drewN hB6 nq
            have HCells7 : Hid (∀ i (h : i < (X :: Y :: R).length), (w6.drewN nq).cell? ⟨g, i, none⟩ = some (.string ⟨((X :: Y :: R)[i]).toArray⟩)) := HCells
            have hgl7 : g < (w6.drewN nq).heap.size := hgl
            generalize w6.drewN nq = w7 at hB7 HCells7 hgl7 ⊢
            clear HCells hc0 hc1 hs1 hB6 z6 hgl
            have z7 := hB7.size
            obtain ⟨B, hBe⟩ : ∃ B, X ++ Y = B := ⟨_, rfl⟩
            have hBl : B.length = X.length + Y.length := by rw [← hBe, List.length_append]
            rw [hBe]
            have hBb : B.length ≤ 400 := by omega
            have HBl := Lib.hid hBl
            clear hBl
            go_wp2
            obtain ⟨k, hk1, hk2⟩ : ∃ k : Nat, (n : Int) % ((B.length : Int) + 1) = (k : Int) ∧ k ≤ B.length := ⟨n % (B.length + 1), by rw [Int.natCast_emod]; rfl, by have := Nat.mod_lt n (show 0 < B.length + 1 by omega); omega⟩
            rw [hk1]
            clear hk1
            have e1 : (⟨B.toArray⟩ : ByteArray).extract 0 k = ⟨(B.take k).toArray⟩ := by rw [extract_list, List.drop_zero]
            have e2 : (⟨B.toArray⟩ : ByteArray).extract k B.length = ⟨(B.drop k).toArray⟩ := by rw [extract_list, List.take_length]
            obtain ⟨B1, hB1e⟩ : ∃ B1, B.take k = B1 := ⟨_, rfl⟩
            obtain ⟨B2, hB2e⟩ : ∃ B2, B.drop k = B2 := ⟨_, rfl⟩
            rw [hB1e] at e1
            rw [hB2e] at e2
            have b1 : B1.length ≤ 400 := by rw [← hB1e, List.length_take]; omega
            have b2 : B2.length ≤ 400 := by rw [← hB2e, List.length_drop]; omega
            have HQ : Hid ((framed T (B1 :: B2 :: R) == F) = ((k : Int) == (X.length : Int))) := Lib.hid (by
              rw [← HE.out, ← hB1e, ← hB2e, ← hBe]
              exact HC.out X Y R k (by have := HBl.out; omega) (by omega) (by omega))
            clear hB1e hB2e hBe
            have hown0 : ((w7.alloc (.cells #[.string ⟨B1.toArray⟩, .string ⟨B2.toArray⟩] 9)).drew).ownsRow w.heap.size 9 1 (.slice (some ⟨w7.heap.size, 0, none⟩) 2 2) 2 [.string ⟨B1.toArray⟩, .string ⟨B2.toArray⟩] :=
              ⟨rfl, .inr ⟨_, _, _, rfl, z7, heap_alloc_new w7 _, by omega, by unfold maxLen; omega, rfl, rfl⟩⟩
            obtain ⟨o2, hAd, hnews⟩ : ∃ o2, (if cp = 2 then some (⟨g, 0, none⟩ : Addr) else some ⟨g, 2, none⟩) = some ⟨g, o2, none⟩ ∧
                ∀ j u, (strCells R)[j]? = some u → ((w7.alloc (.cells #[.string ⟨B1.toArray⟩, .string ⟨B2.toArray⟩] 9)).drew).cell? ((⟨g, o2, none⟩ : Addr).add j) = some u := by
              by_cases h : cp = 2
              · refine ⟨0, by rw [if_pos h], fun j u hj => ?_⟩
                have hR0 : R = [] := List.eq_nil_of_length_eq_zero (by omega)
                subst hR0
                cases hj
              · refine ⟨2, by rw [if_neg h], fun j u hj => ?_⟩
                have hjl : j < R.length := by
                  have := (List.getElem?_eq_some_iff.1 hj).1
                  simpa [strCells] using this
                have hcl := HCells7.out (2 + j) (by simp; omega)
                rw [Addr.add_mid, World.cell?_drew, Below.cell ((Below.refl w7.heap.size w7).alloc (Nat.le_refl _) _) (p := ⟨g, 2 + j, none⟩) hgl7, hcl]
                rw [← hj]
                simp [strCells, hjl, Nat.add_comm 2 j]
            have HO := Lib.hid hown0
            have HN := Lib.hid hnews
            have HNl := Lib.hid (show (strCells R).length = m * 1 by simp [strCells, hm])
            have HN1 := Lib.hid (show ∀ u ∈ strCells R, u.oneCell' = true by intro u hu; simp only [strCells, List.mem_map] at hu; obtain ⟨x, _, rfl⟩ := hu; rfl)
            clear hown0 hnews
            have k0 : (0 : Int) ≤ (k : Int) := by omega
            have k1 : (k : Int) ≤ (B.length : Int) := by omega
            have k2 : (2 : Int) ≤ (m : Int) + 2 := by omega
            have k3 : (m : Int) + 2 ≤ (cp : Int) := by omega
            have q1 := Lib.hid (show 2 + m ≤ maxLen by unfold maxLen; omega)
            have q2 := Lib.hid (show (2 + m) * 16 ≤ 140737488355328 by omega)
            have q3 := Lib.hid (show w.heap.size ≤ ((w7.alloc (.cells #[.string ⟨B1.toArray⟩, .string ⟨B2.toArray⟩] 9)).drew).heap.size by simp; omega)
            go_region_law (refine step_append_own rfl (.tmp 109) (.tmp 111) 22 rfl w.heap.size 9 i0 _ 1 16 Tryd.underlying22 hi hz0 hz1 hz2 rfl (by omega) (.slice (some ⟨w7.heap.size, 0, none⟩) 2 2) 2 _ rfl HO.out ⟨g, o2, none⟩ m (cp - 2) (strCells R) rfl HNl.out HN.out HN1.out q1.out q2.out q3.out ?_; intro v1 w8 hown8 hgrow8 _)
            all_goals
              obtain ⟨ao3, cp3, rfl, hs8⟩ := strs_of_owns (TS := B1 :: B2 :: R) hown8 (by simp [hm]; omega)
              have hB8 : Below w.heap.size w w8 := ((hB7.alloc z7 _).drew).grown hgrow8 (by simp; omega) (fun k' e => (HO.out.lt k' e).1)
              have z8 := hB8.size
              have hc0 : w8.cell? ⟨g, 0, none⟩ = some (.string ⟨X.toArray⟩) := by
                rw [hgrow8.cell_far _ (by simp; omega) (by simp [Value.ownBlock]; omega), World.cell?_drew, Below.cell ((Below.refl w7.heap.size w7).alloc (Nat.le_refl _) _) (p := ⟨g, 0, none⟩) hgl7]
                exact HCells7.out 0 (by simp)
              have hg8 : g < w8.heap.size := World.block_lt_of_cell? w8 _ hc0
              clear hgrow8 hown8 HO HN e1 e2 hAd
              have hfr := fun w' hs' => frameAll T ao3 cp3 (B1 :: B2 :: R) w' hs' hTm (by
                have h1 := framed_le T (B1 :: B2 :: R) 400 (fun i hi => by
                  match i, hi with
                  | 0, _ => exact b1
                  | 1, _ => exact b2
                  | i + 2, hi => have := H200.out (i + 2) (by simpa using hi); simp at this ⊢; omega) _ (Nat.le_refl _)
                rw [List.take_length] at h1
                simp only [List.length_cons] at h1
                omega)
              rw [frameL, if_pos ht] at hfr
              have hq := HQ.out
              obtain ⟨F2, hF2⟩ : ∃ F2, framed T (B1 :: B2 :: R) = F2 := ⟨_, rfl⟩
              rw [hF2] at hq hfr
              have hlen3 : (B1 :: B2 :: R).length = 2 + m := by simp [hm]; omega
              rw [hlen3] at hfr
              have HFr := Lib.hid hfr
              have HS8 := Lib.hid (show Strs ao3 (B1 :: B2 :: R) w8.drew from hs8)
              clear hF2 hfr hs8
              go_wp2
              go_region_held3 (fun w' => w'.cell? ⟨g, 0, none⟩ = some (.string ⟨X.toArray⟩))
                (first | (exact (hb9.cell (p := ⟨g, 0, none⟩) hg8).trans hc0) | (go_keep; done))
                (first | (go_at_call 8; refine (HFr.out w8.drew HS8.out).mono ?_; rintro e w9 ⟨rfl, hb9⟩))
              all_goals
                go_wp2
                go_ret
                exact ⟨rfl, hB8.drew.trans (hb9.mono z8)⟩
end Go.Proofs.YtmhmcfaalpcngaaDoor
