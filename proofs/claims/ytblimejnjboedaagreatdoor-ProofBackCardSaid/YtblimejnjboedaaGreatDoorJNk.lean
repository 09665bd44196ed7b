/- The law's ProofBack: its walk. -/
import Derived.Test.YtblimejnjboedaaGreatDoorJNj
import Derived.Test.YtblimejnjboedaaGreatDoorJ31
namespace Go.Proofs.YtblimejnjboedaaGreatDoor
open Go.RowKit Go.Sort

/-- and behind the other tree -/
structure Kc (w : World) (L O R E T W' : List (List UInt8)) (P : List Nat) (t t2 : Nat) (aL aO aP aR aE aT : Option Addr) (wz : World) : Prop where
  kb : Kb w L O R P t aL aO aP aR wz
  e : Strs aE E wz
  s : Strs aT T wz
  u : TreeM W' wz t2
theorem Kc.next {w wz wa : World} {L O R E T W' : List (List UInt8)} {P : List Nat} {t t2 : Nat} {aL aO aP aR aE aT : Option Addr} (h : Kc w L O R E T W' P t t2 aL aO aP aR aE aT wz) (hb : Below wz.heap.size wz wa) : Kc w L O R E T W' P t t2 aL aO aP aR aE aT wa :=
  ⟨h.kb.next hb, h.e.below (Nat.le_refl _) hb, h.s.below (Nat.le_refl _) hb, h.u.below hb⟩
set_option maxRecDepth 100000 in
set_option maxHeartbeats 4000000 in
theorem proofBack_any (ao : Option Addr) (cap : Nat) (S : List (List UInt8)) (x : Nat) (hx : x < 18446744073709551616) (bo : Option Addr) (cb : Nat) (U : List (List UInt8)) (w : World) (hg : Glob w) (hs : Strs ao S w) (hS : S.length ≤ maxLen) (hl : ∀ i (h : i < S.length), S[i].length ≤ maxLen)
    (hu : Strs bo U w) (hU : U.length ≤ maxLen) (hul : ∀ i (h : i < U.length), U[i].length ≤ maxLen) :
    Calls Tryz.prog 4 #[.slice ao S.length cap, .int .u64 (x : Int), .slice bo U.length cb] w fun e w' => e = .returned (.bool true) ∧ Below w.heap.size w w' := by
  have HW := Lib.hid (fun wz (h : Wl w wz) => works11_any wz h.g)
  have HC1 := Lib.hid (fun wz (h : Wl w wz) => cut11_any ao cap 80 (by decide) S wz hS hl (hs.below (Nat.le_refl _) h.o))
  have HC2 := Lib.hid (fun wz (h : Wl w wz) => cut11_any bo cb 80 (by decide) U wz hU hul (hu.below (Nat.le_refl _) h.o))
  rw [show ((80 : Nat) : Int) = 80 from rfl] at HC1 HC2
  have hlen := (cutBy_len S 80 60).1
  have hsh := cutBy_short S 80 60
  have hlen2 := (cutBy_len U 80 60).1
  have hsh2 := cutBy_short U 80 60
  generalize cutBy S 80 60 = L at *
  generalize cutBy U 80 60 = O at *
  have K := Lib.hid (show Wl w w from ⟨hg, Below.refl _ _⟩)
  have hl0 : (L.length : Int) ≤ 80 := by omega
  have ho0 : (O.length : Int) ≤ 80 := by omega
  clear hg hs hS hl hu hU hul
  go_enter Tryz.func4, Tryz.ntmps4
  go_upto_region 3 with (go_at_call 10; refine (HW.out _ K.out).mono ?_; rintro e w1 ⟨rfl, hb1⟩; have K := Lib.hid (K.out.next hb1); clear hb1)
  go_upto_region 4 with (go_at_call 6; refine (HC1.out _ K.out).mono ?_; rintro e w2 ⟨aL, cL, rfl, hp2, hb2⟩; have K := Lib.hid (K.out.next hb2); have FL := Lib.hid hp2; clear hp2 hb2)
  go_upto_region 5 with (go_at_call 6; refine (HC2.out _ K.out).mono ?_; rintro e w3 ⟨aO, cO, rfl, hp3, hb3⟩; have K := Lib.hid (K.out.next hb3); have FL := Lib.hid (FL.out.below hb3); have FO := Lib.hid hp3; clear hp3 hb3)
  clear HW HC1 HC2
  by_cases hL : L = []
  · have hz : ((L.length : Int) == 0) = true := by rw [hL]; rfl
    have hz2 : (L.length : Int) = 0 := by rw [hL]; rfl
    have HF := Lib.hid (show Calls Tryz.prog 11 #[.int .i64 2, .int .i64 0, .slice none 0 0, .slice none 0 0, .slice none 0 0] w3 (fun e w' => e = .returned (.bool true) ∧ Below w3.heap.size w3 w') from
      fails_lit 2 0 [] [] [] none none none w3 w3 K.out.g (Below.refl _ _) (.inl rfl) (.inl rfl) (.inl rfl) (by decide) (by simp) (by simp) (by simp) (root_bad (.inl (by decide +kernel))))
    clear hL
    go_wp2_with (go_at_call 11; refine HF.out.mono ?_; rintro e w4 ⟨rfl, hb4⟩)
    go_ret
    exact ⟨rfl, (K.out.next hb4).o⟩
  · have hL0 : 0 < L.length := List.length_pos_iff.2 hL
    have hz : ((L.length : Int) == 0) = false := by rw [beq_eq_false_iff_ne]; omega
    have hl7 : ∀ i (h : i < L.length), L[i].length ≤ 10000000 := fun i h => Nat.le_trans (hsh i h) (by decide)
    have HBL := Lib.hid (fun ao cp wz (h : Wl w wz) (hp : Strs ao L wz) => build_any ao cp L wz h.g hp (by omega) hl7)
    have HCH := Lib.hid (chosen_any L.length hL0 (by omega) x hx)
    have hst := maskP_stands x hL0
    have hpl := maskP_len x hL0
    generalize maskP x L.length = P at *
    have hpp := stands_parts hst
    have HPG := Lib.hid (fun t bo cp wz (hT : TreeM L wz t) (hN : Nums bo P wz) => prove_good L t bo cp P wz hT hN (by omega) hst)
    have HRE := root_elems (L := L) (by omega) hst
    have HRT := root_turns (L := L) O (by omega) hst
    have HEL := fun k => elemsTo_len L P k
    have HTL := fun k => turnsTo_len L P O k
    have hsL : ∀ y ∈ L, y.length ≤ 60 := fun y hy => by
      obtain ⟨i, hi, rfl⟩ := List.getElem_of_mem hy
      exact hsh i hi
    have hsO : ∀ y ∈ O, y.length ≤ 60 := fun y hy => by
      obtain ⟨i, hi, rfl⟩ := List.getElem_of_mem hy
      exact hsh2 i hi
    have HOS := Lib.hid (ownTo_short (P := P) hsL hsO P.length)
    have HES := Lib.hid (fun k y (hy : y ∈ elemsTo L P k) => show y.length ≤ 60 by
      obtain ⟨i, _, rfl⟩ := List.mem_map.1 hy
      unfold elemAt
      cases hO : L[(P[i]?).getD 0]? with
      | none => simp
      | some t => exact hsL t (List.mem_of_getElem? hO))
    have HTS := Lib.hid (fun k y (hy : y ∈ turnsTo L P O k) => show y.length ≤ 60 by
      obtain ⟨i, _, rfl⟩ := List.mem_map.1 hy
      unfold turnAt elemAt
      split
      · cases hO : O[i]? with
        | none => simp
        | some t => exact hsO t (List.mem_of_getElem? hO)
      · cases hO : L[(P[i]?).getD 0]? with
        | none => simp
        | some t => exact hsL t (List.mem_of_getElem? hO))
    have h32 := proofD_32 L P
    have hsd := sizeD_le (P := P) hst (by omega)
    rw [← sizeD_eq L P] at hsd
    have hdp := dep_le L.length (by omega)
    have hpr : (proofD L P).length ≤ 80 * 16 := Nat.le_trans hsd (Nat.mul_le_mul (by omega) hdp)
    have HPX := Lib.hid hpp.2.2
    have hp80 : (P.length : Int) ≤ 80 := by omega
    clear hL hst hpl hpp hsd hdp hsL hsO hsh hsh2 hx hlen hlen2
    generalize proofD L P = R at *
    obtain ⟨Z, hZ⟩ : ∃ Z, Z = rootD L := ⟨_, rfl⟩
    rw [← hZ] at HRE
    have HZ := Lib.hid hZ
    clear hZ
    go_upto_region 8 with (go_at_call 12; refine (HBL.out _ _ _ K.out FL.out.strs).mono ?_; rintro e w4 ⟨t, rfl, hT, _, hb4⟩; have K := Lib.hid (K.out.next hb4); have FL := Lib.hid (FL.out.below hb4); have FO := Lib.hid (FO.out.below hb4); have T1 := Lib.hid hT; clear hT hb4)
    go_upto_region 11 with (go_at_call 13; refine (HCH.out _).mono ?_; rintro e w5 ⟨aP, cP, rfl, hn5, hb5⟩; have K := Lib.hid (K.out.next hb5); have FL := Lib.hid (FL.out.below hb5); have FO := Lib.hid (FO.out.below hb5); have T1 := Lib.hid (T1.out.below hb5); have P1 := Lib.hid hn5; clear hn5 hb5)
    go_upto_region 14 with (go_at_call 14; refine (HPG.out _ _ _ _ T1.out P1.out).mono ?_; rintro e w6 ⟨vR, rfl, ho6, hb6⟩; obtain ⟨aR, cR, rfl, hr6, hc6⟩ := strs_cap_of_row ho6; have KB := Lib.hid (show Kb w L O R P t aL aO aP aR w6 from ⟨K.out.next hb6, T1.out.below hb6, (FL.out.below hb6).strs, (FO.out.below hb6).strs, nums_next P1.out hb6, hr6⟩); have FL := Lib.hid (FL.out.below hb6); have HC6 := Lib.hid hc6; clear ho6 hr6 hc6 hb6)
    rcases KB.out.l with h0 | ⟨bL, oL, rfl, hbL, hcL⟩
    · rw [h0] at hL0; simp at hL0
    go_upto_region 15 with fail
    go_upto_region 16 with (at_builtin; refine append_all rfl _ _ rfl rfl rfl hcL hL0 (by omega) ?_; intro g c w7 ho7 hb7 hg7; have HO7 := Lib.hid ho7; have HB7 := Lib.hid hb7; have HG7 := Lib.hid hg7; clear ho7 hb7 hg7)
    obtain ⟨ZZ, hZZ⟩ : ∃ ZZ, ZZ = w7.heap.size := ⟨_, rfl⟩
    have HGZ := Lib.hid (show g < ZZ by rw [hZZ]; exact HG7.out)
    have HZ0 := Lib.hid (show w6.heap.size ≤ ZZ by rw [hZZ]; exact HB7.out.size)
    have X0 := Lib.hid (show Tri w6 ZZ g c L P O 0 (.slice none 0 0) (.slice none 0 0) w7 from ⟨HB7.out, trow_nil _ _, trow_nil _ _, HO7.out, fun b hb => (by cases hb), by rw [hZZ]; exact Nat.le_refl _⟩)
    have HCL := Lib.hid hcL
    have HBL6 := Lib.hid hbL
    clear hZZ hcL hbL HBL HCH HPG
    go_wp2
    go_loopw [12, 13, 15, 16] (fun v12 v13 v15 _ wr => ∃ k : Nat, v15 = .int .i64 (k : Int) ∧ k ≤ P.length ∧ Hid (Tri w6 ZZ g c L P O k v12 v13 wr)) (fun _ _ v15 _ _ => P.length - (intOf v15).toNat)
    case atStart => exact ⟨0, rfl, Nat.zero_le _, X0⟩
    case round =>
      obtain ⟨k, rfl, hk, X⟩ := hrel
      by_cases hkP : k < P.length
      · have hl1 : (k : Int) < (P.length : Int) := by omega
        have k0 : (0 : Int) ≤ (k : Int) := by omega
        have KW := Lib.hid (KB.out.next X.out.b)
        obtain ⟨b1, o1, e1, hc1⟩ := nums_at KW.out.p k hkP
        subst e1
        have hpL := HPX.out _ (List.getElem_mem hkP)
        have hbl1 : b1 < w6.heap.size := by
          rcases KB.out.p with h | ⟨b', o', e, h, _⟩
          · rw [h] at hkP; simp at hkP
          · cases e; exact h
        have hcP : w6.cell? ⟨b1, o1 + k, none⟩ = some (.int .u64 (P[k] : Int)) := by
          rcases KB.out.p with h | ⟨b', o', e, h, h2⟩
          · rw [h] at hkP; simp at hkP
          · cases e; exact h2 k hkP
        have hel : elemAt L P k = L[P[k]] := by rw [elemAt, List.getElem?_eq_getElem hkP, Option.getD_some, List.getElem?_eq_getElem hpL]; rfl
        have hc2 : wr.cell? ⟨bL, oL + P[k], none⟩ = some (.string ⟨(elemAt L P k).toArray⟩) := by rw [hel]; exact (X.out.b.cell (p := ⟨bL, oL + P[k], none⟩) HBL6.out).trans (HCL.out _ hpL)
        have p0 : (P[k] : Int) < (L.length : Int) := by omega
        have p1 : (0 : Int) ≤ (P[k] : Int) := by omega
        clear hel
        go_upto_region 20 with fail
        go_upto_region 21 with (at_builtin; refine append_txt (t := elemAt L P k) rfl _ _ rfl rfl rfl X.out.e (by rw [HEL]; omega) X.out.z ?_; intro g1 c1 wa he1 hg1 ha1; have X1 := Lib.hid (X.out.adde HGZ.out HZ0.out he1 hg1 ha1); clear he1 hg1 ha1)
        have HB1 := Lib.hid X1.out.1
        have HE1 := Lib.hid X1.out.2.1
        have HT1 := Lib.hid X1.out.2.2.1
        have HO1 := Lib.hid X1.out.2.2.2.1
        have HD1 := Lib.hid X1.out.2.2.2.2.1
        have HZ1 := Lib.hid X1.out.2.2.2.2.2
        clear hc1 hc2 X1 X KW
        by_cases hO : k < O.length
        · have hl2 : (k : Int) < (O.length : Int) := by omega
          obtain ⟨b3, o3, e3, hc3⟩ := (KB.out.o.below (Nat.le_refl _) HB1.out).cell k hO
          subst e3
          have hte : turnAt L P O k = O[k] := by rw [turnAt, if_pos hO, List.getElem?_eq_getElem hO]; rfl
          rw [← hte] at hc3
          clear hte hO
          go_upto_region 23 with fail
          go_upto_region 24 with (at_builtin; refine append_txt (t := turnAt L P O k) rfl _ _ rfl rfl rfl HT1.out (by rw [HTL]; omega) HZ1.out ?_; intro g2 c2 wb ht2 hg2 ha2; have X2 := Lib.hid (Tri.addt (n := (elemsTo L P k).length + 1) (c1 := c1) (P := P) HGZ.out HZ0.out HB1.out HE1.out HT1.out HO1.out HD1.out HZ1.out ht2 hg2 ha2); have hro := trow_beside HO1.out (fun b hb' e => by have e2 : g = b := (by simpa [Value.ownBlock] using e); subst e2; have := (HT1.out.lt _ hb').1; have := HGZ.out; omega) hg2; have HB2 := Lib.hid (HB1.out.grown hg2 HB1.out.size (fun j e => Nat.le_trans HZ0.out (HT1.out.lt j e).1)); clear ht2 hg2 ha2)
          obtain ⟨old, hcO, hfO⟩ := row_at hro (i := P[k]) (by rw [ownTo_len]; exact hpL)
          have hc3 := (HB2.out.cell (p := ⟨b1, o1 + k, none⟩) hbl1).trans hcP
          rw [show (P[k]?).getD 0 = P[k] by rw [List.getElem?_eq_getElem hkP]; rfl] at X2
          have HKP := Lib.hid hkP
          clear hro
          generalize P[k] = p at *
          go_wp2
          go_roundw
          case rel => exact ⟨k + 1, by go_num, HKP.out, by rw [HEL, HTL] at X2; exact X2⟩
          case measure => simp [intOf] <;> (have := HKP.out; omega)
        · have hl2 : ¬ (k : Int) < (O.length : Int) := by omega
          have hte : elemAt L P k = turnAt L P O k := by rw [turnAt, if_neg hO]
          rw [hte]
          clear hte hO
          go_upto_region 23 with fail
          go_upto_region 24 with (at_builtin; refine append_txt (t := turnAt L P O k) rfl _ _ rfl rfl rfl HT1.out (by rw [HTL]; omega) HZ1.out ?_; intro g2 c2 wb ht2 hg2 ha2; have X2 := Lib.hid (Tri.addt (n := (elemsTo L P k).length + 1) (c1 := c1) (P := P) HGZ.out HZ0.out HB1.out HE1.out HT1.out HO1.out HD1.out HZ1.out ht2 hg2 ha2); have hro := trow_beside HO1.out (fun b hb' e => by have e2 : g = b := (by simpa [Value.ownBlock] using e); subst e2; have := (HT1.out.lt _ hb').1; have := HGZ.out; omega) hg2; have HB2 := Lib.hid (HB1.out.grown hg2 HB1.out.size (fun j e => Nat.le_trans HZ0.out (HT1.out.lt j e).1)); clear ht2 hg2 ha2)
          obtain ⟨old, hcO, hfO⟩ := row_at hro (i := P[k]) (by rw [ownTo_len]; exact hpL)
          have hc3 := (HB2.out.cell (p := ⟨b1, o1 + k, none⟩) hbl1).trans hcP
          rw [show (P[k]?).getD 0 = P[k] by rw [List.getElem?_eq_getElem hkP]; rfl] at X2
          have HKP := Lib.hid hkP
          clear hro
          generalize P[k] = p at *
          go_wp2
          go_roundw
          case rel => exact ⟨k + 1, by go_num, HKP.out, by rw [HEL, HTL] at X2; exact X2⟩
          case measure => simp [intOf] <;> (have := HKP.out; omega)
      · have hl1 : ¬ (k : Int) < (P.length : Int) := by omega
        have hkn : k = P.length := by omega
        have hX := X.out
        rw [hkn] at hX
        have XE := Lib.hid hX
        obtain ⟨aE, cE, e1, hE, _⟩ := strs_cap_of_row hX.e
        obtain ⟨aT, cT, e2, hT, _⟩ := strs_cap_of_row hX.t
        have hXo : TRow w6.heap.size (ownTo L P O P.length) (.slice (some ⟨g, 0, none⟩) (ownTo L P O P.length).length c) wr := by rw [ownTo_len]; exact hX.o
        obtain ⟨aW, cW, e3, hWs, _⟩ := strs_cap_of_row hXo
        cases e3
        subst e1
        subst e2
        have HEs := Lib.hid hE
        have HTs := Lib.hid hT
        have HWs := Lib.hid hWs
        have hol := ownTo_len L P O P.length
        have KW := Lib.hid (KB.out.next hX.b)
        have HEL2 := Lib.hid (HEL P.length)
        have HTL2 := Lib.hid (HTL P.length)
        have HES2 := Lib.hid (HES.out P.length)
        have HTS2 := Lib.hid (HTS.out P.length)
        clear hX hXo hkn hE hT hWs HEL HTL HES HTS X
        generalize elemsTo L P P.length = E at *
        generalize turnsTo L P O P.length = T at *
        generalize ownTo L P O P.length = W' at *
        obtain ⟨Z2, hZ2⟩ : ∃ Z2, Z2 = rootD W' := ⟨_, rfl⟩
        rw [← hZ2] at HRT
        have HZ2 := Lib.hid hZ2
        have hW80 : W'.length ≤ 80 := by omega
        have HBW := Lib.hid (build_any (some ⟨g, 0, none⟩) c W' wr KW.out.k.g HWs.out (by omega) (fun i h => by have := HOS.out _ (List.getElem_mem h); omega))
        rw [hol] at HBW
        have hL9 : (-9223372036854775808 : Int) ≤ (L.length : Int) ∧ (L.length : Int) ≤ 9223372036854775807 := by omega
        have hE7 : ∀ i (h : i < E.length), E[i].length ≤ 10000000 := fun i h => by have := HES2.out _ (List.getElem_mem h); omega
        have hT7 : ∀ i (h : i < T.length), T[i].length ≤ 10000000 := fun i h => by have := HTS2.out _ (List.getElem_mem h); omega
        have hR7 : ∀ i (h : i < R.length), R[i].length ≤ 1000000000 := fun i h => by have := h32 _ (List.getElem_mem h); omega
        have HI1 := Lib.hid (fun t2 wz (h : Kc w L O R E T W' P t t2 (some ⟨bL, oL, none⟩) aO aP aR aE aT wz) => is_any Z L.length hL9 P E R aP aE aR cP cE cR wz h.kb.k.g h.kb.p h.e h.kb.r (by omega) (by have := HEL2.out; omega) HC6.out (by omega) hE7 hR7)
        rw [decide_eq_true HRE] at HI1
        have HI2 := Lib.hid (fun t2 wz (h : Kc w L O R E T W' P t t2 (some ⟨bL, oL, none⟩) aO aP aR aE aT wz) => is_any Z2 L.length hL9 P T R aP aT aR cP cT cR wz h.kb.k.g h.kb.p h.s h.kb.r (by omega) (by have := HTL2.out; omega) HC6.out (by omega) hT7 hR7)
        rw [decide_eq_true HRT] at HI2
        have HK1 := Lib.hid (fun t2 wz (h : Kc w L O R E T W' P t t2 (some ⟨bL, oL, none⟩) aO aP aR aE aT wz) => ocheck_any Z L.length hL9 P E R aP aE aR cP cE cR wz h.kb.k.g h.kb.p h.e h.kb.r (by omega) (by have := HEL2.out; omega) HC6.out (by omega) hE7 hR7)
        rw [show checkV Z L.length P E R = 0 by rw [checkV, HRE, if_neg (by simp), if_pos rfl]] at HK1
        have HK2 := Lib.hid (fun t2 wz (h : Kc w L O R E T W' P t t2 (some ⟨bL, oL, none⟩) aO aP aR aE aT wz) => ocheck_any Z L.length hL9 P T R aP aT aR cP cT cR wz h.kb.k.g h.kb.p h.s h.kb.r (by omega) (by have := HTL2.out; omega) HC6.out (by omega) hT7 hR7)
        rw [show checkV Z L.length P T R = if Z2 = Z then 0 else 20 by rw [checkV, HRT, if_neg (by simp)]] at HK2
        have HR1 := Lib.hid (fun t2 wz (h : Kc w L O R E T W' P t t2 (some ⟨bL, oL, none⟩) aO aP aR aE aT wz) => rootT_any L t wz h.kb.t)
        rw [← HZ.out] at HR1
        have HR2 := Lib.hid (fun t2 wz (h : Kc w L O R E T W' P t t2 (some ⟨bL, oL, none⟩) aO aP aR aE aT wz) => rootT_any W' t2 wz h.u)
        rw [← HZ2.out] at HR2
        clear HRE HRT hL9 hE7 hT7 hR7 hW80 hZ2 hol h32 hpr
        go_upto_region 26 with (go_at_call 12; refine HBW.out.mono ?_; rintro e w8 ⟨t2, rfl, hT8, _, hb8⟩; have KC := Lib.hid (show Kc w L O R E T W' P t t2 (some ⟨bL, oL, none⟩) aO aP aR aE aT w8 from ⟨KW.out.next hb8, HEs.out.below (Nat.le_refl _) hb8, HTs.out.below (Nat.le_refl _) hb8, hT8⟩); clear hT8 hb8)
        by_cases hzz : Z2 = Z
        · have hq : (Z == Z2) = true := by simp [hzz]
          rw [if_pos hzz] at HK2
          clear hzz
          go_wp2_with (first
            | (go_at_call 16; with_reducible refine (HR1.out _ _ KC.out).mono ?_; rintro e wn ⟨rfl, rfl⟩)
            | (go_at_call 16; with_reducible refine (HR2.out _ _ KC.out).mono ?_; rintro e wn ⟨rfl, rfl⟩)
            | (go_at_call 15; with_reducible refine (HI1.out _ _ KC.out).mono ?_; rintro e wn ⟨rfl, bn⟩; have KC := Lib.hid (KC.out.next bn))
            | (go_at_call 15; with_reducible refine (HI2.out _ _ KC.out).mono ?_; rintro e wn ⟨rfl, bn⟩; have KC := Lib.hid (KC.out.next bn))
            | (go_at_call 8; with_reducible refine (HK1.out _ _ KC.out).mono ?_; rintro e wn ⟨rfl, bn⟩; have KC := Lib.hid (KC.out.next bn))
            | (go_at_call 8; with_reducible refine (HK2.out _ _ KC.out).mono ?_; rintro e wn ⟨rfl, bn⟩; have KC := Lib.hid (KC.out.next bn)))
          exact bodyPost_ret (v := .bool true) (by simp [results, Tryz.results4, go_sem]) rfl ⟨rfl, KC.out.kb.k.o⟩
        · have hq : (Z == Z2) = false := by simp; exact fun h => hzz h.symm
          rw [if_neg hzz] at HK2
          clear hzz
          go_wp2_with (first
            | (go_at_call 16; with_reducible refine (HR1.out _ _ KC.out).mono ?_; rintro e wn ⟨rfl, rfl⟩)
            | (go_at_call 16; with_reducible refine (HR2.out _ _ KC.out).mono ?_; rintro e wn ⟨rfl, rfl⟩)
            | (go_at_call 15; with_reducible refine (HI1.out _ _ KC.out).mono ?_; rintro e wn ⟨rfl, bn⟩; have KC := Lib.hid (KC.out.next bn))
            | (go_at_call 15; with_reducible refine (HI2.out _ _ KC.out).mono ?_; rintro e wn ⟨rfl, bn⟩; have KC := Lib.hid (KC.out.next bn))
            | (go_at_call 8; with_reducible refine (HK1.out _ _ KC.out).mono ?_; rintro e wn ⟨rfl, bn⟩; have KC := Lib.hid (KC.out.next bn))
            | (go_at_call 8; with_reducible refine (HK2.out _ _ KC.out).mono ?_; rintro e wn ⟨rfl, bn⟩; have KC := Lib.hid (KC.out.next bn)))
          exact bodyPost_ret (v := .bool true) (by simp [results, Tryz.results4, go_sem]) rfl ⟨rfl, KC.out.kb.k.o⟩
end Go.Proofs.YtblimejnjboedaaGreatDoor
