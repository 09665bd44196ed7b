/- The law's ProofExact. -/
import Derived.Test.YtblimejnjboedaaGreatDoorJNd
import Derived.Test.YtblimejnjboedaaGreatDoorJNg
import Derived.Test.YtblimejnjboedaaGreatDoorJNl
import Derived.Test.YtblimejnjboedaaGreatDoorJ31
import Derived.Deep.RegionLaw
namespace Go.Proofs.YtblimejnjboedaaGreatDoor
open Go.RowKit Go.Sort

/-- what is kept behind the tree, the positions, and the proof -/
structure Kx (w : World) (L R : List (List UInt8)) (P : List Nat) (aL aP aR : Option Addr) (B cR : Nat) (wz : World) : Prop where
  k : Wl w wz
  l : Strs aL L wz
  p : Nums aP P wz
  r : TRow B R (.slice aR R.length cR) wz
theorem trow_next {B : Nat} {X : List (List UInt8)} {v : Value} {w w' : World} (h : TRow B X v w) (hb : Below w.heap.size w w') : TRow B X v w' := own_kept (S := fun _ => True) h ⟨hb.os, hb.tape, hb.output, hb.size, fun j hj _ => hb.block j hj⟩ (fun _ _ => trivial)
theorem Kx.next {w wz wa : World} {L R : List (List UInt8)} {P : List Nat} {aL aP aR : Option Addr} {B cR : Nat} (h : Kx w L R P aL aP aR B cR wz) (hb : Below wz.heap.size wz wa) : Kx w L R P aL aP aR B cR wa :=
  ⟨h.k.next hb, h.l.below (Nat.le_refl _) hb, nums_next h.p hb, trow_next h.r hb⟩
structure Ky (w : World) (L R E : List (List UInt8)) (P : List Nat) (aL aP aR aE : Option Addr) (B cR : Nat) (wz : World) : Prop where
  kx : Kx w L R P aL aP aR B cR wz
  e : Strs aE E wz
theorem Ky.next {w wz wa : World} {L R E : List (List UInt8)} {P : List Nat} {aL aP aR aE : Option Addr} {B cR : Nat} (h : Ky w L R E P aL aP aR aE B cR wz) (hb : Below wz.heap.size wz wa) : Ky w L R E P aL aP aR aE B cR wa :=
  ⟨h.kx.next hb, h.e.below (Nat.le_refl _) hb⟩
theorem mod_facts (y n : Nat) : (y : Int).tmod (n : Int) = ((y % n : Nat) : Int) ∧ (y : Int) % (n : Int) = ((y % n : Nat) : Int) :=
  ⟨by rw [Int.tmod_eq_emod_of_nonneg (Int.natCast_nonneg _)]; simp, by simp⟩
theorem lit_empty (w : World) : ((w.alloc (.cells #[] 9)).drew).ownsRow w.heap.size 9 1 (.slice (some ⟨w.heap.size, 0, none⟩) 0 0) 0 [] :=
  ⟨rfl, .inr ⟨w.heap.size, 0, #[], rfl, Nat.le_refl _, heap_alloc_new _ _, Nat.le_refl _, Nat.zero_le _, rfl, rfl⟩⟩
theorem row_cells {B n : Nat} {X : List (List UInt8)} {g cp : Nat} {w : World} (h : TRow B X (.slice (some ⟨g, 0, none⟩) n cp) w) (j : Nat) (hj : j < X.length) : w.cell? ⟨g, j, none⟩ = some (.string ⟨X[j].toArray⟩) := by
  have hn : n = X.length := by
    rcases h.2 with ⟨e, _⟩ | ⟨_, _, _, e, _⟩ <;> cases e
    rfl
  subst hn
  rw [h.cellAt j (by omega), strC_get hj]
theorem row_at {B g cp i n : Nat} {X : List (List UInt8)} {w : World} (h : TRow B X (.slice (some ⟨g, 0, none⟩) n cp) w) (hi : i < X.length) : ∃ v, w.cell? ⟨g, i, none⟩ = some v ∧ w.frozen? ⟨g, i, none⟩ = false := by
  rcases h.2 with ⟨e, _⟩ | ⟨g', cp', cur, e, _, h2, h3, _, h5, _⟩
  · cases e
  · cases e
    exact ⟨cur[i], (lit_cell h2 i).trans (Array.getElem?_eq_getElem (by omega)), lit_free h2 i⟩
theorem trow_strs {B n : Nat} {X : List (List UInt8)} {ao : Option Addr} {cp : Nat} {w : World} (h : TRow B X (.slice ao n cp) w) (hn : n = X.length) : Strs ao X w ∧ X.length ≤ cp := by
  subst hn
  obtain ⟨a, c, e, h1, h2⟩ := strs_cap_of_row h
  cases e
  exact ⟨h1, h2⟩
set_option maxRecDepth 100000 in
set_option maxHeartbeats 4000000 in
theorem proofExact_any (ao : Option Addr) (cap : Nat) (S : List (List UInt8)) (x : Nat) (hx : x < 18446744073709551616) (y : Nat) (hy : y < 256) (w : World) (hg : Glob w) (hs : Strs ao S w) (hS : S.length ≤ maxLen) (hl : ∀ i (h : i < S.length), S[i].length ≤ maxLen) :
    Calls Tryz.prog 5 #[.slice ao S.length cap, .int .u64 (x : Int), .int .u8 (y : Int)] w fun e w' => e = .returned (.bool true) ∧ Below w.heap.size w w' := by
  have HW := Lib.hid (fun wz (h : Wl w wz) => works11_any wz h.g)
  have HC1 := Lib.hid (fun wz (h : Wl w wz) => cut11_any ao cap 80 (by decide) S wz hS hl (hs.below (Nat.le_refl _) h.o))
  rw [show ((80 : Nat) : Int) = 80 from rfl] at HC1
  have hlen := (cutBy_len S 80 60).1
  have hsh := cutBy_short S 80 60
  generalize cutBy S 80 60 = L at *
  have K := Lib.hid (show Wl w w from ⟨hg, Below.refl _ _⟩)
  have hl0 : (L.length : Int) ≤ 80 := by omega
  clear hg hs hS hl
  go_enter Tryz.func5, Tryz.ntmps5
  go_upto_region 3 with (go_at_call 10; refine (HW.out _ K.out).mono ?_; rintro e w1 ⟨rfl, hb1⟩; have K := Lib.hid (K.out.next hb1); clear hb1)
  go_upto_region 4 with (go_at_call 6; refine (HC1.out _ K.out).mono ?_; rintro e w2 ⟨aL, cL, rfl, hp2, hb2⟩; have K := Lib.hid (K.out.next hb2); have FL := Lib.hid hp2; clear hp2 hb2)
  clear HW HC1
  by_cases hL : L = []
  · have hz : ((L.length : Int) == 0) = true := by rw [hL]; rfl
    have hz2 : (L.length : Int) = 0 := by rw [hL]; rfl
    clear hL
    go_wp2
    go_ret
    exact ⟨rfl, K.out.o⟩
  · have hL0 : 0 < L.length := List.length_pos_iff.2 hL
    have hz : ((L.length : Int) == 0) = false := by rw [beq_eq_false_iff_ne]; omega
    have hl7 : ∀ i (h : i < L.length), L[i].length ≤ 10000000 := fun i h => Nat.le_trans (hsh i h) (by decide)
    have HBL := Lib.hid (fun ao cp wz (h : Wl w wz) (hp : Strs ao L wz) => build_any ao cp L wz h.g hp (by omega) hl7)
    have HCH := Lib.hid (chosen_any L.length hL0 (by omega) x hx)
    have hst := maskP_stands x hL0
    have hpl := maskP_len x hL0
    generalize maskP x L.length = P at *
    have hpp := stands_parts hst
    have HPG := Lib.hid (fun t bo cp wz (hT : TreeM L wz t) (hN : Nums bo P wz) => prove_good L t bo cp P wz hT hN (by omega) hst)
    have hmay := may_of (n := L.length) (by omega) hst
    have HEL := fun k => elemsTo_len L P k
    have hsL : ∀ y ∈ L, y.length ≤ 60 := fun y hy => by
      obtain ⟨i, hi, rfl⟩ := List.getElem_of_mem hy
      exact hsh i hi
    have HES := Lib.hid (fun k y (hy : y ∈ elemsTo L P k) => show y.length ≤ 60 by
      obtain ⟨i, _, rfl⟩ := List.mem_map.1 hy
      unfold elemAt
      cases hO : L[(P[i]?).getD 0]? with
      | none => simp
      | some t => exact hsL t (List.mem_of_getElem? hO))
    have h32 := proofD_32 L P
    have hsd := sizeD_le (P := P) hst (by omega)
    rw [← sizeD_eq L P] at hsd
    have hsz := sizeD_eq L P
    have hdp := dep_le L.length (by omega)
    have hpr : (proofD L P).length ≤ 80 * 16 := Nat.le_trans hsd (Nat.mul_le_mul (by omega) hdp)
    have HPX := Lib.hid hpp.2.2
    have hP0 : 0 < P.length := List.length_pos_iff.2 hpp.1
    have hp80 : (P.length : Int) ≤ 80 := by omega
    clear hL hst hpl hpp hsd hdp hsL hsh hx hlen
    generalize proofD L P = R at *
    have HSZ := Lib.hid hsz
    clear hsz
    go_upto_region 7 with (go_at_call 12; refine (HBL.out _ _ _ K.out FL.out.strs).mono ?_; rintro e w4 ⟨t, rfl, hT, _, hb4⟩; have K := Lib.hid (K.out.next hb4); have FL := Lib.hid (FL.out.below hb4); have T1 := Lib.hid hT; clear hT hb4)
    go_upto_region 10 with (go_at_call 13; refine (HCH.out _).mono ?_; rintro e w5 ⟨aP, cP, rfl, hn5, hb5⟩; have K := Lib.hid (K.out.next hb5); have FL := Lib.hid (FL.out.below hb5); have T1 := Lib.hid (T1.out.below hb5); have P1 := Lib.hid hn5; clear hn5 hb5)
    go_upto_region 13 with (go_at_call 14; refine (HPG.out _ _ _ _ T1.out P1.out).mono ?_; rintro e w6 ⟨vR, rfl, ho6, hb6⟩; obtain ⟨aR, cR, rfl, hr6, hc6⟩ := strs_cap_of_row ho6; have KB := Lib.hid (show Kx w L R P aL aP aR w5.heap.size cR w6 from ⟨K.out.next hb6, (FL.out.below hb6).strs, nums_next P1.out hb6, ho6⟩); have HC6 := Lib.hid hc6; clear ho6 hr6 hc6 hb6)
    rcases KB.out.l with h0 | ⟨bL, oL, rfl, hbL, hcL⟩
    · rw [h0] at hL0; simp at hL0
    have HCL := Lib.hid hcL
    have HBL6 := Lib.hid hbL
    clear hcL hbL HBL HCH HPG
    go_wp2
    go_loopw [12, 13] (fun v12 v13 wr => ∃ k : Nat, v13 = .int .i64 (k : Int) ∧ k ≤ P.length ∧ Hid (TRow w6.heap.size (elemsTo L P k) v12 wr) ∧ Hid (Below w6.heap.size w6 wr)) (fun _ v13 _ => P.length - (intOf v13).toNat)
    case atStart => exact ⟨0, rfl, Nat.zero_le _, Lib.hid (trow_nil _ _), Lib.hid (Below.refl _ _)⟩
    case round =>
      obtain ⟨k, rfl, hk, HE, HB⟩ := hrel
      by_cases hkP : k < P.length
      · have hl1 : (k : Int) < (P.length : Int) := by omega
        have k0 : (0 : Int) ≤ (k : Int) := by omega
        obtain ⟨b1, o1, e1, hc1⟩ := nums_at (KB.out.next HB.out).p k hkP
        subst e1
        have hpL := HPX.out _ (List.getElem_mem hkP)
        have hel : elemAt L P k = L[P[k]] := by rw [elemAt, List.getElem?_eq_getElem hkP, Option.getD_some, List.getElem?_eq_getElem hpL]; rfl
        have hc2 : wr.cell? ⟨bL, oL + P[k], none⟩ = some (.string ⟨(elemAt L P k).toArray⟩) := by rw [hel]; exact (HB.out.cell (p := ⟨bL, oL + P[k], none⟩) HBL6.out).trans (HCL.out _ hpL)
        have p0 : (P[k] : Int) < (L.length : Int) := by omega
        have p1 : (0 : Int) ≤ (P[k] : Int) := by omega
        have HKP := Lib.hid hkP
        clear hel
        go_wp2_with (at_builtin; refine append_txt (t := elemAt L P k) rfl _ _ rfl rfl rfl HE.out (by rw [HEL]; omega) HB.out.size ?_; intro g1 c1 wa he1 hg1 ha1; have HE1 := Lib.hid he1; have HB1 := Lib.hid (HB.out.grown hg1 HB.out.size (fun j e => (HE.out.lt j e).1)); clear he1 hg1 ha1)
        go_roundw
        case rel => exact ⟨k + 1, by go_num, HKP.out, by rw [elemsTo_succ]; rw [HEL] at HE1; exact HE1, HB1⟩
        case measure => simp [intOf] <;> omega
      · have hl1 : ¬ (k : Int) < (P.length : Int) := by omega
        have hkn : k = P.length := by omega
        have hE := HE.out
        rw [hkn] at hE
        obtain ⟨aE, cE, e1, hEs, hEc⟩ := strs_cap_of_row hE
        subst e1
        have KW := Lib.hid (KB.out.next HB.out)
        have HEL2 := HEL P.length
        have HES2 := Lib.hid (HES.out P.length)
        clear HEL HES hE HE hkn
        generalize elemsTo L P P.length = E at *
        have hE7 : ∀ i (h : i < E.length), E[i].length ≤ 10000000 := fun i h => by have := HES2.out _ (List.getElem_mem h); omega
        have hR7 : ∀ i (h : i < R.length), R[i].length ≤ 1000000000 := fun i h => by have := h32 _ (List.getElem_mem h); omega
        have hL9 : (-9223372036854775808 : Int) ≤ (L.length : Int) ∧ (L.length : Int) ≤ 9223372036854775807 := by omega
        have hN32 := hlen32 noneT [] (by decide)
        have HHN := Lib.hid (show ∀ wz, Glob wz → Calls Tryz.prog 17 #[.string ⟨#[110, 111, 110, 101]⟩, .slice none 0 0] wz (fun e w' => e = .returned (.string ⟨(hashL noneT []).toArray⟩) ∧ Below wz.heap.size wz w') from fun wz h => hash_any noneT none 0 [] wz h (.inl rfl) (by decide) (by decide))
        obtain ⟨N, hN⟩ : ∃ N, N = hashL noneT [] := ⟨_, rfl⟩
        rw [← hN] at hN32 HHN
        have KY := Lib.hid (show Ky w L R E P (some ⟨bL, oL, none⟩) aP aR aE w5.heap.size cR wr from ⟨KW.out, hEs⟩)
        -- what fails, of whatever proof
        have HFA := Lib.hid (fun (want : Int) (Q : List (List UInt8)) aq cq wz (h : Ky w L R E P (some ⟨bL, oL, none⟩) aP aR aE w5.heap.size cR wz) (hq : Strs aq Q wz) (hc : Q.length ≤ cq) (hq1 : Q.length ≤ 10000) (hq2 : ∀ x ∈ Q, x.length ≤ 100) (hw : rootV L.length P E Q = ([], want)) => fails_any want L.length hL9 P E Q aP aE aq cP cE cq wz h.kx.k.g h.kx.p h.e hq (by omega) (by omega) hc (by omega) hE7 (fun i h => by have := hq2 _ (List.getElem_mem h); omega) hw)
        obtain ⟨X0, E1, hE1⟩ : ∃ X0 E1, E = X0 :: E1 := by
          cases E with
          | nil => simp at HEL2; omega
          | cons a b => exact ⟨a, b, rfl⟩
        have HFB := Lib.hid (fun a c wz (h : Ky w L R E P (some ⟨bL, oL, none⟩) aP aR aE w5.heap.size cR wz) (ha : Strs a E1 wz) => fails_any 2 L.length hL9 P E1 R aP a aR cP c cR wz h.kx.k.g h.kx.p ha (trow_strs h.kx.r rfl).1 (by omega) (by have := congrArg List.length hE1; simp at this; omega) HC6.out (by omega) (fun i h => by have := HES2.out E1[i] (by rw [hE1]; exact List.mem_cons_of_mem _ (List.getElem_mem h)); omega) hR7 (root_bad (.inr (by have := congrArg List.length hE1; simp at this; omega))))
        have HM1 := Lib.hid (root_more hmay HEL2 h32 HSZ.out hN32)
        have HM2 := Lib.hid (fun k => root_less (k := k) hmay HEL2 h32 HSZ.out)
        have HM3 := Lib.hid (fun k => root_cut (k := k) hmay HEL2 h32)
        obtain ⟨n1, hn1⟩ : ∃ n1, n1 = E1.length := ⟨_, rfl⟩
        have hEn : E.length = n1 + 1 := by rw [hE1, List.length_cons, hn1]
        obtain ⟨bE, oE, e2, hcE⟩ := hEs.cell 0 (by omega)
        subst e2
        have HEE := Lib.hid (And.intro hE1 hn1)
        have H32 := Lib.hid h32
        have H32N := Lib.hid hN32
        have hr0 : (R.length : Int) ≤ 1280 := by omega
        have q0 : (0 : Int) < (n1 : Int) + 1 := by omega
        have q1 : (1 : Int) ≤ (n1 : Int) + 1 := by omega
        have q2 : (n1 : Int) + 1 ≤ (cE : Int) := by omega
        have HQ2 := Lib.hid q2
        have HEN := Lib.hid hEn
        rw [← hn1] at HFB
        have HFB1 := Lib.hid (fun c wz (h : Ky w L R E P (some ⟨bL, oL, none⟩) aP aR (some ⟨bE, oE, none⟩) w5.heap.size cR wz) => HFB.out (some ⟨bE, oE + 1, none⟩) c wz h (by have := h.e; rw [hE1] at this; exact this.tail))
        have HFB2 := Lib.hid (fun (e1 : cE = 1) c wz (h : Ky w L R E P (some ⟨bL, oL, none⟩) aP aR (some ⟨bE, oE, none⟩) w5.heap.size cR wz) => HFB.out (some ⟨bE, oE, none⟩) c wz h (.inl (List.length_eq_zero_iff.1 (by omega))))
        clear HFB
        rw [hEn]
        clear hE7 hR7 hL9 hN hE1 hn1 h32 hN32 HEL2 hmay hEs hEc hcE KW hEn
        have KY0 := KY
        go_upto_region 19 with (first
          | (at_builtin; refine append_any rfl _ _ rfl rfl rfl KY.out.kx.r (by omega) ?_; intro v8 w8 ho8 hb8; have KY := Lib.hid (KY.out.next hb8); have HO8 := Lib.hid ho8; have HZ := Lib.hid hb8.size; have HB8 := Lib.hid hb8; clear ho8 hb8)
          | (go_at_call 17; refine (HHN.out _ KY.out.kx.k.g).mono ?_; rintro e w9 ⟨rfl, hb9⟩; have KY := Lib.hid (KY.out.next hb9); have HO8 := Lib.hid (trow_next HO8.out hb9); have HZ := Lib.hid (Nat.le_trans HZ.out hb9.size); have HB8 := Lib.hid (HB8.out.trans (hb9.mono HB8.out.size)); clear hb9)
          | (at_builtin; refine append_txt (t := N) rfl _ _ rfl rfl rfl HO8.out (by omega) HZ.out ?_; intro g9 c9 w10 ho10 hg10 _; have HO10 := Lib.hid ho10; have HB10 := Lib.hid (HB8.out.grown hg10 HZ.out (fun j e => (HO8.out.lt j e).1)); clear ho10 hg10))
        have KY := Lib.hid (KY0.out.next HB10.out)
        have HF1 := Lib.hid (HFA.out 3 (R ++ [N]) (some ⟨g9, 0, none⟩) c9 w10 KY.out (trow_strs HO10.out (by simp)).1 (trow_strs HO10.out (by simp)).2 (by rw [List.length_append]; simp; omega) (fun x hx => by
          rcases List.mem_append.1 hx with h | h
          · have := H32.out x h; omega
          · simp at h; subst h; have := H32N.out; omega) HM1.out)
        rw [HEN.out, List.length_append, List.length_singleton] at HF1
        clear HO8 HZ HB8 HO10
        have q3 : ((n1 : Int) + 1 == 0) = false := by rw [beq_eq_false_iff_ne]; omega
        go_upto_region 21 with (first
            | (go_at_call 11; with_reducible refine HF1.out.mono ?_; rintro e w11 ⟨rfl, hb11⟩; have KY := Lib.hid (KY.out.next hb11); clear hb11)
            | (go_at_call 11; with_reducible refine (HFB1.out _ _ KY.out).mono ?_; rintro e w12 ⟨rfl, hb12⟩; have KY := Lib.hid (KY.out.next hb12); clear hb12)
            | (go_at_call 11; with_reducible refine (HFB2.out (by assumption) _ _ KY.out).mono ?_; rintro e w12 ⟨rfl, hb12⟩; have KY := Lib.hid (KY.out.next hb12); clear hb12))
        all_goals
          try (have hce1 : cE = 1 := (by assumption); subst hce1)
          clear q0 q1 q2 q3 HF1 HFB1 HFB2
          by_cases hr0' : R = []
          · have hrz : ((R.length : Int) == 0) = true := by rw [hr0']; rfl
            have hrz2 : (R.length : Int) = 0 := by rw [hr0']; rfl
            clear hr0'
            go_wp2
            go_ret
            exact ⟨rfl, KY.out.kx.k.o⟩
          · have hRp := List.length_pos_iff.2 hr0'
            have hrz : ((R.length : Int) == 0) = false := by rw [beq_eq_false_iff_ne]; omega
            obtain ⟨k, hk⟩ : ∃ k, k = y % R.length := ⟨_, rfl⟩
            have hkR : k < R.length := by rw [hk]; exact Nat.mod_lt _ hRp
            have hmod : (y : Int).tmod (R.length : Int) = (k : Int) := by rw [hk]; exact (mod_facts y R.length).1
            have hmod2 : (y : Int) % (R.length : Int) = (k : Int) := by rw [hk]; exact (mod_facts y R.length).2
            have hlR : (k : Int) < (R.length : Int) := by omega
            clear hk hr0'
            go_upto_region 24 with fail
            clear hmod hmod2 hrz
            obtain ⟨gR, hgR⟩ : ∃ gR, aR = some ⟨gR, 0, none⟩ := by
              rcases KY.out.kx.r.2 with ⟨e, hz⟩ | ⟨g, cp, cur, e, _⟩
              · exact absurd hz (by omega)
              · cases e; exact ⟨g, rfl⟩
            subst hgR
            have hcR := (trow_strs KY.out.kx.r rfl).2
            obtain ⟨m, hm⟩ : ∃ m, R.length = k + 1 + m := ⟨R.length - (k + 1), by omega⟩
            obtain ⟨k1, hk1⟩ : ∃ k1, k1 = k + 1 := ⟨_, rfl⟩
            obtain ⟨o2, hAd, ho2⟩ : ∃ o2, (if cR = k1 then some (⟨gR, 0, none⟩ : Addr) else some ⟨gR, k1, none⟩) = some ⟨gR, o2, none⟩ ∧ (m = 0 ∨ o2 = k + 1) := by
              by_cases h : cR = k1
              · exact ⟨0, by rw [if_pos h], .inl (by omega)⟩
              · exact ⟨k1, by rw [if_neg h], .inr hk1⟩
            have hwk : IntKind.i64.wrap ((k : Int) + 1) = (k1 : Int) := by rw [hk1, IntKind.wrap_i64]; omega
            have hk10 : (0 : Int) ≤ (k1 : Int) := by omega
            have hk1l : (k1 : Int) ≤ (k : Int) + 1 + (m : Int) := by omega
            have hsub : k + 1 + m - k1 = m := by omega
            have HMM := Lib.hid hm
            have HO2 := Lib.hid ho2
            have r1 : (0 : Int) ≤ (k : Int) := by omega
            have r2 : (k : Int) + 1 + (m : Int) ≤ (cR : Int) := by omega
            have hcRn : k + 1 + m ≤ cR := by omega
            have hcRk : k ≤ cR := by omega
            have hcRi : (k : Int) ≤ (cR : Int) := by omega
            rw [hm]
            obtain ⟨i0, hi, hz0, hz1, hz2⟩ := info_parts info_str
            have hk13 : (k : Int) ≤ 1280 := by omega
            have hk13n : k ≤ 1280 := by omega
            have hm13 : (m : Int) ≤ 1280 := by omega
            have hm13n : m ≤ 1280 := by omega
            have HL0 := Lib.hid (lit_empty w12)
            have HN2 := Lib.hid (show ∀ wz, Below w12.heap.size w12 wz → ∀ j u, (strC (R.drop (k + 1)))[j]? = some u → wz.cell? ((⟨gR, o2, none⟩ : Addr).add j) = some u from fun wz hb j u hu => by
              have hj : j < (R.drop (k + 1)).length := by have := (List.getElem?_eq_some_iff.1 hu).1; rwa [strC_len] at this
              rw [strC_get hj] at hu
              cases hu
              rw [List.length_drop] at hj
              have hjR : k + 1 + j < R.length := by omega
              rcases HO2.out with h0 | h0
              · omega
              · have hc := row_cells (trow_next KY.out.kx.r hb) (k + 1 + j) hjR
                rw [Addr.add_mid, h0, List.getElem_drop]
                exact hc)
            have HN1 := Lib.hid (show ∀ j u, (strC (R.take k))[j]? = some u → ((w12.alloc (.cells #[] 9)).drew).cell? ((⟨gR, 0, none⟩ : Addr).add j) = some u from fun j u hu => by
              have hj : j < (R.take k).length := by have := (List.getElem?_eq_some_iff.1 hu).1; rwa [strC_len] at this
              rw [strC_get hj] at hu
              cases hu
              have hjR : j < R.length := by rw [List.length_take] at hj; omega
              have hc := row_cells KY.out.kx.r j hjR
              rw [World.cell?_drew, Addr.add_mid, Nat.zero_add, List.getElem_take]
              exact (World.cell?_alloc_lt _ _ _ (World.block_lt_of_cell? w12 _ hc)).trans hc)
            have HKK := Lib.hid hk1
            clear hm ho2 hr0 hRp hkR hlR hk1
            go_region_law (first
              | (refine step_append_own rfl (.tmp 95) (.tmp 98) 23 rfl w12.heap.size 9 i0 _ 1 16 Tryz.underlying23 hi hz0 hz1 hz2 rfl (by omega) (.slice (some ⟨w12.heap.size, 0, none⟩) 0 0) 0 [] rfl HL0.out ⟨gR, 0, none⟩ k cR (strC (R.take k)) rfl (by rw [strC_len, List.length_take]; have := HMM.out; omega) HN1.out (strC_one _) (by unfold maxLen; omega) (by omega) (by simp) ?_; intro v13 w13 hown13 hg13 _; have hb13 : Below w12.heap.size w12 w13 := (by0 w12 _).drew.grown hg13 (by simp) (fun j e => by cases e; exact Nat.le_refl _))
              | (refine step_append_own rfl (.tmp 99) (.tmp 103) 23 rfl w12.heap.size 9 i0 _ 1 16 Tryz.underlying23 hi hz0 hz1 hz2 rfl (by omega) v13 (0 + k) _ rfl hown13 ⟨gR, o2, none⟩ m (cR - k1) (strC (R.drop (k + 1))) rfl (by rw [strC_len, List.length_drop]; have := HMM.out; omega) (HN2.out w13 hb13) (strC_one _) (by unfold maxLen; omega) (by omega) hb13.size ?_; intro v14 w14 hown14 hg14 _))
            all_goals
              have ho14 : TRow w12.heap.size (R.take k ++ R.drop (k + 1)) v14 w14 := by
                have e1 : (R.take k ++ R.drop (k + 1)).length = 0 + k + m := by rw [List.length_append, List.length_take, List.length_drop]; have := HMM.out; omega
                rw [TRow, e1, strC, List.map_append]
                exact hown14
              have hb14 : Below w12.heap.size w12 w14 := hb13.grown hg14 hb13.size (fun j e => (hown13.lt j e).1)
              obtain ⟨a14, c14, e14, hs14, hc14⟩ := strs_cap_of_row ho14
              subst e14
              have KY := Lib.hid (KY.out.next hb14)
              have HS14 := Lib.hid hs14
              have HC14 := Lib.hid hc14
              have hkR : k < R.length := by have := HMM.out; omega
              have HW2 := Lib.hid (HM2.out k hkR)
              have HW3 := Lib.hid (HM3.out k hkR)
              have hX32 := H32.out _ (List.getElem_mem hkR)
              have H31 := Lib.hid (show ∀ x ∈ R.set k (R[k].take 31), x.length ≤ 100 from fun x hx => by
                rcases List.mem_or_eq_of_mem_set hx with h | h
                · have := H32.out x h; omega
                · subst h; rw [List.length_take]; omega)
              have HLS := Lib.hid (show ∀ x ∈ R.take k ++ R.drop (k + 1), x.length ≤ 100 from fun x hx => by
                rcases List.mem_append.1 hx with h | h
                · have := H32.out x (List.mem_of_mem_take h); omega
                · have := H32.out x (List.mem_of_mem_drop h); omega)
              have HQL := Lib.hid (show (R.take k ++ R.drop (k + 1)).length ≤ 10000 by rw [List.length_append, List.length_take, List.length_drop]; omega)
              clear hown14 hg14 hown13 hg13 hb13 hb14 ho14 hs14 hc14 hAd hwk hk10 hk1l hsub HN1 HN2 HL0 HM2 HM3
              generalize R.take k ++ R.drop (k + 1) = Q1 at *
              go_upto_region 26 with (at_builtin; refine append_any2 rfl _ _ rfl rfl HMM.out.symm rfl KY.out.kx.r (by omega) ?_; intro v15 w15 ho15 hb15; have HO15 := Lib.hid ho15; have HB15 := Lib.hid hb15; clear ho15 hb15)
              obtain ⟨g15, c15, e15⟩ : ∃ g c, v15 = .slice (some ⟨g, 0, none⟩) R.length c := by
                rcases HO15.out.2 with ⟨e, hz⟩ | ⟨g, cp, cur, e, _⟩
                · exact absurd hz (by omega)
                · exact ⟨g, cp, e⟩
              subst e15
              have hgw := (HO15.out.lt g15 rfl).1
              have hc15 := row_cells HO15.out k hkR
              obtain ⟨_, hdr15, hf15⟩ := row_at HO15.out hkR
              clear hdr15
              have hst := row_set (i := k) (t := R[k].take 31) HO15.out
              obtain ⟨X, hX⟩ : ∃ X, X = R[k] := ⟨_, rfl⟩
              rw [← hX] at hc15 hst HW3 H31 hX32
              have hlk : (k : Int) < (R.length : Int) := by omega
              have hx31 : (⟨X.toArray⟩ : ByteArray).extract 0 31 = ⟨(X.take 31).toArray⟩ := by rw [extract_list, List.drop_zero]
              have h31l : (31 : Int) ≤ (X.length : Int) := by omega
              have HST := Lib.hid hst
              have HBF := Lib.hid (show Below w14.heap.size w14 (w15.setCell ⟨g15, k, none⟩ (.string ⟨(X.take 31).toArray⟩)) from HB15.out.setCell hgw _)
              have HX31 := Lib.hid hx31
              clear hst hgw hX hx31 HO15 HB15
              go_upto_region 27 with fail
              rw [HX31.out]
              generalize w15.setCell ⟨g15, k, none⟩ (.string ⟨(X.take 31).toArray⟩) = w16 at *
              have KY := Lib.hid (KY.out.next HBF.out)
              have hs15 := trow_strs HST.out (by rw [List.length_set])
              have HF3 := Lib.hid (HFA.out 4 Q1 a14 c14 w16 KY.out (HS14.out.below (Nat.le_refl _) HBF.out) HC14.out HQL.out HLS.out HW2.out)
              rw [HEN.out] at HF3
              have HF4 := Lib.hid (fun wz (hb : Below w16.heap.size w16 wz) => HFA.out 5 (R.set k (X.take 31)) (some ⟨g15, 0, none⟩) c15 wz (KY.out.next hb) (hs15.1.below (Nat.le_refl _) hb) hs15.2 (by rw [List.length_set]; omega) H31.out HW3.out)
              rw [HEN.out, List.length_set] at HF4
              clear hs15 hc15 hf15 hX32 h31l hlk
              go_wp2_with (first
                | (go_at_call 11; with_reducible refine HF3.out.mono ?_; rintro e w17 ⟨rfl, hb17⟩; have KY := Lib.hid (KY.out.next hb17); have HB17 := Lib.hid hb17; clear hb17)
                | (go_at_call 11; with_reducible refine (HF4.out _ HB17.out).mono ?_; rintro e w18 ⟨rfl, hb18⟩; have KY := Lib.hid (KY.out.next hb18); clear hb18))
              exact bodyPost_ret (v := .bool true) (by simp [results, Tryz.results5, go_sem]) rfl ⟨rfl, KY.out.kx.k.o⟩
end Go.Proofs.YtblimejnjboedaaGreatDoor
