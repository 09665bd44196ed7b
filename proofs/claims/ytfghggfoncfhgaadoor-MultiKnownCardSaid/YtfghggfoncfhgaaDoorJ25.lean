/- The law's has. -/
import Derived.Test.YtfghggfoncfhgaaDoorJ24
import Derived.Test.YtfghggfoncfhgaaDoorJ23
namespace Go.Proofs.YtfghggfoncfhgaaDoor
open Go.RowKit Go.Sort

theorem has10_any (ao : Option Addr) (ca : Nat) (L : List (List UInt8)) (X : (List UInt8)) (w : World) (hL : L.length ≤ 100000) (ha : Strs ao L w) :
    Calls Tryd.prog 15 #[.slice ao L.length ca, .string ⟨X.toArray⟩] w fun e w' => e = .returned (.bool (decide (X ∈ L))) ∧ w = w' := by
  have HA := Lib.hid ha
  clear ha
  go_enter Tryd.func15, Tryd.ntmps15
  go_wp2
  go_loopw [5] (fun i wr => ∃ k : Nat, k ≤ L.length ∧ i = .int .i64 (k : Int) ∧ Hid (X ∉ L.take k) ∧ w = wr)
    (fun i _ => L.length - (intOf i).toNat)
  case atStart => exact ⟨0, by omega, rfl, Lib.hid (by simp), rfl⟩
  case round =>
    obtain ⟨k, hk, rfl, HX, rfl⟩ := hrel
    by_cases hlt : k < L.length
    · obtain ⟨b1, o1, rfl, hc1⟩ := HA.out.cell k hlt
      have k0 : (0 : Int) ≤ (k : Int) := by omega
      have k1 : (k : Int) < (L.length : Int) := by omega
      by_cases he : L[k] = X
      · have HM := Lib.hid (show X ∈ L by rw [← he]; exact List.getElem_mem hlt)
        rw [he] at hc1
        clear he
        go_wp2
        go_ret
        exact ⟨by rw [decide_eq_true HM.out]; trivial, rfl⟩
      · have HN := Lib.hid (show X ∉ L.take (k + 1) by
          rw [← List.take_append_getElem hlt]
          intro h
          rcases List.mem_append.1 h with h | h
          · exact HX.out h
          · simp at h; exact he h.symm)
        obtain ⟨Y, hY⟩ : ∃ Y, L[k] = Y := ⟨_, rfl⟩
        rw [hY] at hc1 he
        have hne : (Y == X) = false := by simpa using he
        clear hY he
        go_wp2
        go_roundw
        case rel => exact ⟨k + 1, by omega, by go_num, HN, trivial⟩
        case measure => simp [intOf]; omega
    · have k1 : ¬ (k : Int) < (L.length : Int) := by omega
      have HN := Lib.hid (show X ∉ L by have := HX.out; rwa [List.take_of_length_le (by omega)] at this)
      go_wp2
      go_ret
      exact ⟨by rw [decide_eq_false HN.out]; trivial, rfl⟩
end Go.Proofs.YtfghggfoncfhgaaDoor
/- The law's MultiRoots. -/
namespace Go.Proofs.YtfghggfoncfhgaaDoor
open Go.RowKit Go.Sort

theorem strs_cap_of_row {L : List (List UInt8)} {lo : Nat} {v : Value} {w : World} (ho : w.ownsRow lo 9 1 v L.length (strC L)) : ∃ ao cp, v = .slice ao L.length cp ∧ Strs ao L w ∧ L.length ≤ cp := by
  obtain ⟨ao, cp, rfl, h⟩ := strs_of_row ho
  refine ⟨ao, cp, rfl, h, ?_⟩
  obtain ⟨_, ⟨h2, h3⟩ | ⟨g, c, cur, e, _, _, h5, _⟩⟩ := ho
  · omega
  · cases e; exact h5
theorem sizeD_eq (L : List (List UInt8)) (P : List Nat) : (proofD L P).length = sizeD P L.length := proofD_len L P
/-- what the walk keeps: a tree, its list, positions -/
structure Mr (w0 : World) (L : List (List UInt8)) (t : Nat) (ao bo : Option Addr) (P : List Nat) (wz : World) : Prop where
  k : Wl w0 wz
  t : TreeM L wz t
  s : Strs ao L wz
  p : Nums bo P wz
theorem Mr.next {w0 wz wa : World} {L : List (List UInt8)} {t : Nat} {ao bo : Option Addr} {P : List Nat} (h : Mr w0 L t ao bo P wz) (hb : Below wz.heap.size wz wa) : Mr w0 L t ao bo P wa := ⟨h.k.next hb, h.t.below hb, h.s.below (Nat.le_refl _) hb, nums_next h.p hb⟩
set_option maxRecDepth 100000 in
set_option maxHeartbeats 2000000 in
theorem multiRoots_any (ao : Option Addr) (cap : Nat) (S : List (List UInt8)) (x : Nat) (hx : x < 18446744073709551616) (w : World) (hg : Glob w) (hs : Strs ao S w) (hS : S.length ≤ maxLen) (hl : ∀ i (h : i < S.length), S[i].length ≤ maxLen) :
    Calls Tryd.prog 3 #[.slice ao S.length cap, .int .u64 (x : Int)] w fun e w' => e = .returned (.bool true) ∧ Below w.heap.size w w' := by
  have HF := Lib.hid (fun wz h => few10_any ao cap S wz hS hl h)
  have HS0 := Lib.hid hs
  have hlen := (cutBy_len S 40 40).1
  have hsh := cutBy_short S 40 40
  generalize cutBy S 40 40 = L at *
  have hL6 : L.length ≤ 65536 := by omega
  have hl7 : ∀ i (h : i < L.length), L[i].length ≤ 10000000 := fun i h => Nat.le_trans (hsh i h) (by decide)
  have HW := Lib.hid (fun wz (h : Wl w wz) => works10_any wz h.g)
  have HB := Lib.hid (fun ao cp wz (h : Wl w wz) (hp : Strs ao L wz) => build_any ao cp L wz h.g hp hL6 hl7)
  have HR := Lib.hid (fun wz => rising_any L.length (by omega) x hx wz)
  have hst := riseTo_stands (x := x) (k := L.length)
  have hpl := riseTo_len x L.length
  have K := Lib.hid (show Wl w w from ⟨hg, Below.refl _ _⟩)
  generalize riseTo x L.length = P at *
  have hPi : (P.length : Int) ≤ 40 := by omega
  have HD := Lib.hid (fun t ao bo wz (h : Mr w L t ao bo P wz) => depthT_any L t wz h.t)
  have HT := Lib.hid (fun t ao bo wz (h : Mr w L t ao bo P wz) => rootT_any L t wz h.t)
  have HPB := Lib.hid (fun t ao bo cp wz (h : Mr w L t ao bo P wz) (hf : standsP P L.length = false) => prove_bad L t bo cp P wz h.t h.p (by omega) hf)
  have HSB := Lib.hid (fun t ao bo cp wz (h : Mr w L t ao bo P wz) (hf : standsP P L.length = false) => size_bad (L.length : Int) (by omega) bo cp P wz h.p (by omega) (.inr (.inr (by rw [Int.toNat_natCast]; exact hf))))
  have HPG := Lib.hid (fun t ao bo cp wz (h : Mr w L t ao bo P wz) (hf : standsP P L.length = true) => prove_good L t bo cp P wz h.t h.p (by omega) hf)
  have HSG := Lib.hid (fun t ao bo cp wz (h : Mr w L t ao bo P wz) (hf : standsP P L.length = true) => size_good L.length (by omega) bo cp P wz h.p (by omega) hf)
  have HRT := Lib.hid (fun t ao bo po ca cb cp wz (h : Mr w L t ao bo P wz) (hp : Strs po (proofD L P) wz) hc (hf : standsP P L.length = true) => root_any L P bo ao po ca cb cp wz h.k.g h.p h.s hp hc hf (by omega) hl7)
  have HSZ := Lib.hid (fun (hf : standsP P L.length = true) => sizeD_le hf hL6)
  have HSE := Lib.hid (sizeD_eq L P)
  have hd6 := dep_40 hlen
  have hl0 : (L.length : Int) ≤ 40 := by omega
  clear hg hs hS hl hsh hL6 hl7 hx
  generalize rootD L = Z at *
  generalize dep L.length = D at *
  generalize proofD L P = R at *
  generalize sizeD P L.length = sz at *
  go_enter Tryd.func3, Tryd.ntmps3
  go_upto_region 3 with (go_at_call 6; refine (HW.out _ K.out).mono ?_; rintro e w1 ⟨rfl, hb1⟩; have K := Lib.hid (K.out.next hb1); clear hb1)
  have HF1 := Lib.hid (HF.out _ (HS0.out.below (Nat.le_refl _) K.out.o))
  clear HF HS0
  go_upto_region 4 with (go_at_call 7; refine HF1.out.mono ?_; rintro e w2 ⟨a1, c1, rfl, hp, hb1⟩)
  have K := Lib.hid (K.out.next hb1)
  have P1 := Lib.hid hp.strs
  clear hp hb1 HF1
  go_upto_region 5 with (go_at_call 8; refine (HB.out _ _ _ K.out P1.out).mono ?_; rintro e w3 ⟨t, rfl, hT, _, hb2⟩; have K := Lib.hid (K.out.next hb2); have P1 := Lib.hid (P1.out.below (Nat.le_refl _) hb2); have T1 := Lib.hid hT; clear hT hb2)
  clear HB HW
  go_upto_region 8 with (go_at_call 9; refine (HR.out _).mono ?_; rintro e w4 ⟨v, rfl, ho, hb2⟩; obtain ⟨bo, cq, rfl, hn, _⟩ := nums_of_row ho; have X := Lib.hid (show Mr w L t a1 bo P w4 from ⟨K.out.next hb2, T1.out.below hb2, P1.out.below (Nat.le_refl _) hb2, hn⟩); clear ho hn hb2)
  clear K P1 T1 HR
  by_cases hP : P = []
  · have hf : standsP P L.length = false := by rw [hst, decide_eq_false (fun h => h hP)]
    have hz : ((P.length : Int) == 0) = true := by rw [hP]; rfl
    clear hP hst
    go_wp2_with (first
      | (go_at_call 10; refine (HPB.out _ _ _ _ _ X.out hf).mono ?_; rintro e w5 ⟨rfl, hb5⟩; have X := Lib.hid (X.out.next hb5); clear hb5)
      | (go_at_call 11; refine (HSB.out _ _ _ _ _ X.out hf).mono ?_; rintro e w6 ⟨rfl, hb6⟩; have X := Lib.hid (X.out.next hb6); clear hb6))
    go_ret
    exact ⟨rfl, X.out.k.o⟩
  · have hf : standsP P L.length = true := by rw [hst, decide_eq_true hP]
    have hp0 := List.length_pos_iff.2 hP
    have hz : ((P.length : Int) == 0) = false := by rw [beq_eq_false_iff_ne]; omega
    have hsz := HSZ.out hf
    obtain ⟨m, hm⟩ : ∃ m, m = P.length * D := ⟨_, rfl⟩
    have hm40 : m ≤ 40 * 6 := by rw [hm]; exact Nat.mul_le_mul (by omega) hd6
    have hmi : (D : Int) * (P.length : Int) = (m : Int) := by rw [hm, Nat.mul_comm]; simp
    have hgt : ¬ (sz : Int) > (m : Int) := by omega
    have hRl := HSE.out
    have hne : ((R.length : Int) != (sz : Int)) = false := by rw [hRl]; simp
    clear hP hst hp0 hsz hm hRl
    go_wp2_with (first
      | (go_at_call 10; refine (HPG.out _ _ _ _ _ X.out hf).mono ?_; rintro e w5 ⟨v, rfl, ho, hb5⟩; obtain ⟨po, cr, rfl, hr, hc⟩ := strs_cap_of_row ho; have X := Lib.hid (X.out.next hb5); have PR := Lib.hid hr; have HC := Lib.hid hc; clear hb5 ho hr hc)
      | (go_at_call 11; refine (HSG.out _ _ _ _ _ X.out hf).mono ?_; rintro e w6 ⟨rfl, hb6⟩; have X := Lib.hid (X.out.next hb6); have PR := Lib.hid (PR.out.below (Nat.le_refl _) hb6); clear hb6)
      | (go_at_call 12; refine (HD.out _ _ _ _ X.out).mono ?_; rintro e w7 ⟨rfl, rfl⟩)
      | (go_at_call 13; refine (HRT.out _ _ _ _ _ _ _ _ X.out PR.out HC.out hf).mono ?_; rintro e w8 ⟨rfl, hb8⟩; have X := Lib.hid (X.out.next hb8); clear hb8)
      | (go_at_call 14; refine (HT.out _ _ _ _ X.out).mono ?_; rintro e w9 ⟨rfl, rfl⟩))
    go_ret
    exact ⟨rfl, X.out.k.o⟩
end Go.Proofs.YtfghggfoncfhgaaDoor
/- Two sets of positions, and both together: plain facts. -/
namespace Go.Proofs.YtfghggfoncfhgaaDoor
open Go.RowKit Go.Sort

theorem rise_or {a b n i : Nat} : i ∈ riseTo (a ||| b) n ↔ i ∈ riseTo a n ∨ i ∈ riseTo b n := by
  rw [riseTo_mem, riseTo_mem, riseTo_mem]
  have e : ∀ x : Nat, (x / 2 ^ i % 2 = 1) ↔ x.testBit i = true := fun x => by rw [Nat.testBit_eq_decide_div_mod_eq]; simp
  rw [e, e, e, Nat.testBit_or, Bool.or_eq_true]
  constructor
  · rintro ⟨h, h1 | h1⟩
    · exact .inl ⟨h, h1⟩
    · exact .inr ⟨h, h1⟩
  · rintro (⟨h, h1⟩ | ⟨h, h1⟩)
    · exact ⟨h, .inl h1⟩
    · exact ⟨h, .inr h1⟩
theorem lvs_lt {P : List Nat} {n : Nat} (hn : n ≤ 65536) (h : ∀ x ∈ P, x < n) : ∀ z ∈ lvs P (dep n), z < 2 ^ dep n := by
  intro z hz
  obtain ⟨y, hy, rfl⟩ := List.mem_map.1 hz
  exact turnB_lt (dep_le n hn) (Nat.lt_of_lt_of_le (h y hy) (dep_spec n hn).1)
/-- the needed ones of a level, of all lists of leaves that fit -/
theorem needM_of {L : List Nat} {d i : Nat} (h : ∀ x ∈ L, x < 2 ^ d) (hi : i < d) : ∃ N, (needM L d)[i]? = some N ∧ Need (upTo L i) N := by
  have hl : i < (needM L d).length := by rw [needM_len]; exact hi
  exact ⟨_, List.getElem?_eq_getElem hl, (needs_M h).2 i _ (List.getElem?_eq_getElem hl)⟩
theorem need_one {z : Nat} {N : List Nat} (h : Need [z] N) : N = [sib z] := by
  refine rising_eq h.1 (by simp) fun y => ?_
  rw [h.2, List.mem_singleton, List.mem_singleton, List.mem_singleton]
  constructor
  · rintro ⟨h1, _⟩; rw [← h1, sib_sib]
  · rintro rfl; exact ⟨sib_sib z, sib_ne z⟩
theorem pre_one {M : List (List Nat)} (h : ∀ N ∈ M, N.length = 1) : ∀ i, i ≤ M.length → pre M i = i
  | 0, _ => by simp [pre]
  | i + 1, hi => by
    rw [pre_succ (by omega), pre_one h i (by omega), h _ (List.getElem_mem _)]
theorem size_one {p n : Nat} (hn : n ≤ 65536) (hp : p < n) : sizeD [p] n = dep n := by
  refine pre_one (fun N hN => ?_) _ (by rw [needM_len]; exact Nat.le_refl _)
  obtain ⟨i, hi⟩ := List.getElem?_of_mem hN
  have hl : i < dep n := by have := (List.getElem?_eq_some_iff.1 hi).1; rwa [needM_len] at this
  obtain ⟨N', h1, h2⟩ := needM_of (lvs_lt (P := [p]) hn (by simpa using hp)) hl
  rw [hi] at h1
  cases h1
  rw [need_one h2]
  rfl
/-- both together need no more places than each does -/
theorem need_both {K1 K2 K3 N1 N2 N3 : List Nat} (h : ∀ x, x ∈ K3 ↔ x ∈ K1 ∨ x ∈ K2) (h1 : Need K1 N1) (h2 : Need K2 N2) (h3 : Need K3 N3) : ∀ y ∈ N3, y ∈ N1 ∨ y ∈ N2 := by
  intro y hy
  obtain ⟨a, b⟩ := (h3.2 y).1 hy
  rw [h] at b
  rcases (h _).1 a with a | a
  · exact .inl ((h1.2 y).2 ⟨a, fun c => b (.inl c)⟩)
  · exact .inr ((h2.2 y).2 ⟨a, fun c => b (.inr c)⟩)
theorem up_both {P Q B : List Nat} {d i : Nat} (h : ∀ x, x ∈ B ↔ x ∈ P ∨ x ∈ Q) : ∀ x, x ∈ upTo (lvs B d) i ↔ x ∈ upTo (lvs P d) i ∨ x ∈ upTo (lvs Q d) i := by
  intro x
  simp only [mem_upTo, lvs, List.mem_map]
  constructor
  · rintro ⟨_, ⟨y, hy, rfl⟩, rfl⟩
    rcases (h y).1 hy with g | g
    · exact .inl ⟨_, ⟨y, g, rfl⟩, rfl⟩
    · exact .inr ⟨_, ⟨y, g, rfl⟩, rfl⟩
  · rintro (⟨_, ⟨y, hy, rfl⟩, rfl⟩ | ⟨_, ⟨y, hy, rfl⟩, rfl⟩)
    · exact ⟨_, ⟨y, (h y).2 (.inl hy), rfl⟩, rfl⟩
    · exact ⟨_, ⟨y, (h y).2 (.inr hy), rfl⟩, rfl⟩
theorem pre_add {M1 M2 M3 : List (List Nat)} {d : Nat} (l1 : M1.length = d) (l2 : M2.length = d) (l3 : M3.length = d) (h : ∀ i (h1 : i < M1.length) (h2 : i < M2.length) (h3 : i < M3.length), (M3[i]).length ≤ (M1[i]).length + (M2[i]).length) : ∀ i, i ≤ d → pre M3 i ≤ pre M1 i + pre M2 i
  | 0, _ => by simp [pre]
  | i + 1, hi => by
    have := pre_add l1 l2 l3 h i (by omega)
    have := h i (by omega) (by omega) (by omega)
    rw [pre_succ (by omega), pre_succ (by omega), pre_succ (by omega)]
    omega
theorem size_both {P Q B : List Nat} {n : Nat} (hn : n ≤ 65536) (h : ∀ x, x ∈ B ↔ x ∈ P ∨ x ∈ Q) (hP : ∀ x ∈ P, x < n) (hQ : ∀ x ∈ Q, x < n) (hB : ∀ x ∈ B, x < n) : sizeD B n ≤ sizeD P n + sizeD Q n := by
  refine pre_add (needM_len _ _) (needM_len _ _) (needM_len _ _) (fun i h1 h2 h3 => ?_) _ (Nat.le_refl _)
  have hi : i < dep n := by rwa [needM_len] at h1
  have n1 := (needs_M (lvs_lt hn hP)).2 i _ (List.getElem?_eq_getElem h1)
  have n2 := (needs_M (lvs_lt hn hQ)).2 i _ (List.getElem?_eq_getElem h2)
  have n3 := (needs_M (lvs_lt hn hB)).2 i _ (List.getElem?_eq_getElem h3)
  have hs := need_both (up_both h) n1 n2 n3
  have := nodup_le (A := (needM (lvs B (dep n)) (dep n))[i]) (B := (needM (lvs P (dep n)) (dep n))[i] ++ (needM (lvs Q (dep n)) (dep n))[i]) (n3.1.imp fun h => Nat.ne_of_lt h) (fun x hx => List.mem_append.2 (hs x hx))
  rwa [List.length_append] at this
theorem flat_has {M : List (List Nat)} {i k : Nat} {N : List Nat} (h1 : M[i]? = some N) (h2 : k ∈ N) : (i, k) ∈ flat M := by
  obtain ⟨j, hj, rfl⟩ := List.getElem_of_mem h2
  obtain ⟨hi, rfl⟩ := List.getElem?_eq_some_iff.1 h1
  have := flat_get M 0 i j hi hj
  rw [Nat.zero_add] at this
  exact List.mem_of_getElem? this
theorem proof_both {L : List (List UInt8)} {P Q B : List Nat} (hn : L.length ≤ 65536) (h : ∀ x, x ∈ B ↔ x ∈ P ∨ x ∈ Q) (hP : ∀ x ∈ P, x < L.length) (hQ : ∀ x ∈ Q, x < L.length) (hB : ∀ x ∈ B, x < L.length) (z : (List UInt8)) (hz : z ∈ proofD L B) : z ∈ proofD L P ∨ z ∈ proofD L Q := by
  obtain ⟨p, hp, rfl⟩ := List.mem_map.1 hz
  obtain ⟨i, N3, e1, e2, e3⟩ := flat_mem _ 0 p hp
  have hi : i < dep L.length := by have := (List.getElem?_eq_some_iff.1 e2).1; rwa [needM_len] at this
  obtain ⟨N1, f1, f2⟩ := needM_of (lvs_lt hn hP) hi
  obtain ⟨N2, g1, g2⟩ := needM_of (lvs_lt hn hQ) hi
  have n3 := (needs_M (lvs_lt hn hB)).2 i N3 e2
  have e1' : p.1 = i := by omega
  rcases need_both (up_both h) f2 g2 n3 p.2 e3 with c | c
  · refine .inl (List.mem_map.2 ⟨(i, p.2), flat_has f1 c, ?_⟩)
    rw [e1']
  · refine .inr (List.mem_map.2 ⟨(i, p.2), flat_has g1 c, ?_⟩)
    rw [e1']
theorem FewP.set {L : List (List UInt8)} {lo g cp : Nat} {w : World} (h : FewP L lo (some ⟨g, 0, none⟩) cp w) (k : Nat) (hk : k < L.length) (Y : (List UInt8)) : FewP (L.set k Y) lo (some ⟨g, 0, none⟩) cp (w.setCell ⟨g, k, none⟩ (.string ⟨Y.toArray⟩)) := by
  rcases h with ⟨rfl, _⟩ | ⟨h0, g', cs, e, h1, h2, h3, h4⟩
  · simp at hk
  · cases e
    refine .inr ⟨fun e => h0 (by simpa using congrArg List.length e), g, _, rfl, h1, lit_set _ h2, by simpa using h3, fun i hi => ?_⟩
    rw [List.length_set] at hi
    have h5 := h4 i hi
    rw [Array.getElem?_setIfInBounds]
    by_cases c : k = i
    · subst c
      have hsz := (Array.getElem?_eq_some_iff.1 h5).1
      rw [if_pos rfl, if_pos hsz]
      simp
    · rw [if_neg c, h5, List.getElem_set_ne c]
end Go.Proofs.YtfghggfoncfhgaaDoor
