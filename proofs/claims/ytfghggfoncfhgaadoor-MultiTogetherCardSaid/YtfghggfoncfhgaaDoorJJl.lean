/- The law's MultiTogether. -/
import Derived.Test.YtfghggfoncfhgaaDoorJ25
import Derived.Deep.RegionLaw
namespace Go.Proofs.YtfghggfoncfhgaaDoor
open Go.RowKit Go.Sort

theorem nums_cap_of_row {L : List Nat} {lo : Nat} {v : Value} {w : World} (ho : w.ownsRow lo 23 1 v L.length (L.map encU)) : ∃ ao cp, v = .slice ao L.length cp ∧ Nums ao L w ∧ L.length ≤ cp := by
  obtain ⟨ao, cp, rfl, h, _⟩ := nums_of_row ho
  refine ⟨ao, cp, rfl, h, ?_⟩
  obtain ⟨_, ⟨h2, h3⟩ | ⟨g, c, cur, e, _, _, h5, _⟩⟩ := ho
  · omega
  · cases e; exact h5
theorem Nums.take {ao : Option Addr} {L : List Nat} {w : World} (h : Nums ao L w) (k : Nat) : Nums ao (L.take k) w := by
  rcases h with rfl | ⟨b, off, h1, h2, h3⟩
  · exact .inl (by simp)
  · refine .inr ⟨b, off, h1, h2, fun i hi => ?_⟩
    rw [List.length_take] at hi
    rw [List.getElem_take]
    exact h3 i (by omega)
set_option maxRecDepth 100000 in
set_option maxHeartbeats 2000000 in
theorem multiTogether_any (ao : Option Addr) (cap : Nat) (S : List (List UInt8)) (a b : Nat) (ha : a < 18446744073709551616) (hb : b < 18446744073709551616) (w : World) (hg : Glob w) (hs : Strs ao S w) (hS : S.length ≤ maxLen) (hl : ∀ i (h : i < S.length), S[i].length ≤ maxLen) :
    Calls Tryd.prog 4 #[.slice ao S.length cap, .int .u64 (a : Int), .int .u64 (b : Int)] w fun e w' => e = .returned (.bool true) ∧ Below w.heap.size w w' := by
  have HF := Lib.hid (fun wz h => few10_any ao cap S wz hS hl h)
  have HS0 := Lib.hid hs
  have hlen := (cutBy_len S 40 40).1
  have hsh := cutBy_short S 40 40
  generalize cutBy S 40 40 = L0 at *
  obtain ⟨n, hn⟩ : ∃ n, n = L0.length := ⟨_, rfl⟩
  rw [← hn] at HF hlen
  have HW := Lib.hid (fun wz (h : Wl w wz) => works10_any wz h.g)
  have K := Lib.hid (show Wl w w from ⟨hg, Below.refl _ _⟩)
  have hn40 : (n : Int) ≤ 40 := by omega
  have HL0 := Lib.hid (And.intro hn hsh)
  have HG := Lib.hid hg
  clear hg hs hS hl hsh hn
  go_enter Tryd.func4, Tryd.ntmps4
  go_upto_region 3 with (go_at_call 6; refine (HW.out _ K.out).mono ?_; rintro e w1 ⟨rfl, hb1⟩; have K := Lib.hid (K.out.next hb1); clear hb1)
  have KW := Lib.hid K.out.o.size
  have HF1 := Lib.hid (HF.out _ (HS0.out.below (Nat.le_refl _) K.out.o))
  clear HF HS0
  go_upto_region 4 with (go_at_call 7; refine HF1.out.mono ?_; rintro e w2 ⟨a1, c1, rfl, hp, hb1⟩)
  have KB := Lib.hid hb1.size
  have K := Lib.hid (K.out.next hb1)
  have P1 := Lib.hid (show ∃ L : List (List UInt8), L.length = n ∧ (∀ i (h : i < L.length), L[i].length ≤ 41) ∧ (∀ i (h : i < L.length), 0 ≤ i → L[i].length ≤ 40) ∧ FewP L w1.heap.size a1 c1 w2 from ⟨L0, HL0.out.1.symm, fun i h => by have := HL0.out.2 i h; omega, fun i h _ => HL0.out.2 i h, hp⟩)
  clear hp hb1 HF1 HL0
  go_wp2
  go_loopw [7] (fun vi wr => ∃ k : Nat, k ≤ n ∧ vi = .int .i64 (k : Int) ∧ Hid (Wl w wr) ∧ Hid (∃ L : List (List UInt8), L.length = n ∧ (∀ i (h : i < L.length), L[i].length ≤ 41) ∧ (∀ i (h : i < L.length), k ≤ i → L[i].length ≤ 40) ∧ FewP L w1.heap.size a1 c1 wr)) (fun vi _ => n - (intOf vi).toNat)
  case atStart => exact ⟨0, Nat.zero_le _, rfl, K, P1⟩
  case round =>
    obtain ⟨k, hk, rfl, HK, HP⟩ := hrel
    by_cases hlt : k < n
    · have k0 : (0 : Int) ≤ (k : Int) := by omega
      have k1 : (k : Int) < (n : Int) := by omega
      obtain ⟨L, e1, e2, e3, e4⟩ := HP.out
      have hkL : k < L.length := by omega
      have e5 := e4
      rcases e5 with ⟨rfl, _⟩ | ⟨h0, g, cs, rfl, h1, h2, h3, h4⟩
      · simp at hkL
      have hcell : wr.cell? ⟨g, k, none⟩ = some (.string ⟨(L[k]).toArray⟩) := (lit_cell h2 k).trans (h4 k hkL)
      have hfree := lit_free h2 k
      have h2' : (wr.alloc (.cells #[.int .u8 (k : Int)] 5)).drew.heap[g]? = some (.cells cs 9 (0, 0)) := lit_old _ h2
      have hf2 := lit_free h2' k
      have hc2 : (wr.alloc (.cells #[.int .u8 (k : Int)] 5)).drew.cell? ⟨g, k, none⟩ = some (.string ⟨(L[k]).toArray⟩) := (lit_cell h2' k).trans (h4 k hkL)
      have hX := e3 k hkL (Nat.le_refl _)
      obtain ⟨X, hXe⟩ : ∃ X, X = L[k] := ⟨_, rfl⟩
      rw [← hXe] at hcell hX hc2
      have hkb : (k : Int) % (256 : Int) = ((UInt8.ofNat k).toNat : Int) := byte_mod k
      have hkw : (k : Int) % (256 : Int) = (k : Int) := by omega
      have hconv := run_convert_bytes_back (P := Tryd.prog) (wr.alloc (.cells #[.int .u8 (k : Int)] 5)) 40 9 5 ⟨wr.heap.size, 0, none⟩ 1 [UInt8.ofNat k] Tryd.underlying40 Tryd.underlying5 Tryd.underlying9 (oneByte wr _ _ (by rw [← hkb, hkw]))
      simp only [List.length_cons, List.length_nil, Nat.zero_add] at hconv
      have hconv2 : (convert 40 9 (.slice (some ⟨wr.heap.size, 0, none⟩) 1 1)).run Tryd.prog (wr.alloc (.cells #[.int .u8 (k : Int)] 5)).drew = .ok (.string ⟨#[UInt8.ofNat k]⟩) (wr.alloc (.cells #[.int .u8 (k : Int)] 5)).drew := by
        have h := run_convert_bytes_back (P := Tryd.prog) (wr.alloc (.cells #[.int .u8 (k : Int)] 5)).drew 40 9 5 ⟨wr.heap.size, 0, none⟩ 1 [UInt8.ofNat k] Tryd.underlying40 Tryd.underlying5 Tryd.underlying9 (oneByte wr _ _ (by rw [← hkb, hkw]))
        simpa using h
      have hcat := run_cat [UInt8.ofNat k] X (by simp; omega)
      have HP2 := Lib.hid (show ∃ L : List (List UInt8), L.length = n ∧ (∀ i (h : i < L.length), L[i].length ≤ 41) ∧ (∀ i (h : i < L.length), k + 1 ≤ i → L[i].length ≤ 40) ∧ FewP L w1.heap.size (some ⟨g, 0, none⟩) c1 ((wr.alloc (.cells #[.int .u8 (k : Int)] 5)).setCell ⟨g, k, none⟩ (.string ⟨(UInt8.ofNat k :: X).toArray⟩)).drew from
        ⟨L.set k (UInt8.ofNat k :: X), by rw [List.length_set, e1], fun i h => by
          rw [List.getElem_set]
          split
          · simp; omega
          · exact e2 i (by simpa using h), fun i h hi => by
          rw [List.getElem_set_ne (by omega)]
          exact e3 i (by simpa using h) (by omega), (e4.below (by0 wr (.cells #[.int .u8 (k : Int)] 5))).set k hkL _⟩)
      have HK2 := Lib.hid (show Wl w ((wr.alloc (.cells #[.int .u8 (k : Int)] 5)).setCell ⟨g, k, none⟩ (.string ⟨(UInt8.ofNat k :: X).toArray⟩)).drew from by
        have ho : Below w.heap.size w ((wr.alloc (.cells #[.int .u8 (k : Int)] 5)).setCell ⟨g, k, none⟩ (.string ⟨(UInt8.ofNat k :: X).toArray⟩)).drew := ((below_alloc HK.out.o _).setCell (show w.heap.size ≤ g from Nat.le_trans KW.out h1) _).drew
        exact ⟨HG.out.below HG.out.size ho, ho⟩)
      clear hXe h4 h3 h2 h2' h1 h0 e4 e3 e2 hconv
      go_wp2
      go_region
      go_wp2
      go_roundw
      case rel => exact ⟨k + 1, by omega, by go_num, HK2, HP2⟩
      case measure => simp [intOf] <;> omega
    · have k1 : ¬ (k : Int) < (n : Int) := by omega
      obtain ⟨L, e1, e2, _, e4⟩ := HP.out
      subst e1
      have hS := e4.strs
      have hl7 : ∀ i (h : i < L.length), L[i].length ≤ 10000000 := fun i h => Nat.le_trans (e2 i h) (by decide)
      have HB := Lib.hid (build_any a1 c1 L wr HK.out.g hS (by omega) hl7)
      have HRa := Lib.hid (fun wz => rising_any L.length (by omega) a ha wz)
      have HRb := Lib.hid (fun wz => rising_any L.length (by omega) b hb wz)
      have hor : bits .or .u64 (a : Int) (b : Int) = ((a ||| b : Nat) : Int) := u64_or_nat a b ha hb
      have HRo := Lib.hid (fun wz => rising_any L.length (by omega) (a ||| b) (Nat.or_lt_two_pow (n := 64) ha hb) wz)
      rw [← hor] at HRo
      have hsP := riseTo_stands (x := a) (k := L.length)
      have hsQ := riseTo_stands (x := b) (k := L.length)
      have hsB := riseTo_stands (x := a ||| b) (k := L.length)
      have hlP := riseTo_len a L.length
      have hlQ := riseTo_len b L.length
      have hlB := riseTo_len (a ||| b) L.length
      have hmem : ∀ i, i ∈ riseTo (a ||| b) L.length ↔ i ∈ riseTo a L.length ∨ i ∈ riseTo b L.length := fun i => rise_or
      have htP : ∀ i ∈ riseTo a L.length, i < L.length := fun i h => riseTo_lt h
      have htQ : ∀ i ∈ riseTo b L.length, i < L.length := fun i h => riseTo_lt h
      have htB : ∀ i ∈ riseTo (a ||| b) L.length, i < L.length := fun i h => riseTo_lt h
      generalize riseTo (a ||| b) L.length = B at *
      generalize riseTo a L.length = P at *
      generalize riseTo b L.length = Q at *
      have HPF := Lib.hid (fun z hz => proof_both (L := L) (by omega) hmem htP htQ htB z hz)
      have HSS := Lib.hid (size_both (n := L.length) (by omega) hmem htP htQ htB)
      have HPG := Lib.hid (fun t (V : List Nat) bo cp wz (hT : TreeM L wz t) (hN : Nums bo V wz) hv (hf : standsP V L.length = true) => prove_good L t bo cp V wz hT hN hv hf)
      have HD := Lib.hid (fun t wz (hT : TreeM L wz t) => depthT_any L t wz hT)
      have hd6 := dep_40 hlen
      have HX0 := Lib.hid HK.out
      clear e2 e4 hS hl7 ha hb HP HK P1 hor
      go_upto_region 9 with (go_at_call 8; refine HB.out.mono ?_; rintro e w3 ⟨t, rfl, hT, _, hb2⟩; have K := Lib.hid (HX0.out.next hb2); have T1 := Lib.hid hT; clear hT hb2)
      clear HB HX0
      go_upto_region 12 with (first
        | (go_at_call 9; with_reducible refine (HRa.out _).mono ?_; rintro e w4 ⟨v, rfl, ho, hb2⟩; obtain ⟨bP, cP, rfl, hn, hc⟩ := nums_cap_of_row ho; have K := Lib.hid (K.out.next hb2); have T1 := Lib.hid (T1.out.below hb2); have NP := Lib.hid hn; have HCP := Lib.hid hc; clear ho hn hb2 hc)
        | (go_at_call 9; with_reducible refine (HRb.out _).mono ?_; rintro e w5 ⟨v, rfl, ho, hb2⟩; obtain ⟨bQ, cQ, rfl, hn, _⟩ := nums_cap_of_row ho; have K := Lib.hid (K.out.next hb2); have T1 := Lib.hid (T1.out.below hb2); have NP := Lib.hid (nums_next NP.out hb2); have NQ := Lib.hid hn; clear ho hn hb2)
        | (go_at_call 9; with_reducible refine (HRo.out _).mono ?_; rintro e w6 ⟨v, rfl, ho, hb2⟩; obtain ⟨bB, cB, rfl, hn, _⟩ := nums_cap_of_row ho; have K := Lib.hid (K.out.next hb2); have T1 := Lib.hid (T1.out.below hb2); have NP := Lib.hid (nums_next NP.out hb2); have NQ := Lib.hid (nums_next NQ.out hb2); have NB := Lib.hid hn; clear ho hn hb2))
      by_cases hP : P = []
      · have hz : ((P.length : Int) == 0) = true := by rw [hP]; rfl
        clear hP
        go_wp2
        go_ret
        exact ⟨rfl, K.out.o⟩
      have hz : ((P.length : Int) == 0) = false := by rw [beq_eq_false_iff_ne]; have := List.length_pos_iff.2 hP; omega
      by_cases hQ : Q = []
      · have hz2 : ((Q.length : Int) == 0) = true := by rw [hQ]; rfl
        clear hQ hP
        go_wp2
        go_ret
        exact ⟨rfl, K.out.o⟩
      have hz2 : ((Q.length : Int) == 0) = false := by rw [beq_eq_false_iff_ne]; have := List.length_pos_iff.2 hQ; omega
      obtain ⟨p, Pt, hPe⟩ := List.exists_cons_of_ne_nil hP
      have hB : B ≠ [] := fun e => by
        have := (hmem p).2 (.inl (by rw [hPe]; simp))
        rw [e] at this
        cases this
      rw [decide_eq_true hP] at hsP
      rw [decide_eq_true hQ] at hsQ
      rw [decide_eq_true hB] at hsB
      have hpn : p < L.length := htP p (by rw [hPe]; simp)
      have hs1 : standsP [p] L.length = true := by
        rw [standsP]
        exact decide_eq_true ⟨by simp, by simp, by simpa using hpn⟩
      have hP1 : 1 ≤ P.length := List.length_pos_iff.2 hP
      have ht1 : P.take 1 = [p] := by rw [hPe]; rfl
      have H1 := Lib.hid (show ∀ wz, TreeM L wz t → Nums bP P wz → Calls Tryd.prog 10 #[.pointer (some ⟨t, 0, none⟩), .slice bP 1 cP] wz fun e w' => ∃ po cp, e = .returned (.tuple #[.slice po (dep L.length) cp, .int .i64 0]) ∧ Below wz.heap.size wz w' from fun wz hT hN => (HPG.out t [p] bP cP wz hT (by rw [← ht1]; exact hN.take 1) (by simp) hs1).mono fun e w' ⟨v, h1, h2, h3⟩ => by
        obtain ⟨po, cp, rfl, _⟩ := strs_of_row h2
        exact ⟨po, cp, by rw [h1, sizeD_eq, size_one (by omega) hpn], h3⟩)
      have H2 := Lib.hid (show ∀ wz, TreeM L wz t → Nums bP P wz → Calls Tryd.prog 10 #[.pointer (some ⟨t, 0, none⟩), .slice bP P.length cP] wz fun e w' => ∃ po cp, e = .returned (.tuple #[.slice po (sizeD P L.length) cp, .int .i64 0]) ∧ Strs po (proofD L P) w' ∧ Below wz.heap.size wz w' from fun wz hT hN => (HPG.out t P bP cP wz hT hN (by omega) hsP).mono fun e w' ⟨v, h1, h2, h3⟩ => by
        obtain ⟨po, cp, rfl, h⟩ := strs_of_row h2
        exact ⟨po, cp, by rw [h1, sizeD_eq], h, h3⟩)
      have H3 := Lib.hid (show ∀ wz, TreeM L wz t → Nums bQ Q wz → Calls Tryd.prog 10 #[.pointer (some ⟨t, 0, none⟩), .slice bQ Q.length cQ] wz fun e w' => ∃ po cp, e = .returned (.tuple #[.slice po (sizeD Q L.length) cp, .int .i64 0]) ∧ Strs po (proofD L Q) w' ∧ Below wz.heap.size wz w' from fun wz hT hN => (HPG.out t Q bQ cQ wz hT hN (by omega) hsQ).mono fun e w' ⟨v, h1, h2, h3⟩ => by
        obtain ⟨po, cp, rfl, h⟩ := strs_of_row h2
        exact ⟨po, cp, by rw [h1, sizeD_eq], h, h3⟩)
      have H4 := Lib.hid (show ∀ wz, TreeM L wz t → Nums bB B wz → Calls Tryd.prog 10 #[.pointer (some ⟨t, 0, none⟩), .slice bB B.length cB] wz fun e w' => ∃ po cp, e = .returned (.tuple #[.slice po (sizeD B L.length) cp, .int .i64 0]) ∧ Strs po (proofD L B) w' ∧ Below wz.heap.size wz w' from fun wz hT hN => (HPG.out t B bB cB wz hT hN (by omega) hsB).mono fun e w' ⟨v, h1, h2, h3⟩ => by
        obtain ⟨po, cp, rfl, h⟩ := strs_of_row h2
        exact ⟨po, cp, by rw [h1, sizeD_eq], h, h3⟩)
      have hbP : sizeD P L.length ≤ 40 * 6 := Nat.le_trans (sizeD_le hsP (by omega)) (Nat.mul_le_mul (by omega) hd6)
      have hbQ : sizeD Q L.length ≤ 40 * 6 := Nat.le_trans (sizeD_le hsQ (by omega)) (Nat.mul_le_mul (by omega) hd6)
      have hss := HSS.out
      have HlP := Lib.hid (sizeD_eq L P)
      have HlQ := Lib.hid (sizeD_eq L Q)
      have HlB := Lib.hid (sizeD_eq L B)
      generalize proofD L P = RP at *
      generalize proofD L Q = RQ at *
      generalize proofD L B = RB at *
      generalize sizeD P L.length = sP at *
      generalize sizeD Q L.length = sQ at *
      generalize sizeD B L.length = sB at *
      have hgt : ¬ (sB : Int) > (sP : Int) + (sQ : Int) := by omega
      have bP1 : (sP : Int) ≤ 240 := by omega
      have bQ1 : (sQ : Int) ≤ 240 := by omega
      have bB1 : (sB : Int) ≤ 480 := by omega
      have hc1 : (1 : Int) ≤ (cP : Int) := by have := HCP.out; omega
      have hc2 : (1 : Int) ≤ (P.length : Int) := by omega
      generalize dep L.length = D at *
      clear hP hQ hB hPe hsP hsQ hsB hpn hs1 ht1 hmem htP htQ htB HPG HSS HCP hss hbP hbQ hP1 HRa HRb HRo
      go_upto_region 18 with (first
        | (go_at_call 10; with_reducible refine (H1.out _ T1.out NP.out).mono ?_; rintro e w7 ⟨p1, k1', rfl, hb2⟩; have K := Lib.hid (K.out.next hb2); have T1 := Lib.hid (T1.out.below hb2); have NP := Lib.hid (nums_next NP.out hb2); have NQ := Lib.hid (nums_next NQ.out hb2); have NB := Lib.hid (nums_next NB.out hb2); clear hb2)
        | (go_at_call 10; with_reducible refine (H2.out _ T1.out NP.out).mono ?_; rintro e w8 ⟨pX, cX, rfl, hR, hb2⟩; have K := Lib.hid (K.out.next hb2); have T1 := Lib.hid (T1.out.below hb2); have NQ := Lib.hid (nums_next NQ.out hb2); have NB := Lib.hid (nums_next NB.out hb2); have SX := Lib.hid hR; clear hb2 hR)
        | (go_at_call 10; with_reducible refine (H3.out _ T1.out NQ.out).mono ?_; rintro e w9 ⟨pY, cY, rfl, hR, hb2⟩; have K := Lib.hid (K.out.next hb2); have T1 := Lib.hid (T1.out.below hb2); have NB := Lib.hid (nums_next NB.out hb2); have SX := Lib.hid (SX.out.below (Nat.le_refl _) hb2); have SY := Lib.hid hR; clear hb2 hR)
        | (go_at_call 10; with_reducible refine (H4.out _ T1.out NB.out).mono ?_; rintro e w10 ⟨pZ, cZ, rfl, hR, hb2⟩; have K := Lib.hid (K.out.next hb2); have T1 := Lib.hid (T1.out.below hb2); have SX := Lib.hid (SX.out.below (Nat.le_refl _) hb2); have SY := Lib.hid (SY.out.below (Nat.le_refl _) hb2); have SZ := Lib.hid hR; clear hb2 hR))
      go_wp2_with (go_at_call 12; with_reducible refine (HD.out _ _ T1.out).mono ?_; rintro e w11 ⟨rfl, rfl⟩)
      have HX := Lib.hid (fun Z => has10_any pX cX RP Z _ (by rw [HlP.out]; omega) SX.out)
      have HY := Lib.hid (fun Z => has10_any pY cY RQ Z _ (by rw [HlQ.out]; omega) SY.out)
      rw [HlP.out] at HX
      rw [HlQ.out] at HY
      go_loopw [21] (fun vi wr => ∃ i : Nat, i ≤ sB ∧ vi = .int .i64 (i : Int) ∧ w10 = wr) (fun vi _ => sB - (intOf vi).toNat)
      case atStart => exact ⟨0, Nat.zero_le _, rfl, rfl⟩
      case round =>
        obtain ⟨i, hi, rfl, rfl⟩ := hrel
        by_cases hlt : i < sB
        · have i0 : (0 : Int) ≤ (i : Int) := by omega
          have i1 : (i : Int) < (sB : Int) := by omega
          have hiB : i < RB.length := by rw [HlB.out]; exact hlt
          obtain ⟨b1, o1, rfl, hc⟩ := SZ.out.cell i hiB
          have hor := HPF.out _ (List.getElem_mem hiB)
          generalize RB[i] = Z at *
          have HXZ := Lib.hid (HX.out Z)
          have HYZ := Lib.hid (HY.out Z)
          by_cases hx : Z ∈ RP
          · rw [decide_eq_true hx] at HXZ
            clear hor hx hiB
            go_wp2_with (go_at_call 15; with_reducible refine HXZ.out.mono ?_; rintro e w' ⟨rfl, hw'⟩; have hw' := hw'.symm; subst hw')
            go_roundw
            case rel => exact ⟨i + 1, hlt, by go_num, trivial⟩
            case measure => simp [intOf] <;> omega
          · rw [decide_eq_false hx] at HXZ
            rw [decide_eq_true (hor.resolve_left hx)] at HYZ
            clear hor hx hiB
            go_wp2_with (first
              | (go_at_call 15; with_reducible refine HXZ.out.mono ?_; rintro e w' ⟨rfl, hw'⟩; have hw' := hw'.symm; subst hw')
              | (go_at_call 15; with_reducible refine HYZ.out.mono ?_; rintro e w' ⟨rfl, hw'⟩; have hw' := hw'.symm; subst hw'))
            go_roundw
            case rel => exact ⟨i + 1, hlt, by go_num, trivial⟩
            case measure => simp [intOf] <;> omega
        · have i1 : ¬ (i : Int) < (sB : Int) := by omega
          go_wp2
          go_ret
          exact ⟨rfl, K.out.o⟩
end Go.Proofs.YtfghggfoncfhgaaDoor
