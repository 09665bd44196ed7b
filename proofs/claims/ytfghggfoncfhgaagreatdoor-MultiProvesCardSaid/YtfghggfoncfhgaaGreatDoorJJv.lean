/- The law's MultiSizes and MultiProves: the program and the document answer alike. -/
import Derived.Test.YtfghggfoncfhgaaGreatDoorJ26
import Derived.Test.YtfghggfoncfhgaaGreatDoorJ27
namespace Go.Proofs.YtfghggfoncfhgaaGreatDoor
open Go.RowKit Go.Sort

theorem nums_take {ao : Option Addr} {L : List Nat} {w : World} (h : Nums ao L w) (k : Nat) : Nums ao (L.take k) w := by
  rcases h with rfl | ⟨b, off, h1, h2, h3⟩
  · exact .inl (by simp)
  · refine .inr ⟨b, off, h1, h2, fun i hi => ?_⟩
    rw [List.length_take] at hi
    rw [List.getElem_take]
    exact h3 i (by omega)
/-- both answer alike: how many digests, and which error -/
theorem size_two (n : Int) (hn : -9223372036854775808 ≤ n ∧ n ≤ 9223372036854775807) (P : List Nat) (hP : P.length ≤ 49) : ∃ sz er : Nat,
    (∀ ao cap w, Nums ao P w → Calls Tryz.prog 12 #[.int .i64 n, .slice ao P.length cap] w fun e w' => e = .returned (.tuple #[.int .i64 (sz : Int), .int .i64 (er : Int)]) ∧ Below w.heap.size w w') ∧
    ∀ ao cap w, Nums ao P w → Calls Tryz.prog 13 #[.int .i64 n, .slice ao P.length cap] w fun e w' => e = .returned (.tuple #[.int .i64 (sz : Int), .int .i64 (er : Int)]) ∧ Below w.heap.size w w' := by
  by_cases h : n < 0 ∨ 65536 < n ∨ standsP P n.toNat = false
  · exact ⟨0, 2, fun ao cap w hN => size_bad n hn ao cap P w hN (by omega) h, fun ao cap w hN => rsize_bad n ao cap P w hN (by omega) h⟩
  · obtain ⟨k, rfl⟩ : ∃ k : Nat, n = (k : Int) := ⟨n.toNat, by omega⟩
    have hs : standsP P k = true := by
      cases hc : standsP P k with
      | true => rfl
      | false => exact absurd (.inr (.inr (by simpa using hc))) h
    exact ⟨sizeD P k, 0, fun ao cap w hN => size_good k (by omega) ao cap P w hN hP hs, fun ao cap w hN => rsize_good k (by omega) ao cap P w hN hP hs⟩
/-- both answer alike: the same digests, the same error -/
theorem prove_two (L : List (List UInt8)) (hL : L.length ≤ 65536) (hl : ∀ i (h : i < L.length), L[i].length ≤ 10000000) (P : List Nat) (hP : P.length ≤ 49) : ∃ (R : List (List UInt8)) (n er : Nat), R.length = n ∧ n ≤ 1000 ∧
    (∀ t ao cap w, TreeM L w t → Nums ao P w → Calls Tryz.prog 8 #[.pointer (some ⟨t, 0, none⟩), .slice ao P.length cap] w fun e w' => ∃ po cp, e = .returned (.tuple #[.slice po n cp, .int .i64 (er : Int)]) ∧ Strs po R w' ∧ Below w.heap.size w w') ∧
    ∀ a0 c0 ao cap w, Strs a0 L w → Nums ao P w → Calls Tryz.prog 9 #[.slice a0 L.length c0, .slice ao P.length cap] w fun e w' => ∃ po cp, e = .returned (.tuple #[.slice po n cp, .int .i64 (er : Int)]) ∧ Strs po R w' ∧ Below w.heap.size w w' := by
  cases h : standsP P L.length with
  | false =>
    exact ⟨[], 0, 2, rfl, by omega, fun t ao cap w hT hN => (prove_bad L t ao cap P w hT hN (by omega) h).mono fun e w' ⟨h1, h2⟩ => ⟨none, 0, h1, .inl rfl, h2⟩,
      fun a0 c0 ao cap w hA hN => (rprove_bad L a0 c0 ao cap P w hN (by omega) hL h).mono fun e w' ⟨h1, h2⟩ => ⟨none, 0, h1, .inl rfl, h2⟩⟩
  | true =>
    have hsz : (proofD L P).length ≤ 1000 := by
      have h1 : sizeD P L.length ≤ 49 * 16 := Nat.le_trans (sizeD_le h hL) (Nat.mul_le_mul hP (dep_le L.length hL))
      have h2 : (proofD L P).length = sizeD P L.length := proofD_len L P
      omega
    refine ⟨proofD L P, (proofD L P).length, 0, rfl, hsz, fun t ao cap w hT hN => (prove_good L t ao cap P w hT hN hP h).mono fun e w' ⟨v, h1, h2, h3⟩ => ?_,
      fun a0 c0 ao cap w hA hN => (rprove_good L a0 c0 ao cap P w hA hN hP hL hl h).mono fun e w' ⟨v, h1, h2, h3⟩ => ?_⟩
    · obtain ⟨po, cp, rfl, h4⟩ := strs_of_row h2
      exact ⟨po, cp, h1, h4, h3⟩
    · obtain ⟨po, cp, rfl, h4⟩ := strs_of_row h2
      exact ⟨po, cp, h1, h4, h3⟩
set_option maxRecDepth 100000 in
set_option maxHeartbeats 1000000 in
theorem multiSizes_any (n : Int) (hn : -9223372036854775808 ≤ n ∧ n ≤ 9223372036854775807) (ao : Option Addr) (cap : Nat) (S : List Nat) (w : World) (hg : Glob w) (hS : S.length ≤ maxLen) (hb : (∀ x ∈ S, x < 18446744073709551616) ∧ S.length ≤ cap) (hs : Nums ao S w) :
    Calls Tryz.prog 4 #[.int .i64 n, .slice ao S.length cap] w fun e w' => e = .returned (.bool true) ∧ Below w.heap.size w w' := by
  unfold maxLen at hS
  obtain ⟨m, hm⟩ : ∃ m, m = min S.length 20 := ⟨_, rfl⟩
  have hmi : min (S.length : Int) 20 = (m : Int) := by omega
  have hml : (S.take 20).length = m := by rw [List.length_take]; omega
  obtain ⟨sz, er, h1, h2⟩ := size_two n hn (S.take 20) (by omega)
  rw [hml] at h1 h2
  have H1 := Lib.hid (fun wz (h : Below w.heap.size w wz) => h1 ao cap wz (nums_next (nums_take hs 20) h))
  have H2 := Lib.hid (fun wz (h : Below w.heap.size w wz) => h2 ao cap wz (nums_next (nums_take hs 20) h))
  have HW := Lib.hid (fun wz (h : Wl w wz) => works10_any wz h.g)
  have K := Lib.hid (show Wl w w from ⟨hg, Below.refl _ _⟩)
  have m0 : (0 : Int) ≤ (m : Int) := by omega
  have m1 : (m : Int) ≤ (cap : Int) := by omega
  have m2 : (m : Int) ≤ (S.length : Int) := by omega
  clear h1 h2 hs hg hb hm hml
  go_enter Tryz.func4, Tryz.ntmps4
  go_wp2_with (first
    | (go_at_call 12; refine (H1.out _ K.out.o).mono ?_; rintro e wn ⟨rfl, bn⟩; have K := Lib.hid (K.out.next bn); clear bn)
    | (go_at_call 13; refine (H2.out _ K.out.o).mono ?_; rintro e wn ⟨rfl, bn⟩; have K := Lib.hid (K.out.next bn); clear bn)
    | (go_at_call 11; refine (HW.out _ K.out).mono ?_; rintro e wn ⟨rfl, bn⟩; have K := Lib.hid (K.out.next bn); clear bn))
  exact bodyPost_ret (v := .bool true) (by simp [results, Tryz.results4, go_sem]) rfl ⟨rfl, K.out.o⟩
set_option maxRecDepth 100000 in
set_option maxHeartbeats 2000000 in
theorem multiProves_any (ao : Option Addr) (cap : Nat) (S : List (List UInt8)) (x : Nat) (hx : x < 18446744073709551616) (bo : Option Addr) (cb : Nat) (V : List Nat) (w : World) (hg : Glob w) (hs : Strs ao S w) (hS : S.length ≤ maxLen) (hl : ∀ i (h : i < S.length), S[i].length ≤ maxLen)
    (hV : V.length ≤ maxLen) (hb : (∀ x ∈ V, x < 18446744073709551616) ∧ V.length ≤ cb) (hv : Nums bo V w) :
    Calls Tryz.prog 3 #[.slice ao S.length cap, .int .u64 (x : Int), .slice bo V.length cb] w fun e w' => e = .returned (.bool true) ∧ Below w.heap.size w w' := by
  unfold maxLen at hV
  have HF1 := Lib.hid (few10_any ao cap S w hS hl hs)
  have hlen := (cutBy_len S 40 40).1
  have hsh := cutBy_short S 40 40
  generalize cutBy S 40 40 = L at *
  have hL6 : L.length ≤ 65536 := by omega
  have hl7 : ∀ i (h : i < L.length), L[i].length ≤ 10000000 := fun i h => Nat.le_trans (hsh i h) (by decide)
  have HW := Lib.hid (fun wz (h : Wl w wz) => works10_any wz h.g)
  have HB := Lib.hid (fun ao cp wz (h : Wl w wz) (hp : Strs ao L wz) => build_any ao cp L wz h.g hp hL6 hl7)
  have HR := Lib.hid (fun wz => rising_any L.length (by omega) x hx wz)
  have hpl := riseTo_len x L.length
  have K := Lib.hid (show Wl w w from ⟨hg, Below.refl _ _⟩)
  generalize riseTo x L.length = P at *
  obtain ⟨R1, n1, e1, hR1, hb1, hp1, hr1⟩ := prove_two L hL6 hl7 P (by omega)
  obtain ⟨m, hm⟩ : ∃ m, m = min V.length 6 := ⟨_, rfl⟩
  have hmi : min (V.length : Int) 6 = (m : Int) := by omega
  have hml : (V.take 6).length = m := by rw [List.length_take]; omega
  obtain ⟨R2, n2, e2, hR2, hb2, hp2, hr2⟩ := prove_two L hL6 hl7 (V.take 6) (by omega)
  rw [hml] at hp2 hr2
  have H1 := Lib.hid hp1
  have G1 := Lib.hid hr1
  have H2 := Lib.hid hp2
  have G2 := Lib.hid hr2
  have A1 := Lib.hid (fun pa pb ca cb wz (h1 : Strs pa R1 wz) (h2 : Strs pb R1 wz) => alike_any pa pb ca cb n1 R1 wz hR1.symm (by omega) h1 h2)
  have A2 := Lib.hid (fun pa pb ca cb wz (h1 : Strs pa R2 wz) (h2 : Strs pb R2 wz) => alike_any pa pb ca cb n2 R2 wz hR2.symm (by omega) h1 h2)
  rw [hR1] at A1
  rw [hR2] at A2
  have HV := Lib.hid (fun wz (h : Below w.heap.size w wz) => nums_next (nums_take hv 6) h)
  have m0 : (0 : Int) ≤ (m : Int) := by omega
  have m1 : (m : Int) ≤ (cb : Int) := by omega
  have m2 : (m : Int) ≤ (V.length : Int) := by omega
  have hl0 : (L.length : Int) ≤ 40 := by omega
  clear hg hs hS hl hsh hL6 hl7 hx hm hml hv hb hp1 hr1 hp2 hr2 hR1 hR2 hpl hV
  go_enter Tryz.func3, Tryz.ntmps3
  go_upto_region 2 with (go_at_call 5; refine HF1.out.mono ?_; rintro e w2 ⟨a1, c1, rfl, hp, hb1⟩; have K := Lib.hid (K.out.next hb1); have P1 := Lib.hid hp.strs; clear hp hb1)
  clear HF1
  go_upto_region 3 with (go_at_call 6; refine (HB.out _ _ _ K.out P1.out).mono ?_; rintro e w3 ⟨t, rfl, hT, _, hb2⟩; have K := Lib.hid (K.out.next hb2); have P1 := Lib.hid (P1.out.below (Nat.le_refl _) hb2); have T1 := Lib.hid hT; clear hT hb2)
  clear HB
  go_upto_region 6 with (go_at_call 7; refine (HR.out _).mono ?_; rintro e w4 ⟨v, rfl, ho, hb2⟩; obtain ⟨bp, cq, rfl, hn, _⟩ := nums_of_row ho; have K := Lib.hid (K.out.next hb2); have T1 := Lib.hid (T1.out.below hb2); have P1 := Lib.hid (P1.out.below (Nat.le_refl _) hb2); have NP := Lib.hid hn; clear ho hn hb2)
  clear HR
  go_upto_region 11 with (first
    | (go_at_call 8; refine (H1.out _ _ _ _ T1.out NP.out).mono ?_; rintro e w5 ⟨pa, qa, rfl, hr, hb5⟩; have K := Lib.hid (K.out.next hb5); have T1 := Lib.hid (T1.out.below hb5); have P1 := Lib.hid (P1.out.below (Nat.le_refl _) hb5); have NP := Lib.hid (nums_next NP.out hb5); have SA := Lib.hid hr; clear hr hb5)
    | (go_at_call 9; refine (G1.out _ _ _ _ _ P1.out NP.out).mono ?_; rintro e w6 ⟨pb, qb, rfl, hr, hb5⟩; have K := Lib.hid (K.out.next hb5); have T1 := Lib.hid (T1.out.below hb5); have P1 := Lib.hid (P1.out.below (Nat.le_refl _) hb5); have SA := Lib.hid (SA.out.below (Nat.le_refl _) hb5); have SB := Lib.hid hr; clear hr hb5)
    | (go_at_call 10; refine (A1.out _ _ _ _ _ SA.out SB.out).mono ?_; rintro e w7 ⟨rfl, hb5⟩; have K := Lib.hid (K.out.next hb5); have T1 := Lib.hid (T1.out.below hb5); have P1 := Lib.hid (P1.out.below (Nat.le_refl _) hb5); clear hb5))
  clear SA SB H1 G1 A1 NP
  go_wp2_with (first
    | (go_at_call 8; refine (H2.out _ _ _ _ T1.out (HV.out _ K.out.o)).mono ?_; rintro e w5 ⟨pa, qa, rfl, hr, hb5⟩; have K := Lib.hid (K.out.next hb5); have T1 := Lib.hid (T1.out.below hb5); have P1 := Lib.hid (P1.out.below (Nat.le_refl _) hb5); have SA := Lib.hid hr; clear hr hb5)
    | (go_at_call 9; refine (G2.out _ _ _ _ _ P1.out (HV.out _ K.out.o)).mono ?_; rintro e w6 ⟨pb, qb, rfl, hr, hb5⟩; have K := Lib.hid (K.out.next hb5); have SA := Lib.hid (SA.out.below (Nat.le_refl _) hb5); have SB := Lib.hid hr; clear hr hb5)
    | (go_at_call 10; refine (A2.out _ _ _ _ _ SA.out SB.out).mono ?_; rintro e w7 ⟨rfl, hb5⟩; have K := Lib.hid (K.out.next hb5); clear hb5)
    | (go_at_call 11; refine (HW.out _ K.out).mono ?_; rintro e w8 ⟨rfl, hb5⟩; have K := Lib.hid (K.out.next hb5); clear hb5))
  exact bodyPost_ret (v := .bool true) (by simp [results, Tryz.results3, go_sem]) rfl ⟨rfl, K.out.o⟩
end Go.Proofs.YtfghggfoncfhgaaGreatDoor
