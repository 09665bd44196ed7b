/- The few parts that a statement takes; DomHashes' body. -/
import Derived.Test.YtmhmcfaalpcngaaDoorVd
import Derived.Test.YtmhmcfaalpcngaaDoorVe
namespace Go.Proofs.YtmhmcfaalpcngaaDoor
open Go.RowKit

theorem strs_of_owns {w : World} {B n : Nat} {v : Value} {TS : List (List UInt8)} (h : w.ownsRow B 9 1 v n (strCells TS)) (hn : TS.length = n) : ∃ ao cp, v = .slice ao n cp ∧ Strs ao TS w := by
  obtain ⟨h1, h2⟩ := h
  rcases h2 with ⟨rfl, rfl⟩ | ⟨g, cap, cur, rfl, hg, hh, _, _, _, hc⟩
  · exact ⟨none, 0, rfl, .inl (List.eq_nil_of_length_eq_zero hn)⟩
  · refine ⟨_, cap, rfl, .inr ⟨g, 0, rfl, (Array.getElem?_eq_some_iff.1 hh).1, fun i hi => ?_⟩⟩
    have e : (cur.toList.take (n * 1))[i]? = (strCells TS)[i]? := by rw [hc]
    rw [List.getElem?_take, if_pos (by omega), Array.getElem?_toList] at e
    rw [Nat.zero_add, cell_of_row w g i cur 9 _ hh, e]
    simp [strCells, hi]

theorem few_any (ao : Option Addr) (cap : Nat) (L : List (List UInt8)) (w : World) (hL : L.length ≤ maxLen) (hl : ∀ i (h : i < L.length), L[i].length ≤ maxLen) (hs : Strs ao L w) :
    Calls Tryd.prog 7 #[.slice ao L.length cap] w fun e w' => ∃ ao' cp, e = .returned (.slice ao' (fewTo L 8).length cp) ∧ Strs ao' (fewTo L 8) w' ∧ Below w.heap.size w w' := by
  rcases hs with rfl | ⟨b, off, rfl, hb, hc⟩
  · exact (few_none ao cap w).mono fun e w' ⟨he, hw⟩ => ⟨none, 0, he, .inl rfl, hw ▸ Below.refl _ _⟩
  · refine (few_some b off cap L w hL hl hb hc).mono fun e w' ⟨v, he, ho, hB⟩ => ?_
    obtain ⟨ao', cp, rfl, hr⟩ := strs_of_owns ho rfl
    exact ⟨ao', cp, he, hr, hB⟩

theorem few_le (L : List (List UInt8)) : (fewTo L 8).length ≤ 8 ∧ ∀ i (h : i < (fewTo L 8).length), ((fewTo L 8)[i]).length ≤ 200 := by
  refine ⟨by rw [fewTo, List.length_map, List.length_take]; omega, fun i h => ?_⟩
  simp only [fewTo, List.getElem_map, List.length_take]
  omega
theorem framed_le (tag : List UInt8) (L : List (List UInt8)) (m : Nat) (h : ∀ i (h : i < L.length), L[i].length ≤ m) : ∀ k, k ≤ L.length → (framed tag (L.take k)).length ≤ 1 + tag.length + (8 + m) * k
  | 0, _ => by rw [List.take_zero, framed_nil]; simp; omega
  | k + 1, hk => by
    rw [framed_len tag L k (by omega), Nat.mul_succ]
    have := framed_le tag L m h k (by omega)
    have := h k (by omega)
    omega
theorem framed_few (tag : List UInt8) (L : List (List UInt8)) (ht : tag.length ≤ 20) : (framed tag (fewTo L 8)).length ≤ 2000 := by
  obtain ⟨h1, h2⟩ := few_le L
  have := framed_le tag (fewTo L 8) 200 h2 _ (Nat.le_refl _)
  rw [List.take_length] at this
  omega

set_option maxRecDepth 100000 in
set_option maxHeartbeats 2000000 in
theorem domHashes_any (S : List UInt8) (ao : Option Addr) (cap : Nat) (L : List (List UInt8)) (n : Nat) (w : World) (hg : Glob w) (hS : S.length ≤ maxLen) (hL : L.length ≤ maxLen) (hl : ∀ i (h : i < L.length), L[i].length ≤ maxLen) (hs : Strs ao L w) (hn : n < 18446744073709551616) :
    Calls Tryd.prog 3 #[.string ⟨S.toArray⟩, .slice ao L.length cap, .int .u64 (n : Int)] w fun e w' => e = .returned (.bool true) ∧ Below w.heap.size w w' := by
  have hsz := hg.size
  have hfew := few_any ao cap L w hL hl hs
  have HL := Lib.hid (framed_few · L)
  obtain ⟨TS, hTS⟩ : ∃ TS, fewTo L 8 = TS := ⟨_, rfl⟩
  rw [hTS] at hfew HL
  have HF := Lib.hid hfew
  clear hfew hTS hl hs
  unfold maxLen at hS hL
  go_enter Tryd.func3, Tryd.ntmps3
  go_wp2_with fail
  obtain ⟨T, hT, hTl⟩ := cut_str S (min (S.length : Int) 20).toNat 20 (by omega)
  rw [hT]
  clear hT
  have hfl := HL.out T hTl
  have hTm : T.length ≤ maxLen := by unfold maxLen; omega
  refine HF.out.mono ?_
  rintro e w1 ⟨ao', cp, rfl, hs1, hb1⟩
  have z1 := hb1.size
  go_wp2_with fail
  refine (frameAll T ao' cp TS w1 hs1 hTm (by omega)).mono ?_
  rintro e w2 ⟨rfl, hb2⟩
  have hs2 := hs1.below (Nat.le_refl _) hb2
  have hB2 := hb1.trans (hb2.mono z1)
  have z2 := hB2.size
  go_wp2_with fail
  refine (refFrameAll T ao' cp TS w2 hs2 hTm (by omega)).mono ?_
  rintro e w3 ⟨rfl, hb3⟩
  have hs3 := hs2.below (Nat.le_refl _) hb3
  have hB3 := hB2.trans (hb3.mono z2)
  have z3 := hB3.size
  go_wp2_with fail
  refine (hash_any T ao' cp TS w3 (hg.below (by omega) hB3) hs3 hTm (by omega)).mono ?_
  rintro e w4 ⟨rfl, hb4⟩
  have hs4 := hs3.below (Nat.le_refl _) hb4
  have hB4 := hB3.trans (hb4.mono z3)
  have z4 := hB4.size
  go_wp2_with fail
  refine (refHash_any T ao' cp TS w4 hs4 hTm (by omega)).mono ?_
  rintro e w5 ⟨rfl, hb5⟩
  have hB5 := hB4.trans (hb5.mono z4)
  have z5 := hB5.size
  go_wp2_with fail
  refine (num_any n w5).mono ?_
  rintro e w6 ⟨rfl, hb6⟩
  have hB6 := hB5.trans (hb6.mono z5)
  have z6 := hB6.size
  go_wp2_with fail
  refine (refNum_any n w6 hn).mono ?_
  rintro e w7 ⟨rfl, hb7⟩
  have hB7 := hB6.trans (hb7.mono z6)
  have z7 := hB7.size
  go_wp2_with fail
  refine (works_any w7 (hg.below (by omega) hB7)).mono ?_
  rintro e w8 ⟨rfl, hb8⟩
  go_wp2
  go_ret
  exact ⟨rfl, hB7.trans (hb8.mono z7)⟩
end Go.Proofs.YtmhmcfaalpcngaaDoor
