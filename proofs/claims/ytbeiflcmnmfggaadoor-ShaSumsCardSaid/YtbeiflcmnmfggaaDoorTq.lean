/- The body of ShaParts returns true for every list of texts and every other text, in every world that holds the two tables. -/
import Derived.Test.YtbeiflcmnmfggaaDoorTp
namespace Go.Proofs.YtbeiflcmnmfggaaDoor
open Go.RowKit

/-- the slice at ao lays the texts L -/
def Strs (ao : Option Addr) (L : List (List UInt8)) (w : World) : Prop :=
  L = [] ∨ ∃ b off, ao = some ⟨b, off, none⟩ ∧ b < w.heap.size ∧ ∀ i (h : i < L.length), w.cell? ⟨b, off + i, none⟩ = some (.string ⟨L[i].toArray⟩)

/-- a row of texts in block g, or none -/
def Row (ao : Option Addr) (B : Nat) (TS : List (List UInt8)) (w : World) : Prop :=
  TS = [] ∨ ∃ g cur, ao = some ⟨g, 0, none⟩ ∧ B ≤ g ∧ w.heap[g]? = some (.cells cur 9 (0, 0)) ∧ ∀ i (h : i < TS.length), cur[i]? = some (.string ⟨TS[i].toArray⟩)

theorem Row.below {ao : Option Addr} {B : Nat} {TS : List (List UInt8)} {w w' : World} (h : Row ao B TS w) (hb : Below w.heap.size w w') : Row ao B TS w' := by
  rcases h with h | ⟨g, cur, h1, h2, h3, h4⟩
  · exact .inl h
  · exact .inr ⟨g, cur, h1, h2, (hb.block g (Array.getElem?_eq_some_iff.1 h3).1).trans h3, h4⟩
theorem Row.but {ao : Option Addr} {B b : Nat} {TS : List (List UInt8)} {w w' : World} (h : Row ao B TS w) (hb : But b w w') (hB : b < B) : Row ao B TS w' := by
  rcases h with h | ⟨g, cur, h1, h2, h3, h4⟩
  · exact .inl h
  · exact .inr ⟨g, cur, h1, h2, (hb.block g (Array.getElem?_eq_some_iff.1 h3).1 (by omega)).trans h3, h4⟩
theorem Row.later {ao : Option Addr} {B b : Nat} {TS : List (List UInt8)} {w w0 w' : World} (h : Row ao B TS w) (hw : Below w.heap.size w w0) (hb : But b w0 w') (hB : w.heap.size ≤ b) : Row ao B TS w' := by
  rcases h with h | ⟨g, cur, h1, h2, h3, h4⟩
  · exact .inl h
  · have hg := (Array.getElem?_eq_some_iff.1 h3).1
    exact .inr ⟨g, cur, h1, h2, (hb.block g (by have := hw.size; omega) (by omega)).trans ((hw.block g hg).trans h3), h4⟩
theorem Row.cell {ao : Option Addr} {B : Nat} {TS : List (List UInt8)} {w : World} (h : Row ao B TS w) (k : Nat) (hk : k < TS.length) : ∃ g, ao = some ⟨g, 0, none⟩ ∧ w.cell? ⟨g, k, none⟩ = some (.string ⟨TS[k].toArray⟩) := by
  rcases h with h | ⟨g, cur, h1, h2, h3, h4⟩
  · subst h; simp at hk
  · exact ⟨g, h1, by rw [cell_of_row w g k cur 9 _ h3]; exact h4 k hk⟩
theorem Has.but {b b' : Nat} {T : List UInt8} {w w' : World} (h : Has b T w) (hb : But b' w w') (hne : b ≠ b') : Has b T w' := by
  have hl := h.lt
  obtain ⟨O, h1, h2, h3⟩ := h
  exact ⟨O, h1, h2, (hb.block b hl hne).trans h3⟩

theorem row_of_owns {w : World} {B n : Nat} {v : Value} {TS : List (List UInt8)} (h : w.ownsRow B 9 1 v n (strCells TS)) (hn : TS.length = n) : ∃ ao cp, v = .slice ao n cp ∧ Row ao B TS w := by
  obtain ⟨h1, h2⟩ := h
  rcases h2 with ⟨rfl, rfl⟩ | ⟨g, cap, cur, rfl, hg, hh, _, _, _, hc⟩
  · exact ⟨none, 0, rfl, .inl (List.eq_nil_of_length_eq_zero hn)⟩
  · refine ⟨_, cap, rfl, .inr ⟨g, cur, rfl, hg, hh, fun i hi => ?_⟩⟩
    have e : (cur.toList.take (n * 1))[i]? = (strCells TS)[i]? := by rw [hc]
    rw [List.getElem?_take, if_pos (by omega), Array.getElem?_toList] at e
    rw [e]
    simp [strCells, hi]

theorem cut_any (ao : Option Addr) (cap : Nat) (L : List (List UInt8)) (w : World) (hL : L.length ≤ maxLen) (hl : ∀ i (h : i < L.length), L[i].length ≤ maxLen) (hs : Strs ao L w) :
    Calls Tryd.prog 12 #[.slice ao L.length cap] w fun e w' => ∃ ao' cp, e = .returned (.slice ao' (cutTo L 20).length cp) ∧ Row ao' w.heap.size (cutTo L 20) w' ∧ Below w.heap.size w w' := by
  rcases hs with rfl | ⟨b, off, rfl, hb, hc⟩
  · exact (cut_none ao cap w).mono fun e w' ⟨he, hw⟩ => ⟨none, 0, he, .inl rfl, hw ▸ Below.refl _ _⟩
  · refine (cut_some b off cap L w hL hl hb hc).mono fun e w' ⟨v, he, ho, hB⟩ => ?_
    obtain ⟨ao', cp, rfl, hr⟩ := row_of_owns ho rfl
    exact ⟨ao', cp, he, hr, hB⟩

theorem cut_le (L : List (List UInt8)) : (cutTo L 20).length ≤ 20 ∧ ∀ i (h : i < (cutTo L 20).length), ((cutTo L 20)[i]).length ≤ 300 := by
  refine ⟨by rw [cutTo, List.length_map, List.length_take]; omega, fun i h => ?_⟩
  simp only [cutTo, List.getElem_map, List.length_take]
  omega

theorem flat_snoc (TS : List (List UInt8)) (k : Nat) (h : k < TS.length) : (TS.take (k + 1)).flatten = (TS.take k).flatten ++ TS[k] := by
  rw [List.take_succ_eq_append_getElem h, List.flatten_append]; simp
theorem flat_le (TS : List (List UInt8)) (h : ∀ i (h : i < TS.length), TS[i].length ≤ 300) : ∀ k, k ≤ TS.length → (TS.take k).flatten.length ≤ 300 * k
  | 0, _ => by simp
  | k + 1, hk => by
    rw [flat_snoc TS k (by omega), List.length_append]
    have := flat_le TS h k (by omega)
    have := h k (by omega)
    omega

theorem str_add (A B : List UInt8) : (⟨A.toArray⟩ : ByteArray) ++ ⟨B.toArray⟩ = ⟨(A ++ B).toArray⟩ := by
  apply ByteArray.ext
  simp

set_option maxRecDepth 100000 in
set_option maxHeartbeats 2000000 in
theorem shaParts_any (ao : Option Addr) (cap : Nat) (L : List (List UInt8)) (S : List UInt8) (w : World) (hg : Glob w) (hL : L.length ≤ maxLen) (hl : ∀ i (h : i < L.length), L[i].length ≤ maxLen) (hs : Strs ao L w) (hS : S.length ≤ maxLen) :
    Calls Tryd.prog 5 #[.slice ao L.length cap, .string ⟨S.toArray⟩] w fun e w' => e = .returned (.bool true) ∧ Below w.heap.size w w' := by
  have hsz := hg.size
  have HL := Lib.hid hl
  have HS := Lib.hid hs
  clear hl hs
  unfold maxLen at hS
  go_enter Tryd.func5, Tryd.ntmps5
  go_wp2_with fail
  refine (works_any w hg).mono ?_
  rintro e w1 ⟨rfl, hB1⟩
  have hG1 : Glob w1 := hg.below (by omega) hB1
  have s1 := hB1.size
  go_wp2_with fail
  all_goals
    first
      | (obtain ⟨Oth, hT, hTl⟩ := cut_str S 300 300 (by omega); rw [hT]; clear hT)
      | (obtain ⟨Oth, hT, hTl⟩ := cut_str S S.length 300 (by omega); rw [hT]; clear hT)
    refine (new_any w1 hG1).mono ?_
    rintro e w2 ⟨rfl, hH2, hB2⟩
    have hB02 : Below w.heap.size w w2 := hB1.trans (hB2.mono s1)
    have hG2 : Glob w2 := hg.below (by omega) hB02
    have s2 := hB02.size
    go_wp2_with fail
    refine (new_any w2 hG2).mono ?_
    rintro e w3 ⟨rfl, hQ3, hB3⟩
    have hH3 : Has w1.heap.size [] w3 := Has.below hH2 hH2.lt hB3
    have hB03 : Below w.heap.size w w3 := hB02.trans (hB3.mono s2)
    have hG3 : Glob w3 := hg.below (by omega) hB03
    have l1 : w1.heap.size < w2.heap.size := hH2.lt
    have l2 : w2.heap.size < w3.heap.size := hQ3.lt
    go_wp2_with fail
    have hs3 : Strs ao L w3 := by
      rcases HS.out with h | ⟨b, off, h1, h2, h3⟩
      · exact .inl h
      · exact .inr ⟨b, off, h1, by have := hB03.size; omega, fun i hi => (hB03.cell (p := ⟨b, off + i, none⟩) h2).trans (h3 i hi)⟩
    refine (cut_any ao cap L w3 hL HL.out hs3).mono ?_
    rintro e w4 ⟨ao', cp, rfl, hR4, hB4⟩
    clear hs3
    have hH4 : Has w1.heap.size [] w4 := Has.below hH3 hH3.lt hB4
    have hQ4 : Has w2.heap.size [] w4 := Has.below hQ3 hQ3.lt hB4
    have hB04 : Below w.heap.size w w4 := hB03.trans (hB4.mono (by omega))
    obtain ⟨hc20, hc300⟩ := cut_le L
    have HF := Lib.hid (flat_le _ hc300)
    obtain ⟨TS, hTS⟩ : ∃ TS, cutTo L 20 = TS := ⟨_, rfl⟩
    rw [hTS] at hR4 hc20 HF
    rw [hTS]
    have H300 := Lib.hid (hTS ▸ hc300)
    clear hc300 hTS
    go_wp2
    go_loopw [7, 9, 10, 29] (fun t _ _ i wr => ∃ k : Nat, k ≤ TS.length ∧ i = .int .i64 (k : Int) ∧ ∃ T : List UInt8, Hid (T = (TS.take k).flatten) ∧ t = .string ⟨T.toArray⟩ ∧
        Has w1.heap.size T wr ∧ Has w2.heap.size T wr ∧ Row ao' w3.heap.size TS wr ∧ Below w.heap.size w wr) (fun _ _ _ i _ => TS.length - (intOf i).toNat)
    case atStart => exact ⟨0, by omega, rfl, [], Lib.hid (by simp), rfl, hH4, hQ4, hR4, hB04⟩
    case round =>
      clear hH4 hQ4 hR4 hB04
      obtain ⟨k, hk, rfl, T, HT, rfl, hHr, hQr, hRr, hBr⟩ := hrel
      have hGr : Glob wr := hg.below (by omega) hBr
      have hTl2 : T.length ≤ 6000 := by have := HF.out k hk; rw [HT.out]; omega
      by_cases hlt : k < TS.length
      · obtain ⟨g, rfl, hcell⟩ := hRr.cell k hlt
        obtain ⟨X, hX⟩ : ∃ X, TS[k] = X := ⟨_, rfl⟩
        have hXl : X.length ≤ 300 := by rw [← hX]; exact H300.out k hlt
        have HT2 := Lib.hid (show T ++ X = (TS.take (k + 1)).flatten by rw [flat_snoc TS k hlt, ← HT.out, hX])
        rw [hX] at hcell
        clear hX
        have k0 : (0 : Int) ≤ (k : Int) := by omega
        have k1 : (k : Int) < (TS.length : Int) := by omega
        go_wp2_with fail
        refine (write_any w1.heap.size T X wr hHr hGr (by omega) (by omega)).mono ?_
        rintro e v1 ⟨rfl, hH1, hU1⟩
        have hQ1 : Has w2.heap.size T v1 := hQr.but hU1 (by omega)
        have hR1 := hRr.but hU1 (by omega)
        have hD1 : Below w.heap.size w v1 := hBr.trans (hU1.below hBr.size (by omega))
        have hg1 : Glob v1 := hg.below (by omega) hD1
        go_wp2_with fail
        refine (write_any w2.heap.size T X v1 hQ1 hg1 (by omega) (by omega)).mono ?_
        rintro e v2 ⟨rfl, hQ2, hU2⟩
        have hH2' : Has w1.heap.size (T ++ X) v2 := hH1.but hU2 (by omega)
        have hR2 := hR1.but hU2 (by omega)
        have hD2 : Below w.heap.size w v2 := hD1.trans (hU2.below hD1.size (by omega))
        have hg2 : Glob v2 := hg.below (by omega) hD2
        have hTX : (T ++ X).length ≤ 6300 := by rw [List.length_append]; omega
        obtain ⟨TX, hTXe⟩ : ∃ TX, T ++ X = TX := ⟨_, rfl⟩
        rw [hTXe] at hH2' hQ2 hTX HT2
        have HTXe := Lib.hid hTXe
        have hadd := str_add T X
        rw [hTXe] at hadd
        clear hTXe
        go_wp2_with fail
        refine (copy_any w1.heap.size TX v2 hH2').mono ?_
        rintro e v3 ⟨rfl, hC3, hU3⟩
        have hH3' : Has w1.heap.size TX v3 := Has.below hH2' hH2'.lt hU3
        have hQ3' : Has w2.heap.size TX v3 := Has.below hQ2 hQ2.lt hU3
        have hR3 := hR2.below hU3
        have hD3 : Below w.heap.size w v3 := hD2.trans (hU3.mono hD2.size)
        have hg3 : Glob v3 := hg.below (by omega) hD3
        have d2 := hD2.size
        have hlt3 := hH2'.lt
        have hlt4 := hQ2.lt
        go_wp2_with fail
        refine (sum_any v2.heap.size TX v3 hC3 hg3 (by omega)).mono ?_
        rintro e v4 ⟨rfl, hU4⟩
        have hC4 := Has.below hC3 hC3.lt hU4
        have hH4' := Has.below hH3' hH3'.lt hU4
        have hQ4' := Has.below hQ3' hQ3'.lt hU4
        have hR4 := hR3.below hU4
        have hD4 : Below w.heap.size w v4 := hD3.trans (hU4.mono hD3.size)
        have hg4 : Glob v4 := hg.below (by omega) hD4
        go_wp2_with fail
        refine (shaSum_any TX v4 hg4 (by omega)).mono ?_
        rintro e v5 ⟨rfl, hU5⟩
        have hC5 := Has.below hC4 hC4.lt hU5
        have hH5' := Has.below hH4' hH4'.lt hU5
        have hQ5' := Has.below hQ4' hQ4'.lt hU5
        have hR5 := hR4.below hU5
        have hD5 : Below w.heap.size w v5 := hD4.trans (hU5.mono hD4.size)
        have hg5 : Glob v5 := hg.below (by omega) hD5
        go_wp2_with fail
        refine (len_any v2.heap.size TX v5 hC5).mono ?_
        rintro e v6 ⟨rfl, rfl⟩
        go_wp2_with fail
        refine (len_any w1.heap.size TX v5 hH5').mono ?_
        rintro e v6 ⟨rfl, rfl⟩
        go_wp2_with fail
        refine (write_any v2.heap.size TX Oth v5 hC5 hg5 (by omega) (by omega)).mono ?_
        rintro e v6 ⟨rfl, hC6, hU6⟩
        have hH6' : Has w1.heap.size TX v6 := hH5'.but hU6 (by omega)
        have hQ6' : Has w2.heap.size TX v6 := hQ5'.but hU6 (by omega)
        have hR6 := hR2.later ((hU3.trans (hU4.mono hU3.size)).trans (hU5.mono (by have := hU3.size; have := hU4.size; omega))) hU6 (Nat.le_refl _)
        have hD6 : Below w.heap.size w v6 := hD5.trans (hU6.below hD5.size (by omega))
        have hg6 : Glob v6 := hg.below (by omega) hD6
        have hadd2 := str_add TX Oth
        have hTO : (TX ++ Oth).length ≤ 6600 := by rw [List.length_append]; omega
        obtain ⟨TO, hTOe⟩ : ∃ TO, TX ++ Oth = TO := ⟨_, rfl⟩
        rw [hTOe] at hC6 hadd2 hTO
        clear hTOe
        go_wp2_with fail
        refine (sum_any v2.heap.size TO v6 hC6 hg6 (by omega)).mono ?_
        rintro e v7 ⟨rfl, hU7⟩
        have hC7 := Has.below hC6 hC6.lt hU7
        have hH7' := Has.below hH6' hH6'.lt hU7
        have hQ7' := Has.below hQ6' hQ6'.lt hU7
        have hR7 := hR6.below hU7
        have hD7 : Below w.heap.size w v7 := hD6.trans (hU7.mono hD6.size)
        have hg7 : Glob v7 := hg.below (by omega) hD7
        go_wp2_with fail
        refine (shaSum_any TO v7 hg7 (by omega)).mono ?_
        rintro e v8 ⟨rfl, hU8⟩
        have hC8 := Has.below hC7 hC7.lt hU8
        have hH8' := Has.below hH7' hH7'.lt hU8
        have hQ8' := Has.below hQ7' hQ7'.lt hU8
        have hR8 := hR7.below hU8
        have hD8 : Below w.heap.size w v8 := hD7.trans (hU8.mono hD7.size)
        have hg8 : Glob v8 := hg.below (by omega) hD8
        go_wp2_with fail
        refine (sum_any w1.heap.size TX v8 hH8' hg8 (by omega)).mono ?_
        rintro e v9 ⟨rfl, hU9⟩
        have hC9 := Has.below hC8 hC8.lt hU9
        have hH9' := Has.below hH8' hH8'.lt hU9
        have hQ9' := Has.below hQ8' hQ8'.lt hU9
        have hR9 := hR8.below hU9
        have hD9 : Below w.heap.size w v9 := hD8.trans (hU9.mono hD8.size)
        have hg9 : Glob v9 := hg.below (by omega) hD9
        go_wp2_with fail
        refine (shaSum_any TX v9 hg9 (by omega)).mono ?_
        rintro e v10 ⟨rfl, hU10⟩
        have hC10 := Has.below hC9 hC9.lt hU10
        have hH10' := Has.below hH9' hH9'.lt hU10
        have hQ10' := Has.below hQ9' hQ9'.lt hU10
        have hR10 := hR9.below hU10
        have hD10 : Below w.heap.size w v10 := hD9.trans (hU10.mono hD9.size)
        have hg10 : Glob v10 := hg.below (by omega) hD10
        go_wp2_with fail
        refine (len_any w1.heap.size TX v10 hH10').mono ?_
        rintro e v11 ⟨rfl, rfl⟩
        go_wp2
        go_roundw
        case rel => exact ⟨k + 1, by omega, by go_num, TX, HT2, by first | rfl | (rw [hadd]), hH10', hQ10', hR10, hD10⟩
        case measure => simp [intOf]; omega
      · have ek : k = TS.length := by omega
        go_wp2_with fail
        refine (sum_any w1.heap.size T wr hHr hGr (by omega)).mono ?_
        rintro e v1 ⟨rfl, hU1⟩
        have hH1 := Has.below hHr hHr.lt hU1
        have hQ1 := Has.below hQr hQr.lt hU1
        have hD1 : Below w.heap.size w v1 := hBr.trans (hU1.mono hBr.size)
        have hg1 : Glob v1 := hg.below (by omega) hD1
        go_wp2_with fail
        refine (shaSum_any T v1 hg1 (by omega)).mono ?_
        rintro e v2 ⟨rfl, hU2⟩
        have hH2' := Has.below hH1 hH1.lt hU2
        have hQ2 := Has.below hQ1 hQ1.lt hU2
        have hD2 : Below w.heap.size w v2 := hD1.trans (hU2.mono hD1.size)
        have hg2 : Glob v2 := hg.below (by omega) hD2
        go_wp2_with fail
        refine (sum_any w2.heap.size T v2 hQ2 hg2 (by omega)).mono ?_
        rintro e v3 ⟨rfl, hU3⟩
        have hH3' := Has.below hH2' hH2'.lt hU3
        have hQ3' := Has.below hQ2 hQ2.lt hU3
        have hD3 : Below w.heap.size w v3 := hD2.trans (hU3.mono hD2.size)
        have hg3 : Glob v3 := hg.below (by omega) hD3
        go_wp2_with fail
        refine (sum_any w1.heap.size T v3 hH3' hg3 (by omega)).mono ?_
        rintro e v4 ⟨rfl, hU4⟩
        have hH4' := Has.below hH3' hH3'.lt hU4
        have hQ4' := Has.below hQ3' hQ3'.lt hU4
        have hD4 : Below w.heap.size w v4 := hD3.trans (hU4.mono hD3.size)
        go_wp2_with fail
        refine (len_any w2.heap.size T v4 hQ4').mono ?_
        rintro e v5 ⟨rfl, rfl⟩
        go_wp2_with fail
        refine (len_any w1.heap.size T v4 hH4').mono ?_
        rintro e v5 ⟨rfl, rfl⟩
        go_wp2
        go_ret
        exact ⟨rfl, hD4⟩
end Go.Proofs.YtbeiflcmnmfggaaDoor
