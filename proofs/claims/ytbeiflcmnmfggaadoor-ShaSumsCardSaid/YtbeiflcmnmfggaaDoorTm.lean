/- The body of ShaBytes returns true for every text, in every world that holds the two tables. -/
import Derived.Test.YtbeiflcmnmfggaaDoorTl
namespace Go.Proofs.YtbeiflcmnmfggaaDoor
open Go.RowKit

theorem extract_list (Y : List UInt8) (i j : Nat) : (⟨Y.toArray⟩ : ByteArray).extract i j = ⟨((Y.take j).drop i).toArray⟩ := by
  apply ByteArray.ext
  rw [ByteArray.data_extract]
  simp [List.drop_take]

theorem cut_str (S : List UInt8) (j N : Nat) (h : j ≤ N) : ∃ T : List UInt8, (⟨S.toArray⟩ : ByteArray).extract 0 j = ⟨T.toArray⟩ ∧ T.length ≤ N :=
  ⟨S.take j, by rw [extract_list, List.drop_zero], by rw [List.length_take]; omega⟩

set_option maxRecDepth 100000 in
set_option maxHeartbeats 1000000 in
theorem shaBytes_any (S : List UInt8) (w : World) (hg : Glob w) (hS : S.length ≤ maxLen) :
    Calls Tryd.prog 6 #[.string ⟨S.toArray⟩] w fun e w' => e = .returned (.bool true) ∧ Below w.heap.size w w' := by
  have hsz := hg.size
  unfold maxLen at hS
  go_enter Tryd.func6, Tryd.ntmps6
  go_wp2_with fail
  refine (works_any w hg).mono ?_
  rintro e w1 ⟨rfl, hB1⟩
  have hG1 : Glob w1 := hg.below (by omega) hB1
  go_wp2_with fail
  all_goals
    first
      | (obtain ⟨T, hT, hTl⟩ := cut_str S 300 300 (by omega); rw [hT]; clear hT)
      | (obtain ⟨T, hT, hTl⟩ := cut_str S S.length 300 (by omega); rw [hT]; clear hT)
    refine (new_any w1 hG1).mono ?_
    rintro e w2 ⟨rfl, hH2, hB2⟩
    have hB02 : Below w.heap.size w w2 := hB1.trans (hB2.mono hB1.size)
    have hbs := hB1.size
    have hT2 : T.length < 1000 := by omega
    go_wp2
    go_loopw [4, 5] (fun i _ wr => ∃ k : Nat, k ≤ T.length ∧ i = .int .i64 (k : Int) ∧ Has w1.heap.size (T.take k) wr ∧ Below w.heap.size w wr) (fun i _ _ => T.length - (intOf i).toNat)
    case atStart => exact ⟨0, by omega, rfl, hH2, hB02⟩
    case round =>
      obtain ⟨k, hk, rfl, hHr, hBr⟩ := hrel
      have hGr : Glob wr := hg.below (by omega) hBr
      by_cases hlt : k < T.length
      · go_wp2_with fail
        refine (sum_any w1.heap.size (T.take k) wr hHr hGr (by rw [List.length_take]; omega)).mono ?_
        rintro e w3 ⟨rfl, hB3⟩
        have hB03 : Below w.heap.size w w3 := hBr.trans (hB3.mono hBr.size)
        have hG3 : Glob w3 := hg.below (by omega) hB03
        have hH3 : Has w1.heap.size (T.take k) w3 := Has.below hHr hHr.lt hB3
        have hsl := shaL_length (T.take k)
        go_wp2_with fail
        rw [extract_list, List.drop_zero]
        refine (shaSum_any (T.take k) w3 hG3 (by rw [List.length_take]; omega)).mono ?_
        rintro e w4 ⟨rfl, hB4⟩
        have hB04 : Below w.heap.size w w4 := hB03.trans (hB4.mono hB03.size)
        have hG4 : Glob w4 := hg.below (by omega) hB04
        have hH4 : Has w1.heap.size (T.take k) w4 := Has.below hH3 hH3.lt hB4
        go_wp2_with fail
        refine (len_any w1.heap.size (T.take k) w4 hH4).mono ?_
        rintro e w5 ⟨rfl, rfl⟩
        rw [List.length_take, Nat.min_eq_left hk]
        go_wp2_with fail
        rw [extract_list]
        refine (write_any w1.heap.size (T.take k) ((T.take (k + 1)).drop k) w4 hH4 hG4 (by omega) (by rw [List.length_drop, List.length_take, List.length_take]; omega)).mono ?_
        rintro e w6 ⟨rfl, hH6, hB6⟩
        have et : T.take k ++ (T.take (k + 1)).drop k = T.take (k + 1) := by
          have := List.take_append_drop k (T.take (k + 1))
          rwa [List.take_take, Nat.min_eq_left (by omega)] at this
        rw [et] at hH6
        have hB06 : Below w.heap.size w w6 := hB04.trans (hB6.below hB04.size (by omega))
        have hG6 : Glob w6 := hg.below (by omega) hB06
        go_wp2_with fail
        refine (write_any w1.heap.size (T.take (k + 1)) [] w6 hH6 hG6 (by omega) (by rw [List.length_take]; simp; omega)).mono ?_
        rintro e w7 ⟨rfl, hH7, hB7⟩
        rw [List.append_nil] at hH7
        have hB07 : Below w.heap.size w w7 := hB06.trans (hB7.below hB06.size (by omega))
        clear et
        go_wp2
        go_roundw
        case rel => exact ⟨k + 1, by omega, by go_num, hH7, hB07⟩
        case measure => simp [intOf]; omega
      · have ek : k = T.length := by omega
        subst ek
        rw [List.take_of_length_le (Nat.le_refl _)] at hHr
        go_wp2_with fail
        refine (sum_any w1.heap.size T wr hHr hGr (by omega)).mono ?_
        rintro e w3 ⟨rfl, hB3⟩
        have hB03 : Below w.heap.size w w3 := hBr.trans (hB3.mono hBr.size)
        have hG3 : Glob w3 := hg.below (by omega) hB03
        go_wp2_with fail
        refine (shaSum_any T w3 hG3 (by omega)).mono ?_
        rintro e w4 ⟨rfl, hB4⟩
        go_wp2
        go_ret
        exact ⟨rfl, hB03.trans (hB4.mono hB03.size)⟩
end Go.Proofs.YtbeiflcmnmfggaaDoor
