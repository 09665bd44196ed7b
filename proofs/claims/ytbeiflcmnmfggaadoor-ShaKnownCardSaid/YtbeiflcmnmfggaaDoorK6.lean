/- A hasher that is nil, and the body of ShaKnown. -/
import Derived.Test.YtbeiflcmnmfggaaDoorK5
import Derived.Test.YtbeiflcmnmfggaaDoorShelf
namespace Go.Proofs.YtbeiflcmnmfggaaDoor
open Go.RowKit

set_option maxHeartbeats 400000 in
theorem write_none (s : ByteArray) (w : World) :
    Calls Tryd.prog 13 #[.pointer none, .string s] w fun e w' => e = .returned (.tuple #[]) ∧ w = w' := by
  go_enter Tryd.func13, Tryd.ntmps13
  go_wp2
  refine bodyPost_ret (results_none rfl _ _ _) rfl ?_
  exact ⟨rfl, rfl⟩
set_option maxHeartbeats 400000 in
theorem sum_none (w : World) :
    Calls Tryd.prog 14 #[.pointer none] w fun e w' => e = .returned (.string ⟨#[]⟩) ∧ w = w' := by
  go_enter Tryd.func14, Tryd.ntmps14
  go_wp2
  go_ret
  exact ⟨rfl, rfl⟩
set_option maxHeartbeats 400000 in
theorem len_none (w : World) :
    Calls Tryd.prog 15 #[.pointer none] w fun e w' => e = .returned (.int .u64 0) ∧ w = w' := by
  go_enter Tryd.func15, Tryd.ntmps15
  go_wp2
  go_ret
  exact ⟨rfl, rfl⟩
set_option maxHeartbeats 400000 in
theorem copy_none (w : World) :
    Calls Tryd.prog 16 #[.pointer none] w fun e w' => e = .returned (.pointer none) ∧ w = w' := by
  go_enter Tryd.func16, Tryd.ntmps16
  go_wp2
  go_ret
  exact ⟨rfl, rfl⟩

theorem million (w : World) : Calls Tryd.prog 18 #[.string ⟨#[97]⟩, .int .i64 1000000] w fun e w' => ∃ M : List UInt8, e = .returned (.string ⟨M.toArray⟩) ∧ Below w.heap.size w w' ∧ M.length < 100000000000 ∧ (shaL M).length < 1000 ∧ hexTo (shaL M) (shaL M).length = [99, 100, 99, 55, 54, 101, 53, 99, 57, 57, 49, 52, 102, 98, 57, 50, 56, 49, 97, 49, 99, 55, 101, 50, 56, 52, 100, 55, 51, 101, 54, 55, 102, 49, 56, 48, 57, 97, 52, 56, 97, 52, 57, 55, 50, 48, 48, 101, 48, 52, 54, 100, 51, 57, 99, 99, 99, 55, 49, 49, 50, 99, 100, 48] := by
  refine (Tryd.strings_Repeat ⟨#[97]⟩ 1000000 w (by decide) (by decide)).mono ?_
  rintro e w' ⟨rfl, hB⟩
  refine ⟨List.replicate 1000000 97, ?_, hB, by rw [List.length_replicate]; decide, by rw [shaL_length]; decide, sha_million⟩
  rw [← repeat_one]

set_option maxRecDepth 100000 in
set_option maxHeartbeats 1000000 in
theorem shaKnown_any (w : World) (hg : Glob w) :
    Calls Tryd.prog 7 #[] w fun e w' => e = .returned (.bool true) ∧ Below w.heap.size w w' := by
  have hsz := hg.size
  have e1 := Lib.hid sha_empty
  have e2 := Lib.hid sha_56
  have e3 := Lib.hid sha_112
  go_enter Tryd.func7, Tryd.ntmps7
  go_wp2_with fail
  refine (write_none _ w).mono ?_
  rintro e w0 ⟨rfl, rfl⟩
  go_wp2_with fail
  refine (works_any w hg).mono ?_
  rintro e w1 ⟨rfl, hB1⟩
  go_wp2_with fail
  refine (sum_none w1).mono ?_
  rintro e w2 ⟨rfl, rfl⟩
  go_wp2_with fail
  refine (len_none w1).mono ?_
  rintro e w2 ⟨rfl, rfl⟩
  go_wp2_with fail
  refine (copy_none w1).mono ?_
  rintro e w2 ⟨rfl, rfl⟩
  have hG1 : Glob w1 := hg.below (by omega) hB1
  go_wp2_with fail
  refine (new_any w1 hG1).mono ?_
  rintro e w2 ⟨rfl, hH2, hB2⟩
  have hB02 : Below w.heap.size w w2 := hB1.trans (hB2.mono hB1.size)
  have hG2 : Glob w2 := hg.below (by omega) hB02
  go_wp2_with fail
  refine (sum_any w1.heap.size [] w2 hH2 hG2 (by decide)).mono ?_
  rintro e w3 ⟨rfl, hB3⟩
  have hB03 : Below w.heap.size w w3 := hB02.trans (hB3.mono hB02.size)
  go_wp2_with fail
  refine (hex_any (shaL []) w3 (by rw [shaL_length]; decide)).mono ?_
  rintro e w4 ⟨rfl, hB4⟩
  rw [e1.out]
  have hB04 : Below w.heap.size w w4 := hB03.trans (hB4.mono hB03.size)
  have hG4 : Glob w4 := hg.below (by omega) hB04
  go_wp2_with fail
  refine (shaSum_any text56 w4 hG4 (by decide)).mono ?_
  rintro e w5 ⟨rfl, hB5⟩
  have hB05 : Below w.heap.size w w5 := hB04.trans (hB5.mono hB04.size)
  go_wp2_with fail
  refine (hex_any (shaL text56) w5 (by rw [shaL_length]; decide)).mono ?_
  rintro e w6 ⟨rfl, hB6⟩
  rw [e2.out]
  have hB06 : Below w.heap.size w w6 := hB05.trans (hB6.mono hB05.size)
  have hG6 : Glob w6 := hg.below (by omega) hB06
  go_wp2_with fail
  refine (shaSum_any text112 w6 hG6 (by decide)).mono ?_
  rintro e w7 ⟨rfl, hB7⟩
  have hB07 : Below w.heap.size w w7 := hB06.trans (hB7.mono hB06.size)
  go_wp2_with fail
  refine (hex_any (shaL text112) w7 (by rw [shaL_length]; decide)).mono ?_
  rintro e w8 ⟨rfl, hB8⟩
  rw [e3.out]
  have hB08 : Below w.heap.size w w8 := hB07.trans (hB8.mono hB07.size)
  go_wp2_with fail
  refine (million w8).mono ?_
  rintro e w9 ⟨M, rfl, hB9, hM1, hM2, hM3⟩
  have HM := Lib.hid hM3
  clear hM3
  have hB09 : Below w.heap.size w w9 := hB08.trans (hB9.mono hB08.size)
  have hG9 : Glob w9 := hg.below (by omega) hB09
  go_wp2_with fail
  refine (shaSum_any M w9 hG9 hM1).mono ?_
  rintro e w10 ⟨rfl, hB10⟩
  have hB010 : Below w.heap.size w w10 := hB09.trans (hB10.mono hB09.size)
  go_wp2_with fail
  refine (hex_any (shaL M) w10 hM2).mono ?_
  rintro e w11 ⟨rfl, hB11⟩
  rw [HM.out]
  have hB011 : Below w.heap.size w w11 := hB010.trans (hB11.mono hB010.size)
  go_wp2
  go_ret
  exact ⟨rfl, hB011⟩
end Go.Proofs.YtbeiflcmnmfggaaDoor
