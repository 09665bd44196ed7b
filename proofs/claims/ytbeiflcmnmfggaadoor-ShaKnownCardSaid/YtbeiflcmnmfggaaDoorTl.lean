/- The chapter's examples: the sums of the empty text and of abc. -/
import Derived.Test.YtbeiflcmnmfggaaDoorEw
import Derived.Test.YtbeiflcmnmfggaaDoorTk
namespace Go.Proofs.YtbeiflcmnmfggaaDoor
open Go.RowKit

def word4N (x : Nat) : List UInt8 := [UInt8.ofNat (x >>> 24), UInt8.ofNat (x >>> 16), UInt8.ofNat (x >>> 8), UInt8.ofNat x]
theorem word4_nat (x : BitVec 32) : word4 x = word4N x.toNat := by
  rw [word4, word4N, BitVec.toNat_ushiftRight, BitVec.toNat_ushiftRight, BitVec.toNat_ushiftRight]
theorem digest_nat (s : St) : digestTo s.at 8 = (toN s).flatMap word4N := by
  rw [show digestTo s.at 8 = word4 s.a ++ (word4 s.b ++ (word4 s.c ++ (word4 s.d ++ (word4 s.e ++ (word4 s.f ++ (word4 s.g ++ (word4 s.h ++ []))))))) from rfl]
  simp only [word4_nat]
  rfl
theorem sha_block (T : List UInt8) (h : (T ++ padL T.length).length = 64) : shaL T = (compN (toN IV) ((T ++ padL T.length).map UInt8.toNat)).flatMap word4N := by
  rw [compN_eq IV _ h, ← digest_nat, shaL, h]
  show digestTo (comp IV ((T ++ padL T.length).take 64)).at 8 = _
  rw [List.take_of_length_le (by omega)]
theorem sha_empty : hexTo (shaL []) (shaL []).length = [101, 51, 98, 48, 99, 52, 52, 50, 57, 56, 102, 99, 49, 99, 49, 52, 57, 97, 102, 98, 102, 52, 99, 56, 57, 57, 54, 102, 98, 57, 50, 52, 50, 55, 97, 101, 52, 49, 101, 52, 54, 52, 57, 98, 57, 51, 52, 99, 97, 52, 57, 53, 57, 57, 49, 98, 55, 56, 53, 50, 98, 56, 53, 53] := by
  rw [sha_block [] (by decide +kernel)]
  decide +kernel
theorem sha_abc : hexTo (shaL [97, 98, 99]) (shaL [97, 98, 99]).length = [98, 97, 55, 56, 49, 54, 98, 102, 56, 102, 48, 49, 99, 102, 101, 97, 52, 49, 52, 49, 52, 48, 100, 101, 53, 100, 97, 101, 50, 50, 50, 51, 98, 48, 48, 51, 54, 49, 97, 51, 57, 54, 49, 55, 55, 97, 57, 99, 98, 52, 49, 48, 102, 102, 54, 49, 102, 50, 48, 48, 49, 53, 97, 100] := by
  rw [sha_block [97, 98, 99] (by decide +kernel)]
  decide +kernel

theorem shaL_length (T : List UInt8) : (shaL T).length = 32 := digestTo_length _ 8

set_option maxRecDepth 100000 in
set_option maxHeartbeats 1000000 in
theorem works_any (w : World) (hg : Glob w) :
    Calls Tryd.prog 10 #[] w fun e w' => e = .returned (.bool true) ∧ Below w.heap.size w w' := by
  have hsz := hg.size
  have e1 := Lib.hid sha_empty
  have e2 := Lib.hid sha_abc
  go_enter Tryd.func10, Tryd.ntmps10
  go_wp2_with fail
  refine (new_any w hg).mono ?_
  rintro e w1 ⟨rfl, hH1, hB1⟩
  have hG1 : Glob w1 := hg.below (by omega) hB1
  go_wp2_with fail
  refine (write_any w.heap.size [] [97] w1 hH1 hG1 (by omega) (by decide)).mono ?_
  rintro e w2 ⟨rfl, hH2, hB2⟩
  have hB02 : Below w.heap.size w w2 := hB1.trans (hB2.below hB1.size (Nat.le_refl _))
  have hG2 : Glob w2 := hg.below (by omega) hB02
  go_wp2_with fail
  refine (sum_any w.heap.size [97] w2 hH2 hG2 (by decide)).mono ?_
  rintro e w3 ⟨rfl, hB3⟩
  have hH3 : Has w.heap.size [97] w3 := Has.below hH2 hH2.lt hB3
  have hB03 : Below w.heap.size w w3 := hB02.trans (hB3.mono hB02.size)
  have hG3 : Glob w3 := hg.below (by omega) hB03
  go_wp2_with fail
  refine (write_any w.heap.size [97] [98, 99] w3 hH3 hG3 (by omega) (by decide)).mono ?_
  rintro e w4 ⟨rfl, hH4, hB4⟩
  have hB04 : Below w.heap.size w w4 := hB03.trans (hB4.below hB03.size (Nat.le_refl _))
  have hG4 : Glob w4 := hg.below (by omega) hB04
  go_wp2_with fail
  refine (shaSum_any [] w4 hG4 (by decide)).mono ?_
  rintro e w5 ⟨rfl, hB5⟩
  have hB05 : Below w.heap.size w w5 := hB04.trans (hB5.mono hB04.size)
  have hG5 : Glob w5 := hg.below (by omega) hB05
  have hH5 : Has w.heap.size [97, 98, 99] w5 := Has.below hH4 hH4.lt hB5
  go_wp2_with fail
  refine (hex_any (shaL []) w5 (by rw [shaL_length]; decide)).mono ?_
  rintro e w6 ⟨rfl, hB6⟩
  rw [e1.out]
  have hB06 : Below w.heap.size w w6 := hB05.trans (hB6.mono hB05.size)
  have hG6 : Glob w6 := hg.below (by omega) hB06
  have hH6 : Has w.heap.size [97, 98, 99] w6 := Has.below hH5 hH5.lt hB6
  go_wp2_with fail
  refine (shaSum_any [97, 98, 99] w6 hG6 (by decide)).mono ?_
  rintro e w7 ⟨rfl, hB7⟩
  have hB07 : Below w.heap.size w w7 := hB06.trans (hB7.mono hB06.size)
  have hG7 : Glob w7 := hg.below (by omega) hB07
  have hH7 : Has w.heap.size [97, 98, 99] w7 := Has.below hH6 hH6.lt hB7
  go_wp2_with fail
  refine (hex_any (shaL [97, 98, 99]) w7 (by rw [shaL_length]; decide)).mono ?_
  rintro e w8 ⟨rfl, hB8⟩
  rw [e2.out]
  have hB08 : Below w.heap.size w w8 := hB07.trans (hB8.mono hB07.size)
  have hG8 : Glob w8 := hg.below (by omega) hB08
  have hH8 : Has w.heap.size [97, 98, 99] w8 := Has.below hH7 hH7.lt hB8
  go_wp2_with fail
  refine (shaSum_any [97] w8 hG8 (by decide)).mono ?_
  rintro e w9 ⟨rfl, hB9⟩
  have hB09 : Below w.heap.size w w9 := hB08.trans (hB9.mono hB08.size)
  have hG9 : Glob w9 := hg.below (by omega) hB09
  have hH9 : Has w.heap.size [97, 98, 99] w9 := Has.below hH8 hH8.lt hB9
  go_wp2_with fail
  refine (sum_any w.heap.size [97, 98, 99] w9 hH9 hG9 (by decide)).mono ?_
  rintro e w10 ⟨rfl, hB10⟩
  have hB010 : Below w.heap.size w w10 := hB09.trans (hB10.mono hB09.size)
  have hG10 : Glob w10 := hg.below (by omega) hB010
  have hH10 : Has w.heap.size [97, 98, 99] w10 := Has.below hH9 hH9.lt hB10
  go_wp2_with fail
  refine (shaSum_any [97, 98, 99] w10 hG10 (by decide)).mono ?_
  rintro e w11 ⟨rfl, hB11⟩
  have hB011 : Below w.heap.size w w11 := hB010.trans (hB11.mono hB010.size)
  have hG11 : Glob w11 := hg.below (by omega) hB011
  have hH11 : Has w.heap.size [97, 98, 99] w11 := Has.below hH10 hH10.lt hB11
  go_wp2_with fail
  refine (len_any w.heap.size [97, 98, 99] w11 hH11).mono ?_
  rintro e w12 ⟨rfl, rfl⟩
  go_wp2
  go_ret
  exact ⟨rfl, hB011⟩
end Go.Proofs.YtbeiflcmnmfggaaDoor
