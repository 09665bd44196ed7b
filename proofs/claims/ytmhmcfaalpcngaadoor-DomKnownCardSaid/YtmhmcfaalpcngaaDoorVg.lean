/- DomKnown's body: the chapter's examples. -/
import Derived.Test.YtmhmcfaalpcngaaDoorVe
namespace Go.Proofs.YtmhmcfaalpcngaaDoor
open Go.RowKit

def t17 : List UInt8 := [49, 50, 51, 52, 53, 54, 55, 56, 57, 48, 49, 50, 51, 52, 53, 54, 55]
def t16 : List UInt8 := [49, 50, 51, 52, 53, 54, 55, 56, 57, 48, 49, 50, 51, 52, 53, 54]
theorem k1 : frameL [97] [[98], [99, 100]] = [1, 97, 0, 0, 0, 0, 0, 0, 0, 1, 98, 0, 0, 0, 0, 0, 0, 0, 2, 99, 100] := by decide
theorem k2 : frameL [] [] = [] := by decide
theorem k3 : frameL t17 [] = [] := by decide
theorem k4 : frameL t16 [] = [16, 49, 50, 51, 52, 53, 54, 55, 56, 57, 48, 49, 50, 51, 52, 53, 54] := by decide
theorem k5 : hashL [] [] = [] := by rw [hashL, if_neg (by decide)]
theorem k6 : hashL t17 [[97]] = [] := by rw [hashL, if_neg (by decide)]
theorem k7 : frameL [97] [[]] = [1, 97, 0, 0, 0, 0, 0, 0, 0, 0] := by decide
theorem k8 : frameL [97] [] = [1, 97] := by decide
theorem k9 : numL 0 = [0, 0, 0, 0, 0, 0, 0, 0] := by decide
theorem k10 : numL 18446744073709551615 = [255, 255, 255, 255, 255, 255, 255, 255] := by decide

set_option maxRecDepth 100000 in
set_option maxHeartbeats 1000000 in
theorem domKnown_any (w : World) (hg : Glob w) :
    Calls Tryd.prog 6 #[] w fun e w' => e = .returned (.bool true) ∧ Below w.heap.size w w' := by
  have hsz := hg.size
  have c1 := fun b w' hs => frameAll [97] (some ⟨b, 0, none⟩) 2 [[98], [99, 100]] w' hs (by decide) (by decide)
  have c2 := fun w' => frameAll [] none 0 [] w' (.inl rfl) (by decide) (by decide)
  have c3 := fun w' => frameAll t17 none 0 [] w' (.inl rfl) (by decide) (by decide)
  have c4 := fun w' => frameAll t16 none 0 [] w' (.inl rfl) (by decide) (by decide)
  have c5 := fun w' hg' => hash_any [] none 0 [] w' hg' (.inl rfl) (by decide) (by decide)
  have c6 := fun b w' hg' hs => hash_any t17 (some ⟨b, 0, none⟩) 1 [[97]] w' hg' hs (by decide) (by decide)
  have c7 := fun b w' hs => frameAll [97] (some ⟨b, 0, none⟩) 1 [[]] w' hs (by decide) (by decide)
  have c8 := fun w' => frameAll [97] none 0 [] w' (.inl rfl) (by decide) (by decide)
  have c9 := num_any 0
  have c10 := num_any 18446744073709551615
  rw [k1] at c1
  rw [k2] at c2
  rw [k3] at c3
  rw [k4] at c4
  rw [k5] at c5
  rw [k6] at c6
  rw [k7] at c7
  rw [k8] at c8
  rw [k9] at c9
  rw [k10] at c10
  have C1 := Lib.hid c1
  have C2 := Lib.hid c2
  have C3 := Lib.hid c3
  have C4 := Lib.hid c4
  have C5 := Lib.hid c5
  have C6 := Lib.hid c6
  have C7 := Lib.hid c7
  have C8 := Lib.hid c8
  have C9 := Lib.hid c9
  have C10 := Lib.hid c10
  clear c1 c2 c3 c4 c5 c6 c7 c8 c9 c10
  go_enter Tryd.func6, Tryd.ntmps6
  go_wp2_with fail
  refine (works_any w hg).mono ?_
  rintro e w1 ⟨rfl, hB1⟩
  have z1 := hB1.size
  go_wp2_with fail
  have hA : Below w.heap.size w (w1.alloc (.cells #[.string ⟨#[98]⟩, .string ⟨#[99, 100]⟩] 9)) := hB1.alloc z1 _
  refine (C1.out w1.heap.size _ (strs_new w1 [[98], [99, 100]] _ rfl)).mono ?_
  rintro e w2 ⟨rfl, hb2⟩
  have hB2 : Below w.heap.size w w2 := hA.trans (hb2.mono (by simp; omega))
  have z2 := hB2.size
  clear hA
  go_wp2_with fail
  refine (C2.out w2).mono ?_
  rintro e w3 ⟨rfl, hb3⟩
  have hB3 := hB2.trans (hb3.mono z2)
  have z3 := hB3.size
  go_wp2_with fail
  refine (C3.out w3).mono ?_
  rintro e w4 ⟨rfl, hb4⟩
  have hB4 := hB3.trans (hb4.mono z3)
  have z4 := hB4.size
  go_wp2_with fail
  refine (C4.out w4).mono ?_
  rintro e w5 ⟨rfl, hb5⟩
  have hB5 := hB4.trans (hb5.mono z4)
  have z5 := hB5.size
  go_wp2_with fail
  refine (C5.out w5 (hg.below (by omega) hB5)).mono ?_
  rintro e w6 ⟨rfl, hb6⟩
  have hB6 := hB5.trans (hb6.mono z5)
  have z6 := hB6.size
  go_wp2_with fail
  have hA : Below w.heap.size w (w6.alloc (.cells #[.string ⟨#[97]⟩] 9)) := hB6.alloc z6 _
  refine (C6.out w6.heap.size _ (hg.below (by omega) hA) (strs_new w6 [[97]] _ rfl)).mono ?_
  rintro e w7 ⟨rfl, hb7⟩
  have hB7 : Below w.heap.size w w7 := hA.trans (hb7.mono (by simp; omega))
  have z7 := hB7.size
  clear hA
  go_wp2_with fail
  have hA : Below w.heap.size w (w7.alloc (.cells #[.string ⟨#[]⟩] 9)) := hB7.alloc z7 _
  refine (C7.out w7.heap.size _ (strs_new w7 [[]] _ rfl)).mono ?_
  rintro e w8 ⟨rfl, hb8⟩
  have hB8 : Below w.heap.size w w8 := hA.trans (hb8.mono (by simp; omega))
  have z8 := hB8.size
  clear hA
  go_wp2_with fail
  refine (C8.out w8).mono ?_
  rintro e w9 ⟨rfl, hb9⟩
  have hB9 := hB8.trans (hb9.mono z8)
  have z9 := hB9.size
  go_wp2_with fail
  refine (C9.out w9).mono ?_
  rintro e w10 ⟨rfl, hb10⟩
  have hB10 := hB9.trans (hb10.mono z9)
  have z10 := hB10.size
  go_wp2_with fail
  refine (C10.out w10).mono ?_
  rintro e w11 ⟨rfl, hb11⟩
  go_wp2
  go_ret
  exact ⟨rfl, hB10.trans (hb11.mono z10)⟩
end Go.Proofs.YtmhmcfaalpcngaaDoor
