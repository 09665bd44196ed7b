/- Len, Copy and the sum at once. -/
import Derived.Test.YtbeiflcmnmfggaaDoorTi
namespace Go.Proofs.YtbeiflcmnmfggaaDoor
open Go.RowKit

set_option maxHeartbeats 400000 in
theorem len_any (b : Nat) (T : List UInt8) (w : World) (hH : Has b T w) :
    Calls Tryd.prog 15 #[.pointer (some ⟨b, 0, none⟩)] w fun e w' => e = .returned (.int .u64 (T.length : Int)) ∧ w = w' := by
  have hc := hH.sized
  go_enter Tryd.func15, Tryd.ntmps15
  go_wp2
  go_ret
  exact ⟨rfl, rfl⟩

set_option maxRecDepth 100000 in
set_option maxHeartbeats 1000000 in
theorem copy_any (b : Nat) (T : List UInt8) (w : World) (hH : Has b T w) :
    Calls Tryd.prog 16 #[.pointer (some ⟨b, 0, none⟩)] w fun e w' => e = .returned (.pointer (some ⟨w.heap.size, 0, none⟩)) ∧ Has w.heap.size T w' ∧ Below w.heap.size w w' := by
  have hlt := hH.lt
  obtain ⟨O, hO, hOt, hrow⟩ := id hH
  obtain ⟨w1, hw1⟩ : ∃ w1, (w.alloc (.cells Z45 45)).setCells w.heap.size 0 (hcells (hw T (T.length / 64)) O T.length) = w1 := ⟨_, rfl⟩
  have hH1 : Has w.heap.size T w1 := hw1 ▸ copied hO hOt
  have hB1 : Below w.heap.size w w1 := hw1 ▸ Below_setCells ((Below.refl _ _).alloc (Nat.le_refl _) _) (Nat.le_refl _) 0 _
  obtain ⟨L, hL⟩ : ∃ L, hcells (hw T (T.length / 64)) O T.length = L := ⟨_, rfl⟩
  have hLl : L.length = 73 := by rw [← hL]; exact hcells_length _ _ _ hO
  have hL1 : Hid (L.toArray.all (·.oneCell') = true) := Lib.hid (by rw [← hL]; exact hcells_one _ _ _)
  rw [hL] at hrow hw1
  have Hrow := Lib.hid hrow
  have HW1 := Lib.hid hw1
  have Hi := Lib.hid (show (Tryd.prog.info? 45).map (·.size) = some L.toArray.size by rw [show L.toArray.size = 73 by rw [List.size_toArray, hLl]]; exact szof45)
  have Hth := Lib.hid (show (w.alloc (.cells Z45 45)).there w.heap.size 0 L.toArray.size by
    rw [show L.toArray.size = 73 by rw [List.size_toArray, hLl]]
    exact fun j hj => ⟨by rw [cell_of_row _ _ _ _ 45 _ (heap_alloc_new w _)]; simp [size45]; omega, frozen_of_row _ _ _ _ 45 (heap_alloc_new w _)⟩)
  have HH1 := Lib.hid hH1
  have hz := zero45
  clear hrow hw1 hL hLl hH hH1 hO hOt
  go_enter Tryd.func16, Tryd.ntmps16
  go_wp2_with (first
    | (refine wpList_load_row rfl 45 _ rfl _ rfl 45 _ (0, 0) _ Hrow.out Tryd.underlying45 rfl Hi.out ?_)
    | (refine wpList_store_mid rfl 45 (.tmp 3) (.tmp 8) rfl w.heap.size 0 L.toArray rfl rfl Hth.out Hi.out hL1.out ?_; rw [List.toList_toArray, HW1.out]))
  go_ret
  exact ⟨rfl, HH1.out, hB1⟩

set_option maxHeartbeats 400000 in
theorem shaSum_any (S : List UInt8) (w : World) (hg : Glob w) (hlen : S.length < 100000000000) :
    Calls Tryd.prog 8 #[.string ⟨S.toArray⟩] w fun e w' => e = .returned (.string ⟨(shaL S).toArray⟩) ∧ Below w.heap.size w w' := by
  have hsz := hg.size
  go_enter Tryd.func8, Tryd.ntmps8
  go_wp2_with fail
  refine (new_any w hg).mono ?_
  rintro e w1 ⟨rfl, hH1, hB1⟩
  have hG1 : Glob w1 := hg.below (by omega) hB1
  go_wp2_with fail
  refine (write_any w.heap.size [] S w1 hH1 hG1 (by omega) (by simp; omega)).mono ?_
  rintro e w2 ⟨rfl, hH2, hB2⟩
  rw [List.nil_append] at hH2
  have hB12 : Below w.heap.size w w2 := hB1.trans (hB2.below hB1.size (Nat.le_refl _))
  have hG2 : Glob w2 := hg.below (by omega) hB12
  go_wp2_with fail
  refine (sum_any w.heap.size S w2 hH2 hG2 (by omega)).mono ?_
  rintro e w3 ⟨rfl, hB3⟩
  go_wp2
  go_ret
  exact ⟨rfl, hB12.trans (hB3.mono (by have := hB12.size; omega))⟩
end Go.Proofs.YtbeiflcmnmfggaaDoor
