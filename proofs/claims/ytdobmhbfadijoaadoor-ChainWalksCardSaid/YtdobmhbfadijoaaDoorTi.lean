/- New has read nothing; Sum answers the sum of what was read and changes nothing that was there. -/
import Derived.Test.YtdobmhbfadijoaaDoorTh
namespace Go.Proofs.YtdobmhbfadijoaaDoor
open Go.RowKit

/-- a hasher's cells, all nought -/
def Z45 : Array Value := (hcells ⟨0, 0, 0, 0, 0, 0, 0, 0⟩ (List.replicate 64 0) 0).toArray
theorem zero45 (w : World) : (zeroValue 73).run Tryd.prog w = .ok (.agg Z45) w := by kernel_rfl
theorem size45 : Z45.size = 73 := by kernel_rfl
theorem fill45 : ((((((((Z45.setIfInBounds 0 (Value.int IntKind.u32 (tn (IV.at 0)))).setIfInBounds 1 (Value.int IntKind.u32 (tn (IV.at 1)))).setIfInBounds 2 (Value.int IntKind.u32 (tn (IV.at 2)))).setIfInBounds 3 (Value.int IntKind.u32 (tn (IV.at 3)))).setIfInBounds 4 (Value.int IntKind.u32 (tn (IV.at 4)))).setIfInBounds 5 (Value.int IntKind.u32 (tn (IV.at 5)))).setIfInBounds 6 (Value.int IntKind.u32 (tn (IV.at 6)))).setIfInBounds 7 (Value.int IntKind.u32 (tn (IV.at 7)))) = (hcells IV (List.replicate 64 0) 0).toArray := by kernel_rfl

set_option maxRecDepth 100000 in
set_option maxHeartbeats 1000000 in
theorem new_any (w : World) (hg : Glob w) :
    Calls Tryd.prog 34 #[] w fun e w' => e = .returned (.pointer (some ⟨w.heap.size, 0, none⟩)) ∧ Has w.heap.size [] w' ∧ Below w.heap.size w w' := by
  have v0 := hg.iv 0 (by omega)
  have v1 := hg.iv 1 (by omega)
  have v2 := hg.iv 2 (by omega)
  have v3 := hg.iv 3 (by omega)
  have v4 := hg.iv 4 (by omega)
  have v5 := hg.iv 5 (by omega)
  have v6 := hg.iv 6 (by omega)
  have v7 := hg.iv 7 (by omega)
  have hz := zero45
  have hs := size45
  go_enter Tryd.func34, Tryd.ntmps34
  go_wp2
  go_ret
  refine ⟨rfl, ⟨List.replicate 64 0, by simp, by simp, ?_⟩, (Below.refl _ _).alloc (Nat.le_refl _) _⟩
  rw [heap_alloc_new, fill45]
  rfl

theorem hcells_one (s : St) (O : List UInt8) (n : Nat) : (hcells s O n).toArray.all (·.oneCell') = true := by
  apply all_oneCell_toArray
  intro v hv
  simp only [hcells, w8, cellsOf, List.mem_append, List.mem_map, List.mem_cons, List.not_mem_nil, or_false] at hv
  rcases hv with h | ⟨x, _, rfl⟩ | rfl
  · rcases h with rfl | rfl | rfl | rfl | rfl | rfl | rfl | rfl <;> rfl
  · rfl
  · rfl
theorem szof45 : (Tryd.prog.info? 73).map (·.size) = some 73 := by kernel_rfl

/-- the sum of a text -/
def shaL (T : List UInt8) : List UInt8 := digestTo (hw (T ++ padL T.length) ((T ++ padL T.length).length / 64)).at 8

theorem Has.below {b B : Nat} {T : List UInt8} {w w' : World} (h : Has b T w) (hb : b < B) (hB : Below B w w') : Has b T w' := by
  obtain ⟨O, h1, h2, h3⟩ := h
  exact ⟨O, h1, h2, (hB.block b hb).trans h3⟩
theorem Has.lt {b : Nat} {T : List UInt8} {w : World} (h : Has b T w) : b < w.heap.size := by
  obtain ⟨O, _, _, h3⟩ := h
  exact (Array.getElem?_eq_some_iff.1 h3).1
theorem Has.words {b : Nat} {T : List UInt8} {w : World} (h : Has b T w) : w.rangeAt b 0 (w8 (hw T (T.length / 64))) := by
  obtain ⟨O, _, _, h3⟩ := h
  intro j v hj
  rw [row_cell h3, Nat.zero_add, hcells, List.getElem?_append_left (List.getElem?_eq_some_iff.1 hj).1]; exact hj
theorem Has.sized {b : Nat} {T : List UInt8} {w : World} (h : Has b T w) : w.cell? ⟨b, 72, none⟩ = some (.int .u64 (T.length : Int)) := by
  obtain ⟨O, hO, _, h3⟩ := h
  rw [row_cell h3, hcells_at72 _ _ _ hO]
theorem padL_length (n : Nat) : (padL n).length < 100 := by
  have : noughts n < 64 := by unfold noughts; omega
  simp [padL, be64To]
  omega

/-- a copy of a hasher -/
theorem copied {T O : List UInt8} {w : World} (hO : O.length = 64) (hOt : O.take (T.length % 64) = T.drop (64 * (T.length / 64))) :
    Has w.heap.size T ((w.alloc (.cells Z45 73)).setCells w.heap.size 0 (hcells (hw T (T.length / 64)) O T.length)) := by
  refine ⟨O, hO, hOt, ?_⟩
  have h := heap_setCells_row (hcells (hw T (T.length / 64)) O T.length) 0 (hcells ⟨0, 0, 0, 0, 0, 0, 0, 0⟩ (List.replicate 64 0) 0) (w.alloc (.cells Z45 73)) (heap_alloc_new w _) (by rw [hcells_length _ _ _ hO, hcells_length _ _ _ (by simp)]; omega)
  rw [h]
  congr 3
  unfold splice
  rw [List.take_zero, List.nil_append, List.drop_of_length_le (by rw [hcells_length _ _ _ hO, hcells_length _ _ _ (by simp)]; omega), List.append_nil]

set_option maxRecDepth 100000 in
set_option maxHeartbeats 1000000 in
theorem sum_any (b : Nat) (T : List UInt8) (w : World) (hH : Has b T w) (hg : Glob w) (hlen : T.length < 100000000000) :
    Calls Tryd.prog 36 #[.pointer (some ⟨b, 0, none⟩)] w fun e w' => e = .returned (.string ⟨(shaL T).toArray⟩) ∧ Below w.heap.size w w' := by
  have hlt := hH.lt
  obtain ⟨O, hO, hOt, hrow⟩ := id hH
  obtain ⟨w1, hw1⟩ : ∃ w1, (w.alloc (.cells Z45 73)).setCells w.heap.size 0 (hcells (hw T (T.length / 64)) O T.length) = w1 := ⟨_, rfl⟩
  have hH1 : Has w.heap.size T w1 := hw1 ▸ copied hO hOt
  have hB1 : Below w.heap.size w w1 := hw1 ▸ Below_setCells ((Below.refl _ _).alloc (Nat.le_refl _) _) (Nat.le_refl _) 0 _
  have hc1 : w1.cell? ⟨b, 72, none⟩ = some (.int .u64 (T.length : Int)) := (hB1.cell (p := ⟨b, 72, none⟩) hlt).trans hH.sized
  have Hw1 := Lib.hid hw1
  obtain ⟨L, hL⟩ : ∃ L, hcells (hw T (T.length / 64)) O T.length = L := ⟨_, rfl⟩
  have hLl : L.length = 73 := by rw [← hL]; exact hcells_length _ _ _ hO
  have hL1 : Hid (L.toArray.all (·.oneCell') = true) := Lib.hid (by rw [← hL]; exact hcells_one _ _ _)
  rw [hL] at hrow hw1
  have Hrow := Lib.hid hrow
  have HW1 := Lib.hid hw1
  have Hi := Lib.hid (show (Tryd.prog.info? 73).map (·.size) = some L.toArray.size by rw [show L.toArray.size = 73 by rw [List.size_toArray, hLl]]; exact szof45)
  have Hth := Lib.hid (show (w.alloc (.cells Z45 73)).there w.heap.size 0 L.toArray.size by
    rw [show L.toArray.size = 73 by rw [List.size_toArray, hLl]]
    exact fun j hj => ⟨by rw [cell_of_row _ _ _ _ 73 _ (heap_alloc_new w _)]; simp [size45]; omega, frozen_of_row _ _ _ _ 73 (heap_alloc_new w _)⟩)
  have HH := Lib.hid hH
  have HH1 := Lib.hid hH1
  have hz := zero45
  have hg2 := hg.size
  clear hrow hw1 hL hLl hH hH1 hO hOt Hw1
  go_enter Tryd.func36, Tryd.ntmps36
  go_wp2_with (first
    | (refine wpList_load_row rfl 73 _ rfl _ rfl 73 _ (0, 0) _ Hrow.out Tryd.underlying73 rfl Hi.out ?_)
    | (refine wpList_store_mid rfl 73 (.tmp 3) (.tmp 8) rfl w.heap.size 0 L.toArray rfl rfl Hth.out Hi.out hL1.out ?_; rw [List.toList_toArray, HW1.out]))
  refine (padding_any T.length w1 (by omega)).mono ?_
  rintro e w2 ⟨rfl, hB2⟩
  have hH2 : Has w.heap.size T w2 := HH1.out.below HH1.out.lt hB2
  have hG2 : Glob w2 := hg.below (by omega) (hB1.trans (hB2.mono hB1.size))
  go_wp2_with fail
  refine (write_any w.heap.size T (padL T.length) w2 hH2 hG2 (by omega) (by have := padL_length T.length; omega)).mono ?_
  rintro e w3 ⟨rfl, hH3, hB3⟩
  obtain ⟨st, hst⟩ : ∃ st, hw (T ++ padL T.length) ((T ++ padL T.length).length / 64) = st := ⟨_, rfl⟩
  have Hr3 := Lib.hid hH3.words
  rw [hst] at Hr3
  have Hst := Lib.hid hst
  clear hst
  go_wp2_with (refine wpList_load_mid rfl 70 (.tmp 15) rfl w.heap.size 0 rfl (w8 st) _ Hr3.out Tryd.underlying70 rfl (by kernel_rfl) ?_)
  refine (digest_any (w8 st).toArray st.at w3 rfl (w8_at st)).mono ?_
  rintro e w4 ⟨rfl, hB4⟩
  go_wp2
  go_ret
  exact ⟨by rw [shaL, Hst.out]; rfl, ((hB1.trans (hB2.mono hB1.size)).trans (hB3.below (by have := hB1.size; have := hB2.size; omega) (Nat.le_refl _))).trans (hB4.mono (by have := hB1.size; have := hB2.size; have := hB3.size; omega))⟩
end Go.Proofs.YtdobmhbfadijoaaDoor
