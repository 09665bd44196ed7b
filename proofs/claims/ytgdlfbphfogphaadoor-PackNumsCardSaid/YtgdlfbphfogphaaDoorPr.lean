/- Text, Len, New; a writer that is none: all that is asked of a writer. -/
import Derived.Test.YtgdlfbphfogphaaDoorPz
namespace Go.Proofs.YtgdlfbphfogphaaDoor
open Go.RowKit

theorem text_of {w : World} {base : Nat} {v : Value} (L : List UInt8) (h : w.ownsRow base 5 1 v L.length (byV L)) : (convert 48 9 v).run Tryd.prog w = .ok (.string ⟨L.toArray⟩) w := by
  rcases h.2 with ⟨rfl, hn⟩ | ⟨g, cap, cur, rfl, hb, hg, hnc, hcm, hcs, ht⟩
  · have hL : L = [] := List.eq_nil_of_length_eq_zero hn
    subst hL
    rfl
  · exact run_convert_bytes_back (P := Tryd.prog) w 48 9 5 ⟨g, 0, none⟩ cap L Tryd.underlying48 Tryd.underlying5 Tryd.underlying9 (fun j hj => by
      rw [Addr.add_mid, Nat.zero_add, h.cellAt j (by omega), byV, List.getElem?_map, List.getElem?_eq_getElem hj]; rfl)
set_option maxRecDepth 100000 in
theorem text_any (B b : Nat) (L : List UInt8) (w : World) (hW : Wr B b L w) (_hL : L.length < 10000000) :
    Calls Tryd.prog 13 #[.pointer (some ⟨b, 0, none⟩)] w fun e w' => e = .returned (.string ⟨L.toArray⟩) ∧ Below w.heap.size w w' := by
  obtain ⟨v, h1, h2⟩ := hW.h
  obtain ⟨ao, ln, cp, rfl⟩ := slice_of_own h2
  have hc := text_of L h2
  have h0 := (lit_cell h1 0).trans rfl
  clear h1 h2 hW
  go_enter Tryd.func13, Tryd.ntmps13
  go_wp2
  go_ret
  exact ⟨rfl, Below.refl _ _⟩
set_option maxRecDepth 100000 in
theorem len_any (B b : Nat) (L : List UInt8) (w : World) (hW : Wr B b L w) (_hL : L.length < 10000000) :
    Calls Tryd.prog 12 #[.pointer (some ⟨b, 0, none⟩)] w fun e w' => e = .returned (.int .i64 (L.length : Int)) ∧ Below w.heap.size w w' := by
  obtain ⟨v, h1, h2⟩ := hW.h
  obtain ⟨ao, cp, rfl⟩ : ∃ ao cp, v = .slice ao L.length cp := by
    rcases h2.2 with ⟨rfl, hn⟩ | ⟨g, cap, cur, rfl, _⟩
    · exact ⟨none, 0, by rw [hn]⟩
    · exact ⟨_, _, rfl⟩
  have h0 := (lit_cell h1 0).trans rfl
  clear h1 h2 hW
  go_enter Tryd.func12, Tryd.ntmps12
  go_wp2
  go_ret
  exact ⟨rfl, Below.refl _ _⟩
set_option maxRecDepth 100000 in
theorem new_any (w : World) (hg : Glob w) : Calls Tryd.prog 8 #[] w fun e w' => ∃ b, e = .returned (.pointer (some ⟨b, 0, none⟩)) ∧ Wr w.heap.size b [] w' ∧ Below w.heap.size w w' := by
  have HW : Wr w.heap.size w.heap.size [] (w.alloc (.cells #[.slice none 0 0] 52)) :=
    ⟨hg.size, Nat.le_refl _, hg.next (by0 _ _), _, heap_alloc_new _ _, World.ownsRow_nil _ _ _ _⟩
  have HWH := Lib.hid HW
  clear HW hg
  go_enter Tryd.func8, Tryd.ntmps8
  go_wp2
  go_ret
  exact ⟨_, rfl, HWH.out, by0 _ _⟩
theorem pack_c : PackC Glob Wr where
  gb := fun h hb => h.next hb
  next := fun h hb => h.next hb
  size := fun h => by have := h.lt; have := h.hB; omega
  new := new_any
  num := fun B b L n w hW hL hn => num_any B b L n w hW hL hn
  bin := bin_any
  str := str_any
  list := list_any
  map := map_any
  text := text_any
  len := len_any

set_option maxRecDepth 100000 in
theorem nil_num (w : World) : Calls Tryd.prog 15 #[.pointer none, .int .u64 1] w fun e w' => e = .returned (.int .i64 1) ∧ Below w.heap.size w w' := by
  have HC := Lib.hid (lay_nil [] 0 1 w)
  go_enter Tryd.func15, Tryd.ntmps15
  go_wp2_with (go_at_call 28; refine HC.out.mono ?_; rintro e w1 ⟨rfl, h1⟩)
  go_ret
  exact ⟨rfl, h1⟩
set_option maxRecDepth 100000 in
theorem nil_bin (w : World) : Calls Tryd.prog 22 #[.pointer none, .string ⟨#[]⟩] w fun e w' => e = .returned (.int .i64 1) ∧ Below w.heap.size w w' := by
  have HC := Lib.hid (lay_nil [] 1 0 w)
  go_enter Tryd.func22, Tryd.ntmps22
  go_wp2_with (go_at_call 28; refine HC.out.mono ?_; rintro e w1 ⟨rfl, h1⟩)
  go_ret
  exact ⟨rfl, h1⟩
set_option maxRecDepth 100000 in
theorem nil_str (w : World) : Calls Tryd.prog 23 #[.pointer none, .string ⟨#[]⟩] w fun e w' => e = .returned (.int .i64 1) ∧ Below w.heap.size w w' := by
  have HC := Lib.hid (lay_nil [] 2 0 w)
  go_enter Tryd.func23, Tryd.ntmps23
  go_wp2_with (go_at_call 28; refine HC.out.mono ?_; rintro e w1 ⟨rfl, h1⟩)
  go_ret
  exact ⟨rfl, h1⟩
set_option maxRecDepth 100000 in
theorem nil_begin (s i : Int) (w : World) : Calls Tryd.prog 30 #[.pointer none, .int .i64 s, .int .i64 i] w fun e w' => e = .returned (.int .i64 1) ∧ Below w.heap.size w w' := by
  go_enter Tryd.func30, Tryd.ntmps30
  go_wp2
  go_ret
  exact ⟨rfl, Below.refl _ _⟩
set_option maxRecDepth 100000 in
theorem nil_list (w : World) : Calls Tryd.prog 20 #[.pointer none, .int .i64 (-1)] w fun e w' => e = .returned (.int .i64 1) ∧ Below w.heap.size w w' := by
  have HC := Lib.hid (nil_begin 3 (-1) w)
  go_enter Tryd.func20, Tryd.ntmps20
  go_wp2_with (go_at_call 30; refine HC.out.mono ?_; rintro e w1 ⟨rfl, h1⟩)
  go_ret
  exact ⟨rfl, h1⟩
set_option maxRecDepth 100000 in
theorem nil_map (w : World) : Calls Tryd.prog 21 #[.pointer none, .int .i64 1] w fun e w' => e = .returned (.int .i64 1) ∧ Below w.heap.size w w' := by
  have HC := Lib.hid (nil_begin 4 1 w)
  go_enter Tryd.func21, Tryd.ntmps21
  go_wp2_with (go_at_call 30; refine HC.out.mono ?_; rintro e w1 ⟨rfl, h1⟩)
  go_ret
  exact ⟨rfl, h1⟩
set_option maxRecDepth 100000 in
theorem nil_text (w : World) : Calls Tryd.prog 13 #[.pointer none] w fun e w' => e = .returned (.string ⟨#[]⟩) ∧ Below w.heap.size w w' := by
  go_enter Tryd.func13, Tryd.ntmps13
  go_wp2
  go_ret
  exact ⟨rfl, Below.refl _ _⟩
set_option maxRecDepth 100000 in
theorem nil_len (w : World) : Calls Tryd.prog 12 #[.pointer none] w fun e w' => e = .returned (.int .i64 0) ∧ Below w.heap.size w w' := by
  go_enter Tryd.func12, Tryd.ntmps12
  go_wp2
  go_ret
  exact ⟨rfl, Below.refl _ _⟩
theorem nil_c : NilC := ⟨nil_num, nil_bin, nil_str, nil_list, nil_map, nil_text, nil_len⟩
end Go.Proofs.YtgdlfbphfogphaaDoor
