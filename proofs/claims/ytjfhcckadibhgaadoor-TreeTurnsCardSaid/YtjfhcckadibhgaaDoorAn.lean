/- The document's tree: made, and made anew; lists that are cut. -/
import Derived.Test.YtjfhcckadibhgaaDoorAm
import Derived.Laws.AppendOwnNone
import Derived.Deep.RegionHeld3
import Derived.Deep.AppendLies
namespace Go.Proofs.YtjfhcckadibhgaaDoor
open Go.RowKit

theorem row_pos {w : World} {base e n : Nat} {v : Value} {xs : List Value} (h : w.ownsRow base e 1 v n xs) (hn : 0 < n) : ∃ (g cp : Nat) (cur : Array Value), v = .slice (some ⟨g, 0, none⟩) n cp ∧ base ≤ g ∧ w.heap[g]? = some (Obj.cells cur e (0, 0)) ∧ ∀ i, i < n → cur[i]? = xs[i]? := by
  obtain ⟨h1, ⟨h2, h3⟩ | ⟨g, cp, cur, rfl, h3, h4, h5, h6, h7⟩⟩ := h
  · omega
  · refine ⟨g, cp, cur, rfl, h3, h4, fun i hi => ?_⟩
    rw [← h7.2, List.getElem?_take_of_lt (by omega), Array.getElem?_toList]
/-- a document's tree, in memory of its own -/
def NewRef (L : List (List UInt8)) (lo : Nat) (w' : World) (t : Nat) : Prop := ∃ (g cp : Nat) (cs : Array Value), w'.heap[t]? = some (Obj.cells #[.slice (some ⟨g, 0, none⟩) L.length cp] 57 (0, 0)) ∧ lo ≤ g ∧ w'.heap[g]? = some (Obj.cells cs 9 (0, 0)) ∧ ∀ i (h : i < L.length), cs[i]? = some (.string ⟨L[i].toArray⟩)
theorem NewRef.ref {L : List (List UInt8)} {lo t : Nat} {w' : World} (h : NewRef L lo w' t) : RefM L w' t := by
  obtain ⟨g, cp, cs, h1, _, h2, h3⟩ := h
  exact ⟨.inr ⟨g, cp, cs, h1, h2, h3⟩⟩
theorem refBuild_bad (ao : Option Addr) (n cap : Nat) (w : World) (h : 65536 < n) : Calls Tryd.prog 10 #[.slice ao n cap] w fun e w' => e = .returned (.tuple #[.pointer none, .int .i64 3]) ∧ w = w' := by
  have h1 : (65536 : Int) < (n : Int) := by omega
  go_enter Tryd.func10, Tryd.ntmps10
  go_wp2
  exact bodyPost_ret (v := .tuple #[.pointer none, .int .i64 3]) (by simp [results, Tryd.results10, go_sem]) rfl ⟨rfl, rfl⟩
set_option maxRecDepth 100000 in
set_option maxHeartbeats 1000000 in
theorem refBuild_row (b off cap : Nat) (L : List (List UInt8)) (w : World) (h0 : L ≠ []) (hL : L.length ≤ 65536) (hb : b < w.heap.size) (hc : ∀ i (h : i < L.length), w.cell? ⟨b, off + i, none⟩ = some (.string ⟨L[i].toArray⟩)) :
    Calls Tryd.prog 10 #[.slice (some ⟨b, off, none⟩) L.length cap] w fun e w' => ∃ t, e = .returned (.tuple #[.pointer (some ⟨t, 0, none⟩), .int .i64 0]) ∧ w.heap.size ≤ t ∧ NewRef L w.heap.size w' t ∧ Below w.heap.size w w' := by
  obtain ⟨i0, hi, hz0, hz1, hz2⟩ := info_parts info_str
  have h1 : ¬ (65536 : Int) < (L.length : Int) := by omega
  have hpos := List.length_pos_iff.2 h0
  have HN0 := Lib.hid (heap_alloc_new w (.cells #[.slice none 0 0] 57))
  have HB0 := Lib.hid (by0 w (.cells #[.slice none 0 0] 57))
  have HZ : Hid ((w.alloc (.cells #[.slice none 0 0] 57)).heap.size = w.heap.size + 1) := Lib.hid (by simp)
  have HC : Hid (∀ j u, (strC L)[j]? = some u → (w.alloc (.cells #[.slice none 0 0] 57)).cell? ((⟨b, off, none⟩ : Addr).add j) = some u) := Lib.hid fun j u hj => by
    have hlt : j < L.length := by have := (List.getElem?_eq_some_iff.1 hj).1; rwa [strC_len] at this
    rw [strC_get hlt] at hj
    cases hj
    rw [Addr.add_mid]
    exact (World.cell?_of_block (a := ⟨b, off + j, none⟩) (HB0.out.block b hb)).trans (hc j hlt)
  clear hc hb
  go_enter Tryd.func10, Tryd.ntmps10
  go_upto_region 4 with fail
  change Code.wp _ _ _ _ (w.alloc (.cells #[.slice none 0 0] 57))
  generalize w.alloc (.cells #[.slice none 0 0] 57) = w1 at *
  have t0 := (lit_cell HN0.out 0).trans rfl
  have hzz := HZ.out
  go_wp2_with (at_builtin; (refine wpList_append_own _ rfl (.tmp 14) (.tmp 15) 22 rfl w1.heap.size 9 i0 (.string ⟨#[]⟩) 1 16 Tryd.underlying22 hi hz0 hz1 hz2 rfl (by decide) (.slice none 0 0) 0 [] rfl (World.ownsRow_nil _ _ _ _) ⟨b, off, none⟩ L.length cap (strC L) rfl (by rw [strC_len, Nat.mul_one]) HC.out (strC_one L) (by unfold maxLen; omega) (by omega) (Nat.le_refl _) ?_); intro v2 w2 hown2 hg2 hv2; rw [Nat.zero_add] at hown2; obtain ⟨g, cp, cur, rfl, hg0, hgh, hgc⟩ := row_pos hown2 hpos; have hx2 := (hg2.block w.heap.size (by omega) (by simp [Value.ownBlock])).trans HN0.out; have t2 := (lit_cell hx2 0).trans rfl; have f2 := lit_free hx2 0)
  have hb2 : Below w.heap.size w w2 := (HB0.out.trans ⟨hg2.os, hg2.tape, hg2.output, hg2.size, fun j hj => hg2.block j (by omega) (by simp [Value.ownBlock])⟩)
  refine bodyPost_ret (v := .tuple #[.pointer (some ⟨w.heap.size, 0, none⟩), .int .i64 0]) (by simp [results, Tryd.results10, go_sem]) rfl ⟨w.heap.size, rfl, Nat.le_refl _, ⟨g, cp, cur, lit_set _ hx2, by omega, ?_, fun i hi => ?_⟩, hb2.setCell (Nat.le_refl _) _⟩
  · exact (lit_far _ (by omega)).trans hgh
  · rw [hgc i hi]
    exact strC_get hi
theorem refBuild_none (w : World) : Calls Tryd.prog 10 #[.slice none 0 0] w fun e w' => e = .returned (.tuple #[.pointer (some ⟨w.heap.size, 0, none⟩), .int .i64 0]) ∧ w'.heap[w.heap.size]? = some (Obj.cells #[.slice none 0 0] 57 (0, 0)) ∧ Below w.heap.size w w' := by
  have hx := heap_alloc_new w (.cells #[.slice none 0 0] 57)
  have HX := Lib.hid hx
  have HB := Lib.hid (by0 w (.cells #[.slice none 0 0] 57))
  clear hx
  go_enter Tryd.func10, Tryd.ntmps10
  go_upto_region 4 with fail
  change Code.wp _ _ _ _ (w.alloc (.cells #[.slice none 0 0] 57))
  generalize w.alloc (.cells #[.slice none 0 0] 57) = w1 at *
  have t0 := (lit_cell HX.out 0).trans rfl
  have f0 := lit_free HX.out 0
  go_wp2_with fail
  exact bodyPost_ret (v := .tuple #[.pointer (some ⟨w.heap.size, 0, none⟩), .int .i64 0]) (by simp [results, Tryd.results10, go_sem]) rfl ⟨rfl, lit_set _ HX.out, HB.out.setCell (Nat.le_refl _) _⟩
theorem refBuild_any (ao : Option Addr) (cap : Nat) (L : List (List UInt8)) (w : World) (hL : L.length ≤ 65536) (hs : (L = [] ∧ ao = none ∧ cap = 0) ∨ (L ≠ [] ∧ Strs ao L w)) :
    Calls Tryd.prog 10 #[.slice ao L.length cap] w fun e w' => ∃ t, e = .returned (.tuple #[.pointer (some ⟨t, 0, none⟩), .int .i64 0]) ∧ RefM L w' t ∧ Below w.heap.size w w' := by
  rcases hs with ⟨rfl, rfl, rfl⟩ | ⟨h0, hs⟩
  · exact (refBuild_none w).mono fun e w' ⟨h1, h2, h3⟩ => ⟨_, h1, ⟨.inl ⟨rfl, h2⟩⟩, h3⟩
  · rcases hs with rfl | ⟨b, off, rfl, hb, hc⟩
    · exact absurd rfl h0
    · exact (refBuild_row b off cap L w h0 hL hb hc).mono fun e w' ⟨t, h1, _, h2, h3⟩ => ⟨t, h1, h2.ref, h3⟩
theorem refWith_bad (L : List (List UInt8)) (t i : Nat) (E : (List UInt8)) (w : World) (hT : RefM L w t) (hL : L.length ≤ 65536) (hi : L.length ≤ i) : Calls Tryd.prog 20 #[.pointer (some ⟨t, 0, none⟩), .int .u64 (i : Int), .string ⟨E.toArray⟩] w fun e w' => e = .returned (.tuple #[.pointer none, .int .i64 2]) ∧ w = w' := by
  obtain ⟨ao, cp, c0, _⟩ := hT.slice
  have hu : IntKind.u64.wrap (L.length : Int) = (L.length : Int) := by rw [IntKind.wrap_u64]; omega
  have hge : (L.length : Int) ≤ (i : Int) := by omega
  clear hT
  go_enter Tryd.func20, Tryd.ntmps20
  go_wp2
  exact bodyPost_ret (v := .tuple #[.pointer none, .int .i64 2]) (by simp [results, Tryd.results20, go_sem]) rfl ⟨rfl, rfl⟩
set_option maxRecDepth 100000 in
set_option maxHeartbeats 1000000 in
theorem refWith_any (L : List (List UInt8)) (t i : Nat) (E : (List UInt8)) (w : World) (hT : RefM L w t) (hL : L.length ≤ 65536) (hi : i < L.length) : Calls Tryd.prog 20 #[.pointer (some ⟨t, 0, none⟩), .int .u64 (i : Int), .string ⟨E.toArray⟩] w fun e w' => ∃ u, e = .returned (.tuple #[.pointer (some ⟨u, 0, none⟩), .int .i64 0]) ∧ RefM (L.set i E) w' u ∧ Below w.heap.size w w' := by
  have h0 : L ≠ [] := by rintro rfl; simp at hi
  have hu : IntKind.u64.wrap (L.length : Int) = (L.length : Int) := by rw [IntKind.wrap_u64]; omega
  have hge : ¬ (L.length : Int) ≤ (i : Int) := by omega
  have i0 : (0 : Int) ≤ (i : Int) := by omega
  have i1 : (i : Int) < (L.length : Int) := by omega
  obtain ⟨ao, cp, c0, hS⟩ := hT.slice
  have HB := Lib.hid (show Calls Tryd.prog 10 #[.slice ao L.length cp] w fun e w' => ∃ t, e = .returned (.tuple #[.pointer (some ⟨t, 0, none⟩), .int .i64 0]) ∧ w.heap.size ≤ t ∧ NewRef L w.heap.size w' t ∧ Below w.heap.size w w' from by
    rcases hS with rfl | ⟨b, off, rfl, hb, hc⟩
    · exact absurd rfl h0
    · exact refBuild_row b off cp L w h0 hL hb hc)
  clear hT hS h0
  go_enter Tryd.func20, Tryd.ntmps20
  go_upto_region 4 with (go_at_call 10; refine HB.out.mono ?_; rintro e w1 ⟨u, rfl, hu1, hN, hb1⟩)
  obtain ⟨g, cp2, cs, h1, h2, h3, h4⟩ := hN
  have d0 := (lit_cell h1 0).trans rfl
  have e0 := (lit_cell h3 i).trans (h4 i hi)
  have f0 := lit_free h3 i
  have HU : Hid (RefM (L.set i E) (w1.setCell ⟨g, i, none⟩ (.string ⟨E.toArray⟩)) u ∧ Below w.heap.size w (w1.setCell ⟨g, i, none⟩ (.string ⟨E.toArray⟩))) := Lib.hid ⟨⟨.inr ⟨g, cp2, _, by
    rw [List.length_set]
    exact (lit_far _ (by
      rintro rfl
      rw [h1] at h3
      cases h3)).trans h1, lit_set _ h3, fun j hj => by
    rw [List.length_set] at hj
    have hcj := h4 j hj
    have hjs := (Array.getElem?_eq_some_iff.1 hcj).1
    by_cases e : i = j
    · subst e
      rw [Array.getElem?_setIfInBounds_self_of_lt hjs, List.getElem_set_self]
    · rw [Array.getElem?_setIfInBounds_ne e, List.getElem_set_ne e]
      exact hcj⟩⟩, hb1.setCell h2 _⟩
  clear h1 h3 h4 hb1
  go_wp2
  exact bodyPost_ret (v := .tuple #[.pointer (some ⟨u, 0, none⟩), .int .i64 0]) (by simp [results, Tryd.results20, go_sem]) rfl ⟨u, rfl, HU.out⟩
end Go.Proofs.YtjfhcckadibhgaaDoor
