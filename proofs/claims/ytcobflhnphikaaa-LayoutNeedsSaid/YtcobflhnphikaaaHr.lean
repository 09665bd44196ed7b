/- The law's works: the chapter's rows. -/
import Derived.Test.YtcobflhnphikaaaHq
namespace Go.Proofs.Ytcobflhnphikaaa
open Go.RowKit Go.Sort

theorem nums_next {ao : Option Addr} {L : List Nat} {w w' : World} (h : Nums ao L w) (hb : Below w.heap.size w w') : Nums ao L w' := by
  rcases h with h | ⟨b, off, rfl, h2, h3⟩
  · exact .inl h
  · exact .inr ⟨b, off, rfl, by have := hb.size; omega, fun i hi => (hb.cell (p := ⟨b, off + i, none⟩) h2).trans (h3 i hi)⟩
theorem rows_next {ao : Option Addr} {M : List (List Nat)} {w w' : World} (h : Rows2 ao M w) (hb : Below w.heap.size w w') : Rows2 ao M w' := by
  rcases h with h | ⟨b, off, rfl, h3⟩
  · exact .inl h
  · refine .inr ⟨b, off, rfl, fun i hi => ?_⟩
    obtain ⟨ai, ci, h4, h5⟩ := h3 i hi
    exact ⟨ai, ci, (hb.cell (p := ⟨b, off + i, none⟩) (World.block_lt_of_cell? w _ h4)).trans h4, nums_next h5 hb⟩
theorem needs_law (ao : Option Addr) (cap : Nat) (L : List Nat) (d : Nat) (w : World) (hN : Nums ao L w) (hL : ∀ x ∈ L, x < 18446744073709551616) (h0 : L ≠ []) (hn : L.length ≤ 12) (hs : ∀ x ∈ L, standsB x (d : Int) = true) (hd : d ≤ 16) :
    Calls Try.prog 19 #[.slice ao L.length cap, .int .i64 (d : Int)] w fun e w' => ∃ (bo : Option Addr) (cp : Nat) (Ms : List (List Nat)), e = .returned (.slice bo Ms.length cp) ∧ Needs L d Ms ∧ (∀ N ∈ Ms, N.length ≤ 12) ∧ Rows2 bo Ms w' ∧ Below w.heap.size w w' := by
  refine (needs_any ao cap L d w hN hL h0 hn hs hd).mono ?_
  rintro e w' ⟨v, vs, Ms, rfl, hown, hMs, hrows, hb⟩
  have hvl : vs.length = d := by simpa using hown.1
  have hall : ∀ i N, Ms[i]? = some N → ∃ x, vs[i]? = some x ∧ w'.ownsRow w.heap.size 22 1 x N.length (N.map encU) ∧ Need12 (upTo L i) N := by
    intro i N hN'
    have hi := (List.getElem?_eq_some_iff.1 hN').1
    obtain ⟨x, hx⟩ : ∃ x, vs[i]? = some x := ⟨_, List.getElem?_eq_getElem (by omega)⟩
    exact ⟨x, hx, hrows i x N hx hN'⟩
  have hNd : Needs L d Ms := ⟨hMs, fun i N h => by obtain ⟨x, _, _, h3⟩ := hall i N h; exact h3.1⟩
  have h12 : ∀ N ∈ Ms, N.length ≤ 12 := fun N h => by
    obtain ⟨i, hi⟩ := List.getElem?_of_mem h
    obtain ⟨x, _, _, h3⟩ := hall i N hi
    exact h3.2
  have hown0 := hown
  rcases hown.2 with ⟨rfl, hd0⟩ | ⟨g, cp, cur, rfl, h1, h2, h3, h4, h5, h6⟩
  · exact ⟨none, 0, Ms, by rw [hMs, hd0], hNd, h12, .inl (List.length_eq_zero_iff.1 (by omega)), hb⟩
  · refine ⟨_, cp, Ms, by rw [hMs], hNd, h12, .inr ⟨g, 0, rfl, fun i hi => ?_⟩, hb⟩
    obtain ⟨x, hx, hrow, _⟩ := hall i Ms[i] (List.getElem?_eq_getElem hi)
    obtain ⟨ai, ci, rfl, hn3, _⟩ := nums_of_row hrow
    refine ⟨ai, ci, ?_, hn3⟩
    rw [Nat.zero_add]
    exact (hown0.cellAt i (by omega)).trans hx
/-- a closed level -/
theorem need_closed {K N : List Nat} (h1 : N.Pairwise (· < ·)) (h2 : ∀ x ∈ N, sib x ∈ K ∧ x ∉ K) (h3 : ∀ x ∈ K, sib x ∈ K ∨ sib x ∈ N) : Need K N :=
  ⟨h1, fun x => ⟨fun h => h2 x h, fun ⟨a, b⟩ => by
    have := h3 _ a
    rw [sib_sib] at this
    exact this.resolve_left b⟩⟩
theorem needs_closed {L : List Nat} {d : Nat} {M : List (List Nat)} (hl : M.length = d) (h : ∀ i, i < d → (M.getD i []).Pairwise (· < ·) ∧ (∀ x ∈ M.getD i [], sib x ∈ upTo L i ∧ x ∉ upTo L i) ∧ (∀ x ∈ upTo L i, sib x ∈ upTo L i ∨ sib x ∈ M.getD i [])) : Needs L d M :=
  ⟨hl, fun i N hN => by
    have hi := (List.getElem?_eq_some_iff.1 hN).1
    have hg : M.getD i [] = N := by rw [List.getD_eq_getElem?_getD, hN]; rfl
    obtain ⟨a, b, c⟩ := h i (by omega)
    rw [hg] at a b c
    exact need_closed a b c⟩
theorem worksM : Needs [5, 0] 3 [[1, 4], [1, 3], []] := needs_closed rfl (by decide)
theorem nums_lit {w : World} {b : Nat} {L : List Nat} {cs : Array Value} {T : TypeId} {fr : Nat × Nat} (h : w.heap[b]? = some (.cells cs T fr)) (hc : cs = (L.map encU).toArray) : Nums (some ⟨b, 0, none⟩) L w := by
  refine .inr ⟨b, 0, rfl, (Array.getElem?_eq_some_iff.1 h).1, fun i hi => ?_⟩
  subst hc
  simp [World.cell?, h, hi, encU]
theorem alloc_new (w : World) (o : Obj) {B : Nat} (hB : B = w.heap.size) : (w.alloc o).heap[B]? = some o := by subst hB; exact World.alloc_heap_new w o
theorem alloc_old (w : World) (o : Obj) {b : Nat} (hb : b < w.heap.size) : (w.alloc o).heap[b]? = w.heap[b]? := Below.heap_alloc _ _ _ hb
theorem works_same (w1 : World) (bo : Option Addr) (cp : Nat) (hR : Rows2 bo [[1, 4], [1, 3], []] w1) : Calls Try.prog 18 #[.slice bo 3 cp, .slice (some ⟨w1.heap.size + 1 + 1, 0, none⟩) 3 3]
    (((w1.alloc (.cells #[.int .u64 1, .int .u64 4] 22)).alloc (.cells #[.int .u64 1, .int .u64 3] 22)).alloc (.cells #[.slice (some ⟨w1.heap.size, 0, none⟩) 2 2, .slice (some ⟨w1.heap.size + 1, 0, none⟩) 2 2, .slice none 0 0] 28))
    fun e w' => e = .returned (.bool true) ∧ Below w1.heap.size w1 w' := by
  obtain ⟨W', hW'⟩ : ∃ W', ((w1.alloc (.cells #[.int .u64 1, .int .u64 4] 22)).alloc (.cells #[.int .u64 1, .int .u64 3] 22)).alloc (.cells #[.slice (some ⟨w1.heap.size, 0, none⟩) 2 2, .slice (some ⟨w1.heap.size + 1, 0, none⟩) 2 2, .slice none 0 0] 28) = W' := ⟨_, rfl⟩
  have g0 : W'.heap[w1.heap.size]? = some (.cells #[.int .u64 1, .int .u64 4] 22 (0, 0)) := by rw [← hW', alloc_old _ _ (by simp; omega), alloc_old _ _ (by simp)]; exact alloc_new _ _ rfl
  have g1 : W'.heap[w1.heap.size + 1]? = some (.cells #[.int .u64 1, .int .u64 3] 22 (0, 0)) := by rw [← hW', alloc_old _ _ (by simp)]; exact alloc_new _ _ (by simp)
  have g2 : W'.heap[w1.heap.size + 1 + 1]? = some (.cells #[.slice (some ⟨w1.heap.size, 0, none⟩) 2 2, .slice (some ⟨w1.heap.size + 1, 0, none⟩) 2 2, .slice none 0 0] 28 (0, 0)) := by rw [← hW']; exact alloc_new _ _ (by simp)
  have hb : Below w1.heap.size w1 W' := by rw [← hW']; exact (((Below.refl _ w1).alloc (Nat.le_refl _) _).alloc (by simp) _).alloc (by simp; omega) _
  rw [hW']
  have hr2 : Rows2 (some ⟨w1.heap.size + 1 + 1, 0, none⟩) [[1, 4], [1, 3], []] W' := by
    refine .inr ⟨_, 0, rfl, fun i hi => ?_⟩
    match i, hi with
    | 0, _ => exact ⟨_, 2, by simp [World.cell?, g2], nums_lit g0 rfl⟩
    | 1, _ => exact ⟨_, 2, by simp [World.cell?, g2], nums_lit g1 rfl⟩
    | 2, _ => exact ⟨none, 0, by simp [World.cell?, g2], .inl rfl⟩
  refine (same_any bo (some ⟨w1.heap.size + 1 + 1, 0, none⟩) cp 3 [[1, 4], [1, 3], []] [[1, 4], [1, 3], []] W' (rows_next hR hb) hr2 (by decide) (by decide) (by decide) (by decide)).mono ?_
  rintro e w' ⟨rfl, q, rfl⟩
  exact ⟨by simp, hb.trans ⟨rfl, rfl, rfl, Nat.le_refl _, fun _ _ => rfl⟩⟩
set_option maxRecDepth 100000 in
set_option maxHeartbeats 2000000 in
theorem works_any (w : World) : Calls Try.prog 17 #[] w fun e w' => e = .returned (.bool true) ∧ Below w.heap.size w w' := by
  obtain ⟨w0, hw0⟩ : ∃ w0, w.alloc (.cells #[.int .u64 5, .int .u64 0] 22) = w0 := ⟨_, rfl⟩
  have hn0 : Nums (some ⟨w.heap.size, 0, none⟩) [5, 0] w0 := nums_lit (by rw [← hw0]; exact alloc_new _ _ rfl) rfl
  have hb0 : Below w.heap.size w w0 := by rw [← hw0]; exact (Below.refl _ _).alloc (Nat.le_refl _) _
  have HN := Lib.hid (show Calls Try.prog 19 #[.slice (some ⟨w.heap.size, 0, none⟩) 2 2, .int .i64 3] w0 _ from needs_law _ 2 [5, 0] 3 w0 hn0 (by decide) (by decide) (by decide) (by decide) (by decide))
  have HB0 := Lib.hid hb0
  have HD := Lib.hid (fun w => show Calls Try.prog 8 #[.int .i64 5] w fun e w' => e = .returned (.int .i64 3) ∧ w = w' from depth_any 5 (by decide) w)
  have HL := Lib.hid (fun w => show Calls Try.prog 10 #[.int .u64 6, .int .i64 3] w fun e w' => e = .returned (.int .u64 3) ∧ w = w' from leaf_any 6 (by decide) 3 w)
  have HE := Lib.hid (fun w => show Calls Try.prog 12 #[.int .u64 4, .int .i64 3] w fun e w' => e = .returned (.int .u64 1) ∧ w = w' from element_any 4 (by decide) 3 w)
  clear hn0 hb0
  go_enter Try.func17, Try.ntmps17
  go_wp2_with (first
    | (go_at_call 19; refine HN.out.mono ?_; rintro e w1 ⟨bo, cp, Ms, rfl, hN, h12, hR, hb1⟩; obtain rfl := hN.eq worksM;
       have HR := Lib.hid hR; have HB1 := Lib.hid (HB0.out.trans (hb1.mono HB0.out.size)); clear hN h12 hR hb1)
    | (go_at_call 18; refine (works_same _ _ _ HR.out).mono ?_; rintro e w2 ⟨rfl, hb2⟩; have HB2 := Lib.hid (HB1.out.trans (hb2.mono HB1.out.size)); clear hb2)
    | (go_at_call 8; refine (HD.out _).mono ?_; rintro e w2 ⟨rfl, rfl⟩)
    | (go_at_call 10; refine (HL.out _).mono ?_; rintro e w2 ⟨rfl, rfl⟩)
    | (go_at_call 12; refine (HE.out _).mono ?_; rintro e w2 ⟨rfl, rfl⟩))
  go_ret
  exact ⟨rfl, HB2.out⟩
end Go.Proofs.Ytcobflhnphikaaa
