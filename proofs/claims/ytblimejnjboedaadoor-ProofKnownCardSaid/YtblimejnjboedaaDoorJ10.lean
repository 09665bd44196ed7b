/- Where nothing is needed; the depth; the reference's. -/
import Derived.Test.YtblimejnjboedaaDoorJ9
import Derived.Test.YtblimejnjboedaaDoorJ1
import Derived.Sort.LotA
namespace Go.Proofs.YtblimejnjboedaaDoor
open Go.RowKit Go.Sort

theorem needs_none (ao : Option Addr) (cap : Nat) (L : List Nat) (d : Int) (w : World) (hN : Nums ao L w) (hn : L.length ≤ 100000) (hs : L = [] ∨ ∃ x ∈ L, standsB x d = false) :
    Calls Tryd.prog 18 #[.slice ao L.length cap, .int .i64 d] w fun e w' => e = .returned (.slice none 0 0) ∧ Below w.heap.size w w' := by
  obtain ⟨w1, hw1⟩ : ∃ w1, w.alloc (.cells #[.int .i64 d] 3) = w1 := ⟨_, rfl⟩
  have hN1 : Nums ao L w1 := by rw [← hw1]; exact hN.grown (World.grownBy_alloc _ _ none) (fun _ _ _ => by simp)
  have hc1 : w1.cell? ⟨w.heap.size, 0, none⟩ = some (.int .i64 d) := by rw [← hw1]; simp
  have HB := Lib.hid (show Below w.heap.size w w1 by rw [← hw1]; exact (Below.refl _ _).alloc (Nat.le_refl _) _)
  have HC := Lib.hid (contains_any ao cap L w.heap.size d w1 hN1 hn hc1)
  have hany : L = [] ∨ (L.any fun x => !standsB x d) = true := by
    rcases hs with h | ⟨x, hx, h⟩
    · exact .inl h
    · exact .inr (List.any_eq_true.2 ⟨x, hx, by simp [h]⟩)
  generalize (L.any fun x => !standsB x d) = y at *
  clear hN hN1 hs
  by_cases h0 : L = []
  · subst h0
    have hl0 : ((([] : List Nat).length : Int) == 0) = true := by simp
    go_enter Tryd.func18, Tryd.ntmps18
    go_wp2
    go_ret
    exact ⟨rfl, HB.out⟩
  · have hl0 : ((L.length : Int) == 0) = false := by rw [beq_eq_false_iff_ne]; have := List.length_pos_iff.2 h0; omega
    have hy : y = true := by rcases hany with h | h; exact absurd h h0; exact h
    subst hy
    clear hany
    go_enter Tryd.func18, Tryd.ntmps18
    go_wp2_with (go_at_call 36; refine HC.out.mono ?_; rintro e w2 ⟨rfl, rfl⟩)
    go_ret
    exact ⟨rfl, HB.out⟩

end Go.Proofs.YtblimejnjboedaaDoor
/- Rows of rows of numbers. -/
namespace Go.Proofs.YtblimejnjboedaaDoor
open Go.RowKit Go.Sort

/-- the slice at ao lays the rows M -/
def Rows2 (ao : Option Addr) (M : List (List Nat)) (w : World) : Prop :=
  M = [] ∨ ∃ b off, ao = some ⟨b, off, none⟩ ∧ ∀ i (h : i < M.length), ∃ ai ci, w.cell? ⟨b, off + i, none⟩ = some (.slice ai (M[i]).length ci) ∧ Nums ai M[i] w
theorem drewN_add (w : World) (a b : Nat) : (w.drewN a).drewN b = w.drewN (a + b) := by simp [World.drewN, Nat.add_assoc]
theorem nums_drawn {ao : Option Addr} {L : List Nat} {w : World} (h : Nums ao L w) (q : Nat) : Nums ao L (w.drewN q) := h
theorem rows_drawn {ao : Option Addr} {M : List (List Nat)} {w : World} (h : Rows2 ao M w) (q : Nat) : Rows2 ao M (w.drewN q) := h
theorem nums_at {ao : Option Addr} {L : List Nat} {w : World} (h : Nums ao L w) (k : Nat) (hk : k < L.length) : ∃ b off, ao = some ⟨b, off, none⟩ ∧ w.cell? ⟨b, off + k, none⟩ = some (.int .u64 (L[k] : Int)) := by
  rcases h with h | ⟨b, off, h1, _, h3⟩
  · subst h; simp at hk
  · exact ⟨b, off, h1, h3 k hk⟩
theorem rows_at {ao : Option Addr} {M : List (List Nat)} {w : World} (h : Rows2 ao M w) (k : Nat) (hk : k < M.length) : ∃ b off ai ci, ao = some ⟨b, off, none⟩ ∧ w.cell? ⟨b, off + k, none⟩ = some (.slice ai (M[k]).length ci) ∧ Nums ai M[k] w := by
  rcases h with h | ⟨b, off, h1, h3⟩
  · subst h; simp at hk
  · obtain ⟨ai, ci, h4, h5⟩ := h3 k hk
    exact ⟨b, off, ai, ci, h1, h4, h5⟩
end Go.Proofs.YtblimejnjboedaaDoor
/- Rows of numbers: what is kept; closed levels. -/
namespace Go.Proofs.YtblimejnjboedaaDoor
open Go.RowKit Go.Sort

theorem nums_next {ao : Option Addr} {L : List Nat} {w w' : World} (h : Nums ao L w) (hb : Below w.heap.size w w') : Nums ao L w' := by
  rcases h with h | ⟨b, off, rfl, h2, h3⟩
  · exact .inl h
  · exact .inr ⟨b, off, rfl, by have := hb.size; omega, fun i hi => (hb.cell (p := ⟨b, off + i, none⟩) h2).trans (h3 i hi)⟩
theorem rows_next {ao : Option Addr} {M : List (List Nat)} {w w' : World} (h : Rows2 ao M w) (hb : Below w.heap.size w w') : Rows2 ao M w' := by
  rcases h with h | ⟨b, off, rfl, h3⟩
  · exact .inl h
  · refine .inr ⟨b, off, rfl, fun i hi => ?_⟩
    obtain ⟨ai, ci, h4, h5⟩ := h3 i hi
    exact ⟨ai, ci, (hb.cell (p := ⟨b, off + i, none⟩) (World.block_lt_of_cell? w _ h4)).trans h4, nums_next h5 hb⟩
/-- a closed level -/
theorem need_closed {K N : List Nat} (h1 : N.Pairwise (· < ·)) (h2 : ∀ x ∈ N, sib x ∈ K ∧ x ∉ K) (h3 : ∀ x ∈ K, sib x ∈ K ∨ sib x ∈ N) : Need K N :=
  ⟨h1, fun x => ⟨fun h => h2 x h, fun ⟨a, b⟩ => by
    have := h3 _ a
    rw [sib_sib] at this
    exact this.resolve_left b⟩⟩
theorem needs_closed {L : List Nat} {d : Nat} {M : List (List Nat)} (hl : M.length = d) (h : ∀ i, i < d → (M.getD i []).Pairwise (· < ·) ∧ (∀ x ∈ M.getD i [], sib x ∈ upTo L i ∧ x ∉ upTo L i) ∧ (∀ x ∈ upTo L i, sib x ∈ upTo L i ∨ sib x ∈ M.getD i [])) : Needs L d M :=
  ⟨hl, fun i N hN => by
    have hi := (List.getElem?_eq_some_iff.1 hN).1
    have hg : M.getD i [] = N := by rw [List.getD_eq_getElem?_getD, hN]; rfl
    obtain ⟨a, b, c⟩ := h i (by omega)
    rw [hg] at a b c
    exact need_closed a b c⟩
theorem nums_lit {w : World} {b : Nat} {L : List Nat} {cs : Array Value} {T : TypeId} {fr : Nat × Nat} (h : w.heap[b]? = some (.cells cs T fr)) (hc : cs = (L.map encU).toArray) : Nums (some ⟨b, 0, none⟩) L w := by
  refine .inr ⟨b, 0, rfl, (Array.getElem?_eq_some_iff.1 h).1, fun i hi => ?_⟩
  subst hc
  simp [World.cell?, h, hi, encU]
theorem alloc_new (w : World) (o : Obj) {B : Nat} (hB : B = w.heap.size) : (w.alloc o).heap[B]? = some o := by subst hB; exact World.alloc_heap_new w o
theorem alloc_old (w : World) (o : Obj) {b : Nat} (hb : b < w.heap.size) : (w.alloc o).heap[b]? = w.heap[b]? := Below.heap_alloc _ _ _ hb
end Go.Proofs.YtblimejnjboedaaDoor
/- Sorting a row of numbers in place, of up to forty-nine: what is kept, what an order is. -/
namespace Go.Proofs.YtblimejnjboedaaDoor
open Go.RowKit Go.Sort

/-- in order from a on, up to b -/
def Srt (a b : Nat) (d : Array Nat) : Prop := ∀ p q, a ≤ p → p < q → q < b → d[p]! ≤ d[q]!
/-- nothing from a on, up to b, is less than what lies ahead of it -/
def Low (a b : Nat) (d : Array Nat) : Prop := a = 0 ∨ ∀ t, a ≤ t → t < b → d[a - 1]! ≤ d[t]!
/-- block b holds the n numbers of dk in its first cells, and all else is as it was at w0 -/
structure Rw (w0 : World) (b : Nat) (c0 : Array Value) (n : Nat) (dk : Array Nat) (wr : World) : Prop where
  size : dk.size = n
  room : n ≤ c0.size
  blk : wr.heap[b]? = some (.cells (putCells encU 0 dk c0) 33 (0, 0))
  kept : w0.grownBy wr (some b)
  old : b < w0.heap.size
theorem Rw.cell {w0 wr : World} {b n : Nat} {c0 : Array Value} {dk : Array Nat} (h : Rw w0 b c0 n dk wr) (t : Nat) (ht : t < n) : wr.cell? ⟨b, t, none⟩ = some (.int .u64 (dk[t]! : Int)) := by
  have := h.room
  rw [lit_cell h.blk]
  simp [putCells, encU, h.size, ht, show t < c0.size by omega]
theorem Rw.free {w0 wr : World} {b n : Nat} {c0 : Array Value} {dk : Array Nat} (h : Rw w0 b c0 n dk wr) (t : Nat) : wr.frozen? ⟨b, t, none⟩ = false := lit_free h.blk t
theorem Rw.drewN {w0 wr : World} {b n : Nat} {c0 : Array Value} {dk : Array Nat} (h : Rw w0 b c0 n dk wr) (q : Nat) : Rw w0 b c0 n dk (wr.drewN q) :=
  ⟨h.size, h.room, h.blk, ⟨h.kept.os, h.kept.tape, h.kept.output, h.kept.size, h.kept.block⟩, h.old⟩
theorem Rw.drew {w0 wr : World} {b n : Nat} {c0 : Array Value} {dk : Array Nat} (h : Rw w0 b c0 n dk wr) : Rw w0 b c0 n dk wr.drew :=
  ⟨h.size, h.room, h.blk, ⟨h.kept.os, h.kept.tape, h.kept.output, h.kept.size, h.kept.block⟩, h.old⟩
theorem Rw.lt {w0 wr : World} {b n : Nat} {c0 : Array Value} {dk : Array Nat} (h : Rw w0 b c0 n dk wr) : b < wr.heap.size := (Array.getElem?_eq_some_iff.1 h.blk).1
theorem Rw.alloc {w0 wr : World} {b n : Nat} {c0 : Array Value} {dk : Array Nat} (h : Rw w0 b c0 n dk wr) (o : Obj) : Rw w0 b c0 n dk (wr.alloc o) :=
  ⟨h.size, h.room, (alloc_old wr o h.lt).trans h.blk, h.kept.andThen (World.grownBy_alloc wr o none) (fun j e => by cases e), h.old⟩
/-- a store into a block that was made since -/
theorem Rw.store {w0 wr : World} {b n l : Nat} {c0 : Array Value} {dk : Array Nat} (h : Rw w0 b c0 n dk wr) (hl : w0.heap.size ≤ l) (o : Nat) (v : Value) : Rw w0 b c0 n dk (wr.setCell ⟨l, o, none⟩ v) := by
  have hne : b ≠ l := by have := h.old; omega
  refine ⟨h.size, h.room, (lit_far v hne).trans h.blk, ⟨h.kept.os, h.kept.tape, h.kept.output, ?_, fun j hj hn => ?_⟩, h.old⟩
  · rw [show (wr.setCell ⟨l, o, none⟩ v).heap.size = wr.heap.size from by simp [World.setCell]]; exact h.kept.size
  · exact (lit_far v (show j ≠ l by omega)).trans (h.kept.block j hj hn)
theorem Rw.swap {w0 wr : World} {b n : Nat} {c0 : Array Value} {dk : Array Nat} (h : Rw w0 b c0 n dk wr) (i j : Nat) (hi : i < n) (hj : j < n) :
    Rw w0 b c0 n (swp dk i j) ((wr.setCell ⟨b, i, none⟩ (encU dk[j]!)).setCell ⟨b, j, none⟩ (encU dk[i]!)) := by
  have hr := h.room
  have hs := h.size
  refine ⟨by rw [swp_size, h.size], h.room, ?_, ?_, h.old⟩
  · rw [lit_set _ (lit_set _ h.blk)]
    have e1 := putCells_set encU 0 dk c0 i dk[j]! (by omega)
    have e2 := putCells_set encU 0 (dk.setIfInBounds i dk[j]!) c0 j dk[i]! (by simp; omega)
    rw [Nat.zero_add] at e1 e2
    rw [e1, e2]
    rfl
  · refine ⟨h.kept.os, h.kept.tape, h.kept.output, ?_, fun k hk hn => ?_⟩
    · simp [World.setCell]; exact h.kept.size
    · have hne : k ≠ b := fun e => hn (by rw [e])
      exact ((lit_far _ hne).trans (lit_far _ hne)).trans (h.kept.block k hk hn)
end Go.Proofs.YtblimejnjboedaaDoor
