/- Sorting a row of numbers in place, of up to forty-nine: what is kept, what an order is. -/
import Derived.Test.YtcobflhnphikaaaHx
import Derived.Sort.LotA
namespace Go.Proofs.Ytcobflhnphikaaa
open Go.RowKit Go.Sort

/-- in order from a on, up to b -/
def Srt (a b : Nat) (d : Array Nat) : Prop := ∀ p q, a ≤ p → p < q → q < b → d[p]! ≤ d[q]!
/-- nothing from a on, up to b, is less than what lies ahead of it -/
def Low (a b : Nat) (d : Array Nat) : Prop := a = 0 ∨ ∀ t, a ≤ t → t < b → d[a - 1]! ≤ d[t]!
/-- block b holds the n numbers of dk in its first cells, and all else is as it was at w0 -/
structure Rw (w0 : World) (b : Nat) (c0 : Array Value) (n : Nat) (dk : Array Nat) (wr : World) : Prop where
  size : dk.size = n
  room : n ≤ c0.size
  blk : wr.heap[b]? = some (.cells (putCells encU 0 dk c0) 22 (0, 0))
  kept : w0.grownBy wr (some b)
  old : b < w0.heap.size
theorem Rw.cell {w0 wr : World} {b n : Nat} {c0 : Array Value} {dk : Array Nat} (h : Rw w0 b c0 n dk wr) (t : Nat) (ht : t < n) : wr.cell? ⟨b, t, none⟩ = some (.int .u64 (dk[t]! : Int)) := by
  have := h.room
  rw [lit_cell h.blk]
  simp [putCells, encU, h.size, ht, show t < c0.size by omega]
theorem Rw.free {w0 wr : World} {b n : Nat} {c0 : Array Value} {dk : Array Nat} (h : Rw w0 b c0 n dk wr) (t : Nat) : wr.frozen? ⟨b, t, none⟩ = false := lit_free h.blk t
theorem Rw.drewN {w0 wr : World} {b n : Nat} {c0 : Array Value} {dk : Array Nat} (h : Rw w0 b c0 n dk wr) (q : Nat) : Rw w0 b c0 n dk (wr.drewN q) :=
  ⟨h.size, h.room, h.blk, ⟨h.kept.os, h.kept.tape, h.kept.output, h.kept.size, h.kept.block⟩, h.old⟩
theorem Rw.drew {w0 wr : World} {b n : Nat} {c0 : Array Value} {dk : Array Nat} (h : Rw w0 b c0 n dk wr) : Rw w0 b c0 n dk wr.drew :=
  ⟨h.size, h.room, h.blk, ⟨h.kept.os, h.kept.tape, h.kept.output, h.kept.size, h.kept.block⟩, h.old⟩
theorem Rw.lt {w0 wr : World} {b n : Nat} {c0 : Array Value} {dk : Array Nat} (h : Rw w0 b c0 n dk wr) : b < wr.heap.size := (Array.getElem?_eq_some_iff.1 h.blk).1
theorem Rw.alloc {w0 wr : World} {b n : Nat} {c0 : Array Value} {dk : Array Nat} (h : Rw w0 b c0 n dk wr) (o : Obj) : Rw w0 b c0 n dk (wr.alloc o) :=
  ⟨h.size, h.room, (alloc_old wr o h.lt).trans h.blk, h.kept.andThen (World.grownBy_alloc wr o none) (fun j e => by cases e), h.old⟩
/-- a store into a block that was made since -/
theorem Rw.store {w0 wr : World} {b n l : Nat} {c0 : Array Value} {dk : Array Nat} (h : Rw w0 b c0 n dk wr) (hl : w0.heap.size ≤ l) (o : Nat) (v : Value) : Rw w0 b c0 n dk (wr.setCell ⟨l, o, none⟩ v) := by
  have hne : b ≠ l := by have := h.old; omega
  refine ⟨h.size, h.room, (lit_far v hne).trans h.blk, ⟨h.kept.os, h.kept.tape, h.kept.output, ?_, fun j hj hn => ?_⟩, h.old⟩
  · rw [show (wr.setCell ⟨l, o, none⟩ v).heap.size = wr.heap.size from by simp [World.setCell]]; exact h.kept.size
  · exact (lit_far v (show j ≠ l by omega)).trans (h.kept.block j hj hn)
theorem Rw.swap {w0 wr : World} {b n : Nat} {c0 : Array Value} {dk : Array Nat} (h : Rw w0 b c0 n dk wr) (i j : Nat) (hi : i < n) (hj : j < n) :
    Rw w0 b c0 n (swp dk i j) ((wr.setCell ⟨b, i, none⟩ (encU dk[j]!)).setCell ⟨b, j, none⟩ (encU dk[i]!)) := by
  have hr := h.room
  have hs := h.size
  refine ⟨by rw [swp_size, h.size], h.room, ?_, ?_, h.old⟩
  · rw [lit_set _ (lit_set _ h.blk)]
    have e1 := putCells_set encU 0 dk c0 i dk[j]! (by omega)
    have e2 := putCells_set encU 0 (dk.setIfInBounds i dk[j]!) c0 j dk[i]! (by simp; omega)
    rw [Nat.zero_add] at e1 e2
    rw [e1, e2]
    rfl
  · refine ⟨h.kept.os, h.kept.tape, h.kept.output, ?_, fun k hk hn => ?_⟩
    · simp [World.setCell]; exact h.kept.size
    · have hne : k ≠ b := fun e => hn (by rw [e])
      exact ((lit_far _ hne).trans (lit_far _ hne)).trans (h.kept.block k hk hn)
end Go.Proofs.Ytcobflhnphikaaa
