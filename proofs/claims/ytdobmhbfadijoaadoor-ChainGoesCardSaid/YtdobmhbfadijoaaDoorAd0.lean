/- The tags; digests are short; frames are short; small facts. -/
import Derived.Test.YtdobmhbfadijoaaDoorDc
namespace Go.Proofs.YtdobmhbfadijoaaDoor
open Go.RowKit

def leafT : (List UInt8) := [108, 101, 97, 102]
def nodeT : (List UInt8) := [110, 111, 100, 101]
def noneT : (List UInt8) := [110, 111, 110, 101]
theorem hashL_len (tag : (List UInt8)) (L : List (List UInt8)) : (hashL tag L).length ≤ 32 := by
  unfold hashL
  split
  · rw [shaL_length]; omega
  · simp
theorem framed_short (tag : (List UInt8)) (L : List (List UInt8)) (ht : tag.length ≤ 16) (hl : ∀ x ∈ L, x.length ≤ 10000000) (hn : L.length ≤ 100) : (framed tag L).length < 1100000000 := by
  have h1 : ∀ M : List (List UInt8), (∀ x ∈ M, x.length ≤ 10000000) → (M.flatMap partL).length ≤ 10000008 * M.length := by
    intro M
    induction M with
    | nil => simp
    | cons x M ih =>
      intro h
      have hx := h x (by simp)
      have := ih fun y hy => h y (by simp [hy])
      rw [List.flatMap_cons, List.length_append, List.length_cons]
      have hp : (partL x).length = 8 + x.length := by simp [partL, numL_length]
      omega
  have := h1 L hl
  simp only [framed, List.length_cons, List.length_append]
  omega
theorem strs_drew {ao : Option Addr} {L : List (List UInt8)} {w : World} (h : Strs ao L w) : Strs ao L w.drew := h.below (Nat.le_refl _) (Below.refl _ _).drew
theorem below_next {w wz wa : World} (h : Below w.heap.size w wz) (hb : Below wz.heap.size wz wa) : Below w.heap.size w wa := h.trans (hb.mono h.size)
theorem below_alloc {w wz : World} (h : Below w.heap.size w wz) (o : Obj) : Below w.heap.size w (wz.alloc o) := below_next h (by0 wz o)
end Go.Proofs.YtdobmhbfadijoaaDoor
