/- A list of texts in memory. -/
import Derived.Test.YtdobmhbfadijoaaDoorBa
namespace Go.Proofs.YtdobmhbfadijoaaDoor
open Go.RowKit

/-- the slice at ao lays the texts L -/
def Strs (ao : Option Addr) (L : List (List UInt8)) (w : World) : Prop :=
  L = [] ∨ ∃ b off, ao = some ⟨b, off, none⟩ ∧ b < w.heap.size ∧ ∀ i (h : i < L.length), w.cell? ⟨b, off + i, none⟩ = some (.string ⟨L[i].toArray⟩)
theorem Strs.below {ao : Option Addr} {L : List (List UInt8)} {w w' : World} {B : Nat} (h : Strs ao L w) (hB : w.heap.size ≤ B) (hb : Below B w w') : Strs ao L w' := by
  rcases h with h | ⟨b, off, h1, h2, h3⟩
  · exact .inl h
  · exact .inr ⟨b, off, h1, by have := hb.size; omega, fun i hi => (hb.cell (p := ⟨b, off + i, none⟩) (by show b < B; omega)).trans (h3 i hi)⟩
theorem Strs.cell {ao : Option Addr} {L : List (List UInt8)} {w : World} (h : Strs ao L w) (k : Nat) (hk : k < L.length) : ∃ b off, ao = some ⟨b, off, none⟩ ∧ w.cell? ⟨b, off + k, none⟩ = some (.string ⟨L[k].toArray⟩) := by
  rcases h with h | ⟨b, off, h1, h2, h3⟩
  · subst h; simp at hk
  · exact ⟨b, off, h1, h3 k hk⟩
end Go.Proofs.YtdobmhbfadijoaaDoor
