/- The law's WireCuts: its walk. -/
import Derived.Test.YtlhmmplkdjibkaaGreatDoorJ26
namespace Go.Proofs.YtlhmmplkdjibkaaGreatDoor
open Go.RowKit

theorem Nums.nx {ao : Option Addr} {L : List Nat} {w w' : World} (h : Nums ao L w) (hb : Below w.heap.size w w') : Nums ao L w' := by
  rcases h with h | ⟨b, off, h1, h2, h3⟩
  · exact .inl h
  · exact .inr ⟨b, off, h1, Nat.lt_of_lt_of_le h2 hb.size, fun i hi => (World.cell?_of_block (a := ⟨b, off + i, none⟩) (hb.block b h2)).trans (h3 i hi)⟩
theorem Revs.nx {ao : Option Addr} {L : List RevE} {w w' : World} (h : Revs ao L w) (hb : Below w.heap.size w w') : Revs ao L w' := by
  rcases h with h | ⟨b, off, h1, h2, h3⟩
  · exact .inl h
  · exact .inr ⟨b, off, h1, Nat.lt_of_lt_of_le h2 hb.size, fun i x hx j hj => (World.cell?_of_block (a := ⟨b, off + (i * 11 + j), none⟩) (hb.block b h2)).trans (h3 i x hx j hj)⟩
theorem CertM.nx {c : CertE} {w w' : World} (h : CertM c w) (hb : Below w.heap.size w w') : CertM c w' :=
  ⟨h.r.nx hb, fun x hx => ⟨(h.x x hx).1.below (Nat.le_refl _) hb, (h.x x hx).2.below (Nat.le_refl _) hb⟩, h.co.nx hb, h.s.below (Nat.le_refl _) hb, h.p.below (Nat.le_refl _) hb⟩
end Go.Proofs.YtlhmmplkdjibkaaGreatDoor
