/- Layer 11's document: Root and Check, whatever they are given. -/
import Derived.Test.YtblimejnjboedaaGreatDoorJLj
namespace Go.Proofs.YtblimejnjboedaaGreatDoor
open Go.RowKit Go.Sort

theorem iroot_any (n : Int) (P : List Nat) (E R : List (List UInt8)) (ao bo po : Option Addr) (ca cb cp : Nat) (w : World) (hP : Nums ao P w) (hE : Strs bo E w) (hR : Strs po R w) (hpn : P.length ≤ 1000) (hen : E.length ≤ 100000) (hcp : R.length ≤ cp) (hrn : R.length ≤ 100000) (he : ∀ i (h : i < E.length), E[i].length ≤ 10000000) (hr : ∀ i (h : i < R.length), R[i].length ≤ 1000000000) :
    Calls Tryz.prog 7 #[.int .i64 n, .slice ao P.length ca, .slice bo E.length cb, .slice po R.length cp] w fun e w' => e = .returned (.tuple #[.string ⟨(rootV n P E R).1.toArray⟩, .int .i64 (rootV n P E R).2]) ∧ Below w.heap.size w w' := by
  by_cases hb : mayP n P = false ∨ E.length ≠ P.length
  · rw [show rootV n P E R = ([], 2) from if_pos hb]
    exact iroot_bad n P E R ao bo po ca cb cp w hP hpn hen hb
  · have h1 : mayP n P = true := by
      cases h : mayP n P
      · exact absurd (.inl h) hb
      · rfl
    obtain ⟨k, rfl, hk, hs⟩ := may_parts h1
    exact iroot_may k P E R ao bo po ca cb cp w hP hE hR hpn hk hs (Classical.byContradiction fun h => hb (.inr h)) hcp hrn he hr
end Go.Proofs.YtblimejnjboedaaGreatDoor
