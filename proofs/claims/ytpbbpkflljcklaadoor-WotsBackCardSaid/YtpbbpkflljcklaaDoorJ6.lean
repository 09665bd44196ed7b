/- What the program's digits and walk are to do, as a hypothesis of the laws' walks. -/
import Derived.Test.YtpbbpkflljcklaaDoorJ5
import Derived.Deep.Cut
namespace Go.Proofs.YtpbbpkflljcklaaDoor
open Go.RowKit

theorem Ints.get {ao : Option Addr} {L : List Nat} {w : World} (h : Ints ao L w) (hl : 0 < L.length) : ∃ b off, ao = some ⟨b, off, none⟩ ∧ ∀ k x : Nat, L[k]? = some x → w.cell? ⟨b, off + k, none⟩ = some (.int .i64 (x : Int)) := by
  rcases h with rfl | ⟨b, off, h1, h2, h3⟩
  · simp at hl
  · refine ⟨b, off, h1, fun k x hx => ?_⟩
    obtain ⟨hk, rfl⟩ := List.getElem?_eq_some_iff.1 hx
    exact h3 k hk
structure ChainC : Prop where
  d : ∀ (s : (List UInt8)) (w : World), Glob w → s.length ≤ maxLen → Calls Tryd.prog 18 #[.string ⟨s.toArray⟩] w fun e w' => ∃ ao cp, e = .returned (.slice ao (digC s).length cp) ∧ Ints ao (digC s) w' ∧ Below w.heap.size w w'
  k : ∀ (i a b : Int) (x : (List UInt8)) (w : World), Glob w → x.length ≤ 10000000 → Calls Tryd.prog 19 #[.int .i64 i, .int .i64 a, .int .i64 b, .string ⟨x.toArray⟩] w fun e w' => e = .returned (.string ⟨(walkV i a b x).toArray⟩) ∧ Below w.heap.size w w'
end Go.Proofs.YtpbbpkflljcklaaDoor
