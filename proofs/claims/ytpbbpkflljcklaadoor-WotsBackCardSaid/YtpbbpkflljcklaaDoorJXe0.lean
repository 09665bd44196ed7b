/- What Sign and Recover answer, case by case. -/
import Derived.Test.YtpbbpkflljcklaaDoorJXa
namespace Go.Proofs.YtpbbpkflljcklaaDoor
open Go.RowKit

theorem signC_yes {s : (List UInt8)} {n : Nat} {d : (List UInt8)} (h : d.length = 32) : signC s n d = (sigL s n d, 0) := if_pos h
theorem signC_no {s : (List UInt8)} {n : Nat} {d : (List UInt8)} (h : ¬ d.length = 32) : signC s n d = ([], 2) := if_neg h
theorem recC_arg {g : List (List UInt8)} {d : (List UInt8)} (h : ¬ d.length = 32) : recC g d = ([], 2) := if_neg h
theorem recC_sig {g : List (List UInt8)} {d : (List UInt8)} (h : d.length = 32) (hg : isSig g = false) : recC g d = ([], 10) := by rw [recC, if_pos h, hg]; rfl
theorem recC_yes {g : List (List UInt8)} {d : (List UInt8)} (h : d.length = 32) (hg : isSig g = true) : recC g d = (recF g d, 0) := by rw [recC, if_pos h, hg]; rfl
theorem isSig_len {g : List (List UInt8)} (h : ¬ g.length = 67) : isSig g = false := by simp [isSig, h]
theorem isSig_no {g : List (List UInt8)} {k : Nat} (hk : k < g.length) (h : ¬ g[k].length = 32) : isSig g = false := by
  rw [isSig, Bool.and_eq_false_iff]
  right
  rw [List.all_eq_false]
  exact ⟨_, List.getElem_mem hk, by simpa using h⟩
theorem isSig_yes {g : List (List UInt8)} (hl : g.length = 67) (h : ∀ k (hk : k < g.length), g[k].length = 32) : isSig g = true := by
  rw [isSig, Bool.and_eq_true]
  refine ⟨by simpa using hl, ?_⟩
  rw [List.all_eq_true]
  intro x hx
  obtain ⟨k, hk, rfl⟩ := List.getElem_of_mem hx
  simpa using h k hk
end Go.Proofs.YtpbbpkflljcklaaDoor
