/- The closed statement's facts: a digest whose bytes are all 255. -/
import Derived.Test.YtpbbpkflljcklaaDoorJXj0
import Derived.Test.YtpbbpkflljcklaaDoorJXl0
namespace Go.Proofs.YtpbbpkflljcklaaDoor
open Go.RowKit

def fT : (List UInt8) := List.replicate 32 255
def sdT : (List UInt8) := [115, 101, 101, 100]
def bigN : Nat := 18446744073709551615
theorem fT_len : fT.length = 32 := by simp [fT]
theorem fT_all : ((List.range 64).all fun i => dgt fT i == 15) = true := by decide +kernel
theorem fT_15 (i : Nat) (h : i < 64) : dgt fT i = 15 := by simpa using List.all_eq_true.1 fT_all i (List.mem_range.2 h)
theorem fT_64 : dgt fT 64 = 0 ∧ dgt fT 65 = 0 ∧ dgt fT 66 = 0 := by decide +kernel
/-- k bytes of 255, the rest noughts -/
def repF (k : Nat) : (List UInt8) := List.replicate k 255 ++ List.replicate (32 - k) 0
theorem repF_0 : repF 0 = zT := rfl
theorem repF_32 : repF 32 = fT := rfl
theorem repF_len (k : Nat) (h : k ≤ 32) : (repF k).length = 32 := by rw [repF, List.length_append, List.length_replicate, List.length_replicate]; omega
theorem repF_set (k : Nat) (h : k < 32) : (repF k).set k 255 = repF (k + 1) := by
  obtain ⟨m, hm⟩ : ∃ m, 32 - k = m + 1 := ⟨31 - k, by omega⟩
  rw [repF, repF, hm, List.set_append_right _ _ (by rw [List.length_replicate]; exact Nat.le_refl _), List.length_replicate, Nat.sub_self, List.replicate_succ, List.set_cons_zero, show 32 - (k + 1) = m by omega, List.replicate_succ', List.append_assoc]
  rfl
theorem fsig_len : (sigL sdT bigN fT).length = 67 := by rw [sigL, row67_len]
theorem fsig_at (i : Nat) (h : i < 64) : (sigL sdT bigN fT).getD i [] = walkV i 0 15 (secF sdT bigN i) := by
  rw [sigL, row67_getD _ i (by omega), fT_15 i h]; rfl
theorem fsig_64 : (sigL sdT bigN fT).getD 64 [] = secF sdT bigN 64 := by
  rw [sigL, row67_getD _ 64 (by decide), fT_64.1]
  exact walkV_self 64 0 _ (by decide) (by decide)
theorem fsig_65 : (sigL sdT bigN fT).getD 65 [] = secF sdT bigN 65 := by
  rw [sigL, row67_getD _ 65 (by decide), fT_64.2.1]
  exact walkV_self 65 0 _ (by decide) (by decide)
theorem fsig_66 : (sigL sdT bigN fT).getD 66 [] = secF sdT bigN 66 := by
  rw [sigL, row67_getD _ 66 (by decide), fT_64.2.2]
  exact walkV_self 66 0 _ (by decide) (by decide)
theorem frec_nil : recC [] fT = ([], 10) := recC_sig fT_len rfl
theorem frec_68 (x : (List UInt8)) : recC (sigL sdT bigN fT ++ [x]) fT = ([], 10) := recC_sig fT_len (isSig_len (by rw [List.length_append, fsig_len]; simp))
theorem fpub_len : (pubF [] 0).length = 32 := hash_is32 _ _ (by decide)
end Go.Proofs.YtpbbpkflljcklaaDoor
