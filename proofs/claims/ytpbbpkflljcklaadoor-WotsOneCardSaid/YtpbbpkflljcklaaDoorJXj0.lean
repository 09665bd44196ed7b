/- Lengths of what stands on chains; what comes of a signature. -/
import Derived.Test.YtpbbpkflljcklaaDoorJXe0
namespace Go.Proofs.YtpbbpkflljcklaaDoor
open Go.RowKit

theorem hash_is32 (tag : (List UInt8)) (L : List (List UInt8)) (h : Tag tag) : (hashL tag L).length = 32 := by rw [hashL, if_pos h]; exact shaL_length _
theorem secF_32 (s : (List UInt8)) (n i : Nat) : (secF s n i).length = 32 := hash_is32 _ _ (by decide)
theorem walkV_32 (i b : Nat) (x : (List UInt8)) (hi : i ≤ 66) (hb : b ≤ 15) (hx : x.length = 32) : (walkV i 0 b x).length = 32 := by
  have := walkV_nat i 0 b x hi (Nat.zero_le _) hb
  rw [show walkV (i : Int) 0 (b : Int) x = walkF i 0 (b - 0) x from this]
  cases b with
  | zero => exact hx
  | succ b => rw [Nat.sub_zero, walkF, stepF]; exact hash_is32 _ _ (by decide)
/-- what comes of a signature -/
theorem rec_back {s d : (List UInt8)} {n : Nat} (h : d.length = 32) : recC (sigL s n d) d = (pubF s n, 0) := by
  have hl67 : (sigL s n d).length = 67 := by rw [sigL, row67_len]
  have hs1 : isSig (sigL s n d) = true := isSig_yes hl67 (fun k hk => by rw [show (sigL s n d)[k] = walkV (k : Int) 0 (dgt d k : Nat) (secF s n k) from row67_get _ k (by omega)]; exact walkV_32 k _ _ (by omega) (dgt_le h (by omega)) (secF_32 _ _ _))
  rw [recC_yes h hs1, recF, rec_sig h]; rfl
theorem sig_short (s d : (List UInt8)) (n : Nat) : ∀ t ∈ sigL s n d, t.length ≤ 32 := by
  intro t ht
  obtain ⟨i, hi, rfl⟩ := List.mem_map.1 ht
  exact walkV_len32 i 0 _ _ (secF_len _ _ _)
end Go.Proofs.YtpbbpkflljcklaaDoor
