/- The example's facts: a digest of thirty-two noughts. -/
import Derived.Test.YtpbbpkflljcklaaDoorJXj0
namespace Go.Proofs.YtpbbpkflljcklaaDoor
open Go.RowKit

def zT : (List UInt8) := List.replicate 32 0
def sT : (List UInt8) := [115]
theorem zT_len : zT.length = 32 := by simp [zT]
theorem zT_66 : dgt zT 66 = 0 := by decide +kernel
theorem zT_0 : dgt zT 0 = 0 := by decide +kernel
theorem zsig_66 : (sigL sT 3 zT).getD 66 [] = secF sT 3 66 := by
  rw [sigL, row67_getD _ 66 (by decide), zT_66]
  exact walkV_self 66 0 _ (by decide) (by decide)
theorem zsig_0 : (sigL sT 3 zT).getD 0 [] = secF sT 3 0 := by
  rw [sigL, row67_getD _ 0 (by decide), zT_0]
  exact walkV_self 0 0 _ (by decide) (by decide)
theorem zsig_len : (sigL sT 3 zT).length = 67 := by rw [sigL, row67_len]
theorem zrec_66 : recC ((sigL sT 3 zT).take 66) zT = ([], 10) := recC_sig zT_len (isSig_len (by rw [List.length_take, zsig_len]; decide))
theorem zrec_5 (x : (List UInt8)) (hx : x.length = 31) : recC ((sigL sT 3 zT).set 5 x) zT = ([], 10) := recC_sig zT_len (isSig_no (k := 5) (by rw [List.length_set, zsig_len]; decide) (by rw [List.getElem_set_self, hx]; decide))
theorem zrec_nil (g : List (List UInt8)) : recC g [] = ([], 2) := recC_arg (by decide)
theorem zsign_1 : signC sT 3 (List.replicate 31 0) = ([], 2) := signC_no (by decide)
theorem zsig_5 : ((sigL sT 3 zT).getD 5 []).length = 32 := by
  rw [sigL, row67_getD _ 5 (by decide)]
  exact walkV_32 5 _ _ (by decide) (dgt_le zT_len (by decide)) (secF_32 _ _ _)
end Go.Proofs.YtpbbpkflljcklaaDoor
