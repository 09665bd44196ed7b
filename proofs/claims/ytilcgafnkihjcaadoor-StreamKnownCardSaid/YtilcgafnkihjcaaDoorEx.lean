/- The sums of closed texts of one block and of two, in the kernel's numbers. -/
import Derived.Test.YtilcgafnkihjcaaDoorEw
import Derived.Test.YtilcgafnkihjcaaDoorTk
namespace Go.Proofs.YtilcgafnkihjcaaDoor
open Go.RowKit

def word4N (x : Nat) : List UInt8 := [UInt8.ofNat (x >>> 24), UInt8.ofNat (x >>> 16), UInt8.ofNat (x >>> 8), UInt8.ofNat x]
theorem word4_nat (x : BitVec 32) : word4 x = word4N x.toNat := by
  rw [word4, word4N, BitVec.toNat_ushiftRight, BitVec.toNat_ushiftRight, BitVec.toNat_ushiftRight]
theorem digest_nat (s : St) : digestTo s.at 8 = (toN s).flatMap word4N := by
  rw [show digestTo s.at 8 = word4 s.a ++ (word4 s.b ++ (word4 s.c ++ (word4 s.d ++ (word4 s.e ++ (word4 s.f ++ (word4 s.g ++ (word4 s.h ++ []))))))) from rfl]
  simp only [word4_nat]
  rfl
theorem sha_block (T : List UInt8) (h : (T ++ padL T.length).length = 64) : shaL T = (compN (toN IV) ((T ++ padL T.length).map UInt8.toNat)).flatMap word4N := by
  rw [compN_eq IV _ h, ← digest_nat, shaL, h]
  show digestTo (comp IV ((T ++ padL T.length).take 64)).at 8 = _
  rw [List.take_of_length_le (by omega)]
theorem hw_zero (T : List UInt8) : hw T 0 = IV := by rw [hw]
theorem hw_succ (T : List UInt8) (n : Nat) : hw T (n + 1) = comp (hw T n) ((T.drop (64 * n)).take 64) := by rw [hw]
theorem sha_block2 (T : List UInt8) (h : (T ++ padL T.length).length = 128) : shaL T = (compN (compN (toN IV) (((T ++ padL T.length).take 64).map UInt8.toNat)) (((T ++ padL T.length).drop 64).map UInt8.toNat)).flatMap word4N := by
  rw [compN_eq IV _ (by rw [List.length_take]; omega), compN_eq _ _ (by rw [List.length_drop]; omega), ← digest_nat, shaL, h, show 128 / 64 = 1 + 1 by decide, hw_succ, show hw (T ++ padL T.length) 1 = hw (T ++ padL T.length) (0 + 1) by rw [Nat.zero_add], hw_succ, hw_zero, Nat.mul_zero, List.drop_zero, Nat.mul_one]
  rw [List.take_of_length_le (l := (T ++ padL T.length).drop 64) (by rw [List.length_drop]; omega)]
end Go.Proofs.YtilcgafnkihjcaaDoor
