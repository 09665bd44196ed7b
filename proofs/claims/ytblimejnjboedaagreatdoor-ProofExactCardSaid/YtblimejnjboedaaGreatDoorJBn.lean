/- One bit of a number. -/
import Derived.Test.YtblimejnjboedaaGreatDoorJ2
namespace Go.Proofs.YtblimejnjboedaaGreatDoor
open Go.RowKit

theorem bit_and (x k : Nat) (hx : x < 18446744073709551616) : bits .and .u64 ((x : Int) / 2 ^ k) 1 = ((x / 2 ^ k % 2 : Nat) : Int) := by
  have h := u64_and_nat (x / 2 ^ k) 1 (Nat.lt_of_le_of_lt (Nat.div_le_self _ _) hx) (by decide)
  rw [nat_mask1] at h
  simpa using h
end Go.Proofs.YtblimejnjboedaaGreatDoor
