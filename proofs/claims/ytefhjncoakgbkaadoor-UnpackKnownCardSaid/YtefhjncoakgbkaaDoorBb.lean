/- The document's rows: what a thing is laid as. -/
import Derived.Test.YtefhjncoakgbkaaDoorBa
namespace Go.Proofs.YtefhjncoakgbkaaDoor
open Go.RowKit

/-- a number's bytes -/
def numP (n : Nat) : List UInt8 :=
  if n < 128 then [UInt8.ofNat n] else if n < 256 then 204 :: be n 1 else if n < 65536 then 205 :: be n 2 else if n < 4294967296 then 206 :: be n 4 else 207 :: be n 8
/-- the beginning of a thing of a sort that has n bytes, things, or pairs -/
def headP (s : Int) (n : Nat) : List UInt8 :=
  if s = 1 then (if n < 256 then 196 :: be n 1 else 197 :: be n 2)
  else if s = 2 then (if n < 32 then [UInt8.ofNat (160 + n)] else if n < 256 then 217 :: be n 1 else 218 :: be n 2)
  else if s = 3 then (if n < 16 then [UInt8.ofNat (144 + n)] else 220 :: be n 2)
  else (if n < 16 then [UInt8.ofNat (128 + n)] else 222 :: be n 2)
theorem numP_len (n : Nat) : (numP n).length ≤ 9 := by
  unfold numP
  repeat' split
  all_goals simp [be_length]
theorem headP_len (s : Int) (n : Nat) : (headP s n).length ≤ 3 := by
  unfold headP
  repeat' split
  all_goals simp [be_length]

end Go.Proofs.YtefhjncoakgbkaaDoor
