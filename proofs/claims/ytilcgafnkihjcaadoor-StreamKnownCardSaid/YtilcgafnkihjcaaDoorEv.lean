/- The sums of some closed texts, by the kernel's own numbers. -/
import Derived.KernelRfl
namespace Go.Proofs.YtilcgafnkihjcaaDoor

def force {α : Type} (x : Nat) (f : Nat → α) : α := match x with | .zero => f .zero | .succ n => f (.succ n)
theorem force_eq {α : Type} (x : Nat) (f : Nat → α) : force x f = f x := by cases x <;> rfl

def rN (x n : Nat) : Nat := Nat.mod (Nat.lor (Nat.shiftRight x n) (Nat.shiftLeft x (Nat.sub 32 n))) 4294967296
def s0N (x : Nat) : Nat := Nat.xor (Nat.xor (rN x 7) (rN x 18)) (Nat.shiftRight x 3)
def s1N (x : Nat) : Nat := Nat.xor (Nat.xor (rN x 17) (rN x 19)) (Nat.shiftRight x 10)
def schN : Nat → List Nat → List Nat
  | 0, l => l
  | n + 1, l => match l with
    | x1 :: x2 :: x3 :: x4 :: x5 :: x6 :: x7 :: x8 :: x9 :: x10 :: x11 :: x12 :: x13 :: x14 :: x15 :: x16 :: r =>
      force (Nat.mod (Nat.add (Nat.add (Nat.add x16 x7) (s0N x15)) (s1N x2)) 4294967296) fun y => schN n (y :: x1 :: x2 :: x3 :: x4 :: x5 :: x6 :: x7 :: x8 :: x9 :: x10 :: x11 :: x12 :: x13 :: x14 :: x15 :: x16 :: r)
    | l => l
def words16 : Nat → List Nat → List Nat → List Nat
  | 0, _, acc => acc
  | n + 1, l, acc => match l with
    | a :: b :: c :: d :: r => force (Nat.add (Nat.add (Nat.add (Nat.mul a 16777216) (Nat.mul b 65536)) (Nat.mul c 256)) d) fun y => words16 n r (y :: acc)
    | _ => acc
def rndN : List Nat → List Nat → Nat → Nat → Nat → Nat → Nat → Nat → Nat → Nat → List Nat
  | k :: ks, w :: ws, a, b, c, d, e, f, g, h =>
    force (Nat.mod (Nat.add (Nat.add (Nat.add (Nat.add h k) w) (Nat.xor (Nat.xor (rN e 6) (rN e 11)) (rN e 25))) (Nat.lor (Nat.land e f) (Nat.land (Nat.sub 4294967295 e) g))) 4294967296) fun x =>
    force (Nat.mod (Nat.add (Nat.add x (Nat.xor (Nat.xor (rN a 2) (rN a 13)) (rN a 22))) (Nat.lor (Nat.lor (Nat.land a b) (Nat.land a c)) (Nat.land b c))) 4294967296) fun a' =>
    force (Nat.mod (Nat.add d x) 4294967296) fun e' =>
    rndN ks ws a' a b c e' e f g
  | _, _, a, b, c, d, e, f, g, h => [a, b, c, d, e, f, g, h]
def KN : List Nat := [0x428a2f98, 0x71374491, 0xb5c0fbcf, 0xe9b5dba5, 0x3956c25b, 0x59f111f1, 0x923f82a4, 0xab1c5ed5, 0xd807aa98, 0x12835b01, 0x243185be, 0x550c7dc3, 0x72be5d74, 0x80deb1fe, 0x9bdc06a7, 0xc19bf174, 0xe49b69c1, 0xefbe4786, 0x0fc19dc6, 0x240ca1cc, 0x2de92c6f, 0x4a7484aa, 0x5cb0a9dc, 0x76f988da, 0x983e5152, 0xa831c66d, 0xb00327c8, 0xbf597fc7, 0xc6e00bf3, 0xd5a79147, 0x06ca6351, 0x14292967, 0x27b70a85, 0x2e1b2138, 0x4d2c6dfc, 0x53380d13, 0x650a7354, 0x766a0abb, 0x81c2c92e, 0x92722c85, 0xa2bfe8a1, 0xa81a664b, 0xc24b8b70, 0xc76c51a3, 0xd192e819, 0xd6990624, 0xf40e3585, 0x106aa070, 0x19a4c116, 0x1e376c08, 0x2748774c, 0x34b0bcb5, 0x391c0cb3, 0x4ed8aa4a, 0x5b9cca4f, 0x682e6ff3, 0x748f82ee, 0x78a5636f, 0x84c87814, 0x8cc70208, 0x90befffa, 0xa4506ceb, 0xbef9a3f7, 0xc67178f2]
/-- the end of a compression -/
def endN (s t : List Nat) : List Nat :=
  match s, t with
  | [a, b, c, d, e, f, g, h], [a', b', c', d', e', f', g', h'] =>
      force (Nat.mod (Nat.add a a') 4294967296) fun a => force (Nat.mod (Nat.add b b') 4294967296) fun b => force (Nat.mod (Nat.add c c') 4294967296) fun c => force (Nat.mod (Nat.add d d') 4294967296) fun d =>
      force (Nat.mod (Nat.add e e') 4294967296) fun e => force (Nat.mod (Nat.add f f') 4294967296) fun f => force (Nat.mod (Nat.add g g') 4294967296) fun g => force (Nat.mod (Nat.add h h') 4294967296) fun h => [a, b, c, d, e, f, g, h]
  | _, _ => []
def compN (s : List Nat) (l : List Nat) : List Nat :=
  match s with
  | [a, b, c, d, e, f, g, h] => endN [a, b, c, d, e, f, g, h] (rndN KN (schN 48 (words16 16 l [])).reverse a b c d e f g h)
  | _ => []
def IVN : List Nat := [0x6a09e667, 0xbb67ae85, 0x3c6ef372, 0xa54ff53a, 0x510e527f, 0x9b05688c, 0x1f83d9ab, 0x5be0cd19]
def emptyBlock : List Nat := [128, 0,0,0,0,0,0,0, 0,0,0,0,0,0,0,0, 0,0,0,0,0,0,0,0, 0,0,0,0,0,0,0,0, 0,0,0,0,0,0,0,0, 0,0,0,0,0,0,0,0, 0,0,0,0,0,0,0,0, 0,0,0,0,0,0,0,0]
theorem t0 : compN IVN emptyBlock = [0xe3b0c442, 0x98fc1c14, 0x9afbf4c8, 0x996fb924, 0x27ae41e4, 0x649b934c, 0xa495991b, 0x7852b855] := by decide +kernel
end Go.Proofs.YtilcgafnkihjcaaDoor
