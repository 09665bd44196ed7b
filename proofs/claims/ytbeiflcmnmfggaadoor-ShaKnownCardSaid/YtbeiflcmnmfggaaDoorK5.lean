/- The sum of a million letters a, from its pieces; and the sums of two texts of two blocks. -/
import Derived.Test.YtbeiflcmnmfggaaDoorK1
import Derived.Test.YtbeiflcmnmfggaaDoorK2
import Derived.Test.YtbeiflcmnmfggaaDoorK3
import Derived.Test.YtbeiflcmnmfggaaDoorK4
import Derived.Test.YtbeiflcmnmfggaaDoorTl
import Derived.Lib.Repeat
namespace Go.Proofs.YtbeiflcmnmfggaaDoor
open Go.RowKit

def AB : List UInt8 := List.replicate 64 97
theorem AB_length : AB.length = 64 := List.length_replicate
theorem AB_nat : AB.map UInt8.toNat = List.replicate 64 97 := by decide +kernel
def iterF {α : Type} (f : α → α) : Nat → α → α
  | 0, s => s
  | n + 1, s => iterF f n (f s)
theorem iterF_zero {α : Type} (f : α → α) (s : α) : iterF f 0 s = s := rfl
theorem iterF_succ {α : Type} (f : α → α) (n : Nat) (s : α) : iterF f (n + 1) s = iterF f n (f s) := rfl
theorem iterF_end {α : Type} (f : α → α) : ∀ n s, iterF f (n + 1) s = f (iterF f n s)
  | 0, _ => rfl
  | n + 1, s => by rw [iterF_succ, iterF_end f n (f s), iterF_succ]
theorem iterF_add {α : Type} (f : α → α) : ∀ m n s, iterF f (m + n) s = iterF f n (iterF f m s)
  | 0, n, s => by rw [Nat.zero_add, iterF_zero]
  | m + 1, n, s => by rw [show m + 1 + n = (m + n) + 1 by omega, iterF_succ, iterF_add f m n, iterF_succ]
def stepA (s : St) : St := comp s AB
theorem stepA_eq (s : St) : stepA s = comp s AB := by unfold stepA; exact Eq.refl _
def iterG (u : Nat → Nat → Nat → Nat → Nat → Nat → Nat → Nat → List Nat) : Nat → List Nat → List Nat
  | 0, s => s
  | n + 1, s => match s with
    | [a, b, c, d, e, f, g, h] => iterG u n (u a b c d e f g h)
    | _ => []
theorem iterG_zero (u : Nat → Nat → Nat → Nat → Nat → Nat → Nat → Nat → List Nat) (s : List Nat) : iterG u 0 s = s := by rw [iterG]
theorem iterG_succ (u : Nat → Nat → Nat → Nat → Nat → Nat → Nat → Nat → List Nat) (n a b c d e f g h : Nat) : iterG u (n + 1) [a, b, c, d, e, f, g, h] = iterG u n (u a b c d e f g h) := by rw [iterG]
def uA (a b c d e f g h : Nat) : List Nat := endN [a, b, c, d, e, f, g, h] (rndN KN WA a b c d e f g h)
/-- the two forms of the iteration: their texts are the same -/
theorem iterA_iterG : iterA = iterG uA := by
  delta iterA iterG
  exact Eq.refl _
theorem toN_list (s : St) : toN s = [s.a.toNat, s.b.toNat, s.c.toNat, s.d.toNat, s.e.toNat, s.f.toNat, s.g.toNat, s.h.toNat] := rfl
theorem uA_eq (s : St) : uA s.a.toNat s.b.toNat s.c.toNat s.d.toNat s.e.toNat s.f.toNat s.g.toNat s.h.toNat = toN (comp s AB) := by
  have h := compN_eq s AB AB_length
  rw [AB_nat, toN_list s, compN_end, WA_eq] at h
  rw [uA, h]
theorem iterG_eq : ∀ n (s : St), iterG uA n (toN s) = toN (iterF stepA n s)
  | 0, s => by rw [iterG_zero, iterF_zero]
  | n + 1, s => by rw [toN_list s, iterG_succ, uA_eq, iterG_eq n (comp s AB), iterF_succ, stepA_eq]
theorem iterA_eq (n : Nat) (s : St) : iterA n (toN s) = toN (iterF stepA n s) := by rw [iterA_iterG, iterG_eq]
theorem iterA_step {m n k : Nat} {s : St} {X Y : List Nat} (hk : k = m + n) (h1 : iterA m (toN s) = X) (h2 : iterA n X = Y) : iterA k (toN s) = Y := by
  rw [hk, iterA_eq, iterF_add, ← iterA_eq, ← iterA_eq, h1, h2]
theorem toN_IV : toN IV = [1779033703, 3144134277, 1013904242, 2773480762, 1359893119, 2600822924, 528734635, 1541459225] := by decide +kernel
theorem b00 : iterA 1000 (toN IV) = [592955532, 2302009565, 1748763303, 620342633, 184731725, 2631534163, 3459837949, 3784806294] := by rw [toN_IV]; exact a00
theorem b01 : iterA 2000 (toN IV) = [2432425355, 3561878610, 792915513, 120060592, 1730627794, 3100338481, 1484380738, 2413567509] := iterA_step (by decide) b00 a01
theorem b02 : iterA 3000 (toN IV) = [3693792429, 3228489383, 1920063468, 1159363938, 1995865486, 3899395093, 1070489690, 3818696068] := iterA_step (by decide) b01 a02
theorem b03 : iterA 4000 (toN IV) = [2905972929, 1349376393, 1639850357, 1032224573, 4087654825, 844508927, 142727850, 1826949263] := iterA_step (by decide) b02 a03
theorem b04 : iterA 5000 (toN IV) = [4101075154, 129573525, 758111687, 2809097055, 2946173745, 4125254953, 3590949913, 2694474649] := iterA_step (by decide) b03 a04
theorem b05 : iterA 6000 (toN IV) = [4254606125, 2806188846, 3777365106, 2684039259, 2563108456, 3262562783, 1651969283, 215006605] := iterA_step (by decide) b04 a05
theorem b06 : iterA 7000 (toN IV) = [2886889284, 2599971770, 2205939323, 3855558067, 1633335210, 3181097314, 2286572733, 563518467] := iterA_step (by decide) b05 a06
theorem b07 : iterA 8000 (toN IV) = [365602951, 4150781828, 1268961766, 2892834699, 688178498, 3951390503, 324146750, 394001364] := iterA_step (by decide) b06 a07
theorem b08 : iterA 9000 (toN IV) = [3818293026, 673805928, 2454018847, 276474797, 3429612345, 1781107536, 3881786715, 3255356261] := iterA_step (by decide) b07 a08
theorem b09 : iterA 10000 (toN IV) = [1482359619, 3053920332, 2218581276, 956914467, 3284847132, 1532092920, 4107310820, 2931061524] := iterA_step (by decide) b08 a09
theorem b10 : iterA 11000 (toN IV) = [4096498801, 2730981357, 368208555, 2288836688, 2318021256, 4247003884, 1096726684, 2260101034] := iterA_step (by decide) b09 a10
theorem b11 : iterA 12000 (toN IV) = [1452105697, 332993037, 4062823241, 378816347, 216171789, 2684076044, 1651074104, 495955238] := iterA_step (by decide) b10 a11
theorem b12 : iterA 13000 (toN IV) = [1928082961, 2860961623, 1904690592, 997958037, 4255195384, 1882369429, 3945749460, 2719203343] := iterA_step (by decide) b11 a12
theorem b13 : iterA 14000 (toN IV) = [2321800416, 2572043633, 3343100340, 3876063791, 4094606593, 839583183, 1226381485, 762067512] := iterA_step (by decide) b12 a13
theorem b14 : iterA 15000 (toN IV) = [3286924927, 1855780753, 2608627564, 176370035, 705989294, 1480277143, 2994088020, 951416902] := iterA_step (by decide) b13 a14
theorem b15 : iterA 15625 (toN IV) = [2061136107, 1745259042, 791610055, 2140370626, 1884297759, 3529239238, 671294972, 693152569] := iterA_step (by decide) b14 a15

theorem hw_zero (T : List UInt8) : hw T 0 = IV := by rw [hw]
theorem hw_succ (T : List UInt8) (n : Nat) : hw T (n + 1) = comp (hw T n) ((T.drop (64 * n)).take 64) := by rw [hw]
theorem hw_rep (N : Nat) : ∀ n, 64 * n ≤ N → hw (List.replicate N 97) n = iterF stepA n IV
  | 0, _ => by rw [hw_zero, iterF_zero]
  | n + 1, h => by
    rw [hw_succ, hw_rep N n (by omega), iterF_end, stepA_eq, AB, List.drop_replicate, List.take_replicate, Nat.min_eq_left (by omega)]
theorem sha_rep (N n : Nat) (hN : N = 64 * n) (hp : (padL N).length = 64) {S : List Nat} (hS : iterA n (toN IV) = S) :
    shaL (List.replicate N 97) = (compN S ((padL N).map UInt8.toNat)).flatMap word4N := by
  have e1 : (List.replicate N (97 : UInt8)).length = N := List.length_replicate
  have e2 : (List.replicate N 97 ++ padL N).length / 64 = n + 1 := by rw [List.length_append, e1, hp]; omega
  rw [shaL, e1, e2, hw_succ, hw_append _ _ n (by rw [e1]; omega), hw_rep N n (by omega), List.drop_append_of_le_length (by rw [e1]; omega), List.drop_of_length_le (by rw [e1]; omega), List.nil_append, List.take_of_length_le (by omega), digest_nat, ← compN_eq _ _ hp, ← iterA_eq, hS]
theorem sha_block2 (T : List UInt8) (h : (T ++ padL T.length).length = 128) : shaL T = (compN (compN (toN IV) (((T ++ padL T.length).take 64).map UInt8.toNat)) (((T ++ padL T.length).drop 64).map UInt8.toNat)).flatMap word4N := by
  rw [compN_eq IV _ (by rw [List.length_take]; omega), compN_eq _ _ (by rw [List.length_drop]; omega), ← digest_nat, shaL, h, show 128 / 64 = 1 + 1 by decide, hw_succ, show hw (T ++ padL T.length) 1 = hw (T ++ padL T.length) (0 + 1) by rw [Nat.zero_add], hw_succ, hw_zero, Nat.mul_zero, List.drop_zero, Nat.mul_one]
  rw [List.take_of_length_le (l := (T ++ padL T.length).drop 64) (by rw [List.length_drop]; omega)]
theorem sha_million : hexTo (shaL (List.replicate 1000000 97)) (shaL (List.replicate 1000000 97)).length = [99, 100, 99, 55, 54, 101, 53, 99, 57, 57, 49, 52, 102, 98, 57, 50, 56, 49, 97, 49, 99, 55, 101, 50, 56, 52, 100, 55, 51, 101, 54, 55, 102, 49, 56, 48, 57, 97, 52, 56, 97, 52, 57, 55, 50, 48, 48, 101, 48, 52, 54, 100, 51, 57, 99, 99, 99, 55, 49, 49, 50, 99, 100, 48] := by
  rw [sha_rep 1000000 15625 (by decide) (by decide +kernel) b15]
  decide +kernel
def text56 : List UInt8 := [97, 98, 99, 100, 98, 99, 100, 101, 99, 100, 101, 102, 100, 101, 102, 103, 101, 102, 103, 104, 102, 103, 104, 105, 103, 104, 105, 106, 104, 105, 106, 107, 105, 106, 107, 108, 106, 107, 108, 109, 107, 108, 109, 110, 108, 109, 110, 111, 109, 110, 111, 112, 110, 111, 112, 113]
theorem sha_56 : hexTo (shaL text56) (shaL text56).length = [50, 52, 56, 100, 54, 97, 54, 49, 100, 50, 48, 54, 51, 56, 98, 56, 101, 53, 99, 48, 50, 54, 57, 51, 48, 99, 51, 101, 54, 48, 51, 57, 97, 51, 51, 99, 101, 52, 53, 57, 54, 52, 102, 102, 50, 49, 54, 55, 102, 54, 101, 99, 101, 100, 100, 52, 49, 57, 100, 98, 48, 54, 99, 49] := by
  rw [sha_block2 text56 (by decide +kernel)]
  decide +kernel
def text112 : List UInt8 := [97, 98, 99, 100, 101, 102, 103, 104, 98, 99, 100, 101, 102, 103, 104, 105, 99, 100, 101, 102, 103, 104, 105, 106, 100, 101, 102, 103, 104, 105, 106, 107, 101, 102, 103, 104, 105, 106, 107, 108, 102, 103, 104, 105, 106, 107, 108, 109, 103, 104, 105, 106, 107, 108, 109, 110, 104, 105, 106, 107, 108, 109, 110, 111, 105, 106, 107, 108, 109, 110, 111, 112, 106, 107, 108, 109, 110, 111, 112, 113, 107, 108, 109, 110, 111, 112, 113, 114, 108, 109, 110, 111, 112, 113, 114, 115, 109, 110, 111, 112, 113, 114, 115, 116, 110, 111, 112, 113, 114, 115, 116, 117]
theorem sha_112 : hexTo (shaL text112) (shaL text112).length = [99, 102, 53, 98, 49, 54, 97, 55, 55, 56, 97, 102, 56, 51, 56, 48, 48, 51, 54, 99, 101, 53, 57, 101, 55, 98, 48, 52, 57, 50, 51, 55, 48, 98, 50, 52, 57, 98, 49, 49, 101, 56, 102, 48, 55, 97, 53, 49, 97, 102, 97, 99, 52, 53, 48, 51, 55, 97, 102, 101, 101, 57, 100, 49] := by
  rw [sha_block2 text112 (by decide +kernel)]
  decide +kernel
theorem repeat_one (c : UInt8) : ∀ n, Lib.repeatL [c] n = List.replicate n c
  | 0 => rfl
  | n + 1 => by rw [Lib.repeatL, repeat_one c n, List.replicate_succ]; rfl
end Go.Proofs.YtbeiflcmnmfggaaDoor
