/- What the kernel's numbers reckon is what the words say: the two forms of one compression. -/
import Derived.Test.YtilcgafnkihjcaaDoorEv
import Derived.Test.YtilcgafnkihjcaaDoorTf
namespace Go.Proofs.YtilcgafnkihjcaaDoor

theorem rN_eq (x : BitVec 32) (n : Nat) (h2 : n < 32) : rN x.toNat n = (x.rotateRight n).toNat := by
  have h : x.toNat >>> n < 2 ^ 32 := by
    rw [Nat.shiftRight_eq_div_pow]
    exact Nat.lt_of_le_of_lt (Nat.div_le_self _ _) x.isLt
  show ((x.toNat >>> n) ||| (x.toNat <<< (32 - n))) % 2 ^ 32 = _
  rw [BitVec.rotateRight, Nat.mod_eq_of_lt h2, BitVec.rotateRightAux, BitVec.toNat_or, BitVec.toNat_ushiftRight, BitVec.toNat_shiftLeft, Nat.or_mod_two_pow, Nat.mod_eq_of_lt h]
theorem s0N_eq (x : BitVec 32) : s0N x.toNat = (sig0 x).toNat := by
  show (rN x.toNat 7 ^^^ rN x.toNat 18) ^^^ (x.toNat >>> 3) = _
  rw [rN_eq x 7 (by omega), rN_eq x 18 (by omega), sig0, turnedBy2, BitVec.toNat_xor, BitVec.toNat_xor, BitVec.toNat_ushiftRight]
theorem s1N_eq (x : BitVec 32) : s1N x.toNat = (sig1 x).toNat := by
  show (rN x.toNat 17 ^^^ rN x.toNat 19) ^^^ (x.toNat >>> 10) = _
  rw [rN_eq x 17 (by omega), rN_eq x 19 (by omega), sig1, turnedBy2, BitVec.toNat_xor, BitVec.toNat_xor, BitVec.toNat_ushiftRight]

def toN (s : St) : List Nat := [s.a.toNat, s.b.toNat, s.c.toNat, s.d.toNat, s.e.toNat, s.f.toNat, s.g.toNat, s.h.toNat]
/-- the first n words, the last one first -/
def schR (W : Nat → BitVec 32) : Nat → List Nat
  | 0 => []
  | n + 1 => (W n).toNat :: schR W n

theorem schR_rev (W : Nat → BitVec 32) : ∀ n, (schR W n).reverse = (List.range n).map fun i => (W i).toNat
  | 0 => rfl
  | n + 1 => by rw [schR, List.reverse_cons, schR_rev W n, List.range_succ, List.map_append]; rfl

theorem schN_eq (c : Nat → BitVec 32) : ∀ n k, schN n (schR (sched c) (k + 16)) = schR (sched c) (k + 16 + n)
  | 0, k => rfl
  | n + 1, k => by
    have e : schR (sched c) (k + 16) = (sched c (k + 15)).toNat :: (sched c (k + 14)).toNat :: (sched c (k + 13)).toNat :: (sched c (k + 12)).toNat :: (sched c (k + 11)).toNat :: (sched c (k + 10)).toNat :: (sched c (k + 9)).toNat :: (sched c (k + 8)).toNat :: (sched c (k + 7)).toNat :: (sched c (k + 6)).toNat :: (sched c (k + 5)).toNat :: (sched c (k + 4)).toNat :: (sched c (k + 3)).toNat :: (sched c (k + 2)).toNat :: (sched c (k + 1)).toNat :: (sched c k).toNat :: schR (sched c) k := rfl
    have hs : Nat.mod (Nat.add (Nat.add (Nat.add (sched c k).toNat (sched c (k + 9)).toNat) (s0N (sched c (k + 1)).toNat)) (s1N (sched c (k + 14)).toNat)) 4294967296 = (sched c (k + 16)).toNat := by
      rw [s0N_eq, s1N_eq, sched_hi c (k + 16) (by omega)]
      show ((sched c k).toNat + (sched c (k + 9)).toNat + (sig0 (sched c (k + 1))).toNat + (sig1 (sched c (k + 14))).toNat) % 4294967296 = _
      rw [show k + 16 - 16 = k by omega, show k + 16 - 7 = k + 9 by omega, show k + 16 - 15 = k + 1 by omega, show k + 16 - 2 = k + 14 by omega]
      simp only [BitVec.toNat_add]
      omega
    rw [e, schN, force_eq, hs, ← e]
    have := schN_eq c n (k + 1)
    rw [show k + 1 + 16 = (k + 16) + 1 by omega] at this
    rw [show k + 16 + (n + 1) = k + 16 + 1 + n by omega, ← this]
    rfl

theorem word0_nat (l : List UInt8) (t : Nat) : (word0 (cOf l) t).toNat = (l.getD (4 * t) 0).toNat * 16777216 + (l.getD (4 * t + 1) 0).toNat * 65536 + (l.getD (4 * t + 2) 0).toNat * 256 + (l.getD (4 * t + 3) 0).toNat := by
  have h : ∀ a b c d : Nat, a < 256 → b < 256 → c < 256 → d < 256 → (BitVec.ofNat 32 a <<< 24 ||| BitVec.ofNat 32 b <<< 16 ||| BitVec.ofNat 32 c <<< 8 ||| BitVec.ofNat 32 d).toNat = a * 16777216 + b * 65536 + c * 256 + d := by
    intro a b c d ha hb hc hd
    have e1 : (a * 2 ^ 24) ||| (b * 2 ^ 16) = a * 2 ^ 24 + b * 2 ^ 16 := by
      rw [Nat.mul_comm a, ← Nat.two_pow_add_eq_or_of_lt (by omega)]
    have e2 : (a * 2 ^ 24 + b * 2 ^ 16) ||| (c * 2 ^ 8) = a * 2 ^ 24 + b * 2 ^ 16 + c * 2 ^ 8 := by
      rw [show a * 2 ^ 24 + b * 2 ^ 16 = 2 ^ 16 * (a * 256 + b) by omega, ← Nat.two_pow_add_eq_or_of_lt (by omega)]
    have e3 : (a * 2 ^ 24 + b * 2 ^ 16 + c * 2 ^ 8) ||| d = a * 2 ^ 24 + b * 2 ^ 16 + c * 2 ^ 8 + d := by
      rw [show a * 2 ^ 24 + b * 2 ^ 16 + c * 2 ^ 8 = 2 ^ 8 * (a * 65536 + b * 256 + c) by omega, ← Nat.two_pow_add_eq_or_of_lt (by omega)]
    rw [BitVec.toNat_or, BitVec.toNat_or, BitVec.toNat_or, BitVec.toNat_shiftLeft, BitVec.toNat_shiftLeft, BitVec.toNat_shiftLeft, BitVec.toNat_ofNat, BitVec.toNat_ofNat, BitVec.toNat_ofNat, BitVec.toNat_ofNat, Nat.shiftLeft_eq, Nat.shiftLeft_eq, Nat.shiftLeft_eq]
    rw [Nat.mod_eq_of_lt (show a < 2 ^ 32 by omega), Nat.mod_eq_of_lt (show b < 2 ^ 32 by omega), Nat.mod_eq_of_lt (show c < 2 ^ 32 by omega), Nat.mod_eq_of_lt (show d < 2 ^ 32 by omega), Nat.mod_eq_of_lt (show a * 2 ^ 24 < 2 ^ 32 by omega), Nat.mod_eq_of_lt (show b * 2 ^ 16 < 2 ^ 32 by omega), Nat.mod_eq_of_lt (show c * 2 ^ 8 < 2 ^ 32 by omega)]
    rw [e1, e2, e3]
  exact h _ _ _ _ (UInt8.toNat_lt _) (UInt8.toNat_lt _) (UInt8.toNat_lt _) (UInt8.toNat_lt _)

theorem words16_eq (c : Nat → BitVec 32) (l : List UInt8) (hw : ∀ t < 16, (sched c t).toNat = (l.getD (4 * t) 0).toNat * 16777216 + (l.getD (4 * t + 1) 0).toNat * 65536 + (l.getD (4 * t + 2) 0).toNat * 256 + (l.getD (4 * t + 3) 0).toNat) (hl : l.length = 64) :
    ∀ n k, k + n = 16 → words16 n ((l.drop (4 * k)).map UInt8.toNat) (schR (sched c) k) = schR (sched c) 16
  | 0, k, h => by obtain rfl : k = 16 := by omega
                  rfl
  | n + 1, k, h => by
    have e : l.drop (4 * k) = l.getD (4 * k) 0 :: l.getD (4 * k + 1) 0 :: l.getD (4 * k + 2) 0 :: l.getD (4 * k + 3) 0 :: l.drop (4 * (k + 1)) := by
      rw [List.drop_eq_getElem_cons (by omega), List.drop_eq_getElem_cons (i := 4 * k + 1) (by omega), List.drop_eq_getElem_cons (i := 4 * k + 1 + 1) (by omega), List.drop_eq_getElem_cons (i := 4 * k + 1 + 1 + 1) (by omega)]
      simp only [List.getD_eq_getElem?_getD]
      rw [List.getElem?_eq_getElem (by omega), List.getElem?_eq_getElem (by omega), List.getElem?_eq_getElem (by omega), List.getElem?_eq_getElem (by omega)]
      rfl
    rw [e]
    simp only [List.map_cons, words16, force_eq]
    rw [show Nat.add (Nat.add (Nat.add (Nat.mul (l.getD (4 * k) 0).toNat 16777216) (Nat.mul (l.getD (4 * k + 1) 0).toNat 65536)) (Nat.mul (l.getD (4 * k + 2) 0).toNat 256)) (l.getD (4 * k + 3) 0).toNat = (sched c k).toNat from (hw k (by omega)).symm]
    exact words16_eq c l hw hl n (k + 1) (by omega)

theorem xOf_nat (s : St) (k w : BitVec 32) : Nat.mod (Nat.add (Nat.add (Nat.add (Nat.add s.h.toNat k.toNat) w.toNat) (Nat.xor (Nat.xor (rN s.e.toNat 6) (rN s.e.toNat 11)) (rN s.e.toNat 25))) (Nat.lor (Nat.land s.e.toNat s.f.toNat) (Nat.land (Nat.sub 4294967295 s.e.toNat) s.g.toNat))) 4294967296 = (xOf s k w).toNat := by
  rw [rN_eq s.e 6 (by omega), rN_eq s.e 11 (by omega), rN_eq s.e 25 (by omega), xOf, turnedBy3]
  show (s.h.toNat + k.toNat + w.toNat + ((s.e.rotateRight 6).toNat ^^^ (s.e.rotateRight 11).toNat ^^^ (s.e.rotateRight 25).toNat) + ((s.e.toNat &&& s.f.toNat) ||| ((4294967295 - s.e.toNat) &&& s.g.toNat))) % 4294967296 = _
  rw [← BitVec.toNat_xor, ← BitVec.toNat_xor, show (4294967295 - s.e.toNat) = (~~~s.e).toNat by rw [BitVec.toNat_not], ← BitVec.toNat_and, ← BitVec.toNat_and, ← BitVec.toNat_or]
  simp only [BitVec.toNat_add]
  omega
theorem yOf_nat (s : St) (x : BitVec 32) : Nat.mod (Nat.add (Nat.add x.toNat (Nat.xor (Nat.xor (rN s.a.toNat 2) (rN s.a.toNat 13)) (rN s.a.toNat 22))) (Nat.lor (Nat.lor (Nat.land s.a.toNat s.b.toNat) (Nat.land s.a.toNat s.c.toNat)) (Nat.land s.b.toNat s.c.toNat))) 4294967296 = (x + yOf s).toNat := by
  rw [rN_eq s.a 2 (by omega), rN_eq s.a 13 (by omega), rN_eq s.a 22 (by omega), yOf, turnedBy3]
  show (x.toNat + ((s.a.rotateRight 2).toNat ^^^ (s.a.rotateRight 13).toNat ^^^ (s.a.rotateRight 22).toNat) + (((s.a.toNat &&& s.b.toNat) ||| (s.a.toNat &&& s.c.toNat)) ||| (s.b.toNat &&& s.c.toNat))) % 4294967296 = _
  rw [← BitVec.toNat_xor, ← BitVec.toNat_xor, ← BitVec.toNat_and, ← BitVec.toNat_and, ← BitVec.toNat_and, ← BitVec.toNat_or, ← BitVec.toNat_or]
  simp only [BitVec.toNat_add]
  omega
theorem add_nat (x y : BitVec 32) : Nat.mod (Nat.add x.toNat y.toNat) 4294967296 = (x + y).toNat := (BitVec.toNat_add x y).symm

theorem rndN_eq (K W : Nat → BitVec 32) (s0 : St) : ∀ n i, rndN ((List.range' i n).map fun t => (K t).toNat) ((List.range' i n).map fun t => (W t).toNat)
    (rounds K W s0 i).a.toNat (rounds K W s0 i).b.toNat (rounds K W s0 i).c.toNat (rounds K W s0 i).d.toNat (rounds K W s0 i).e.toNat (rounds K W s0 i).f.toNat (rounds K W s0 i).g.toNat (rounds K W s0 i).h.toNat = toN (rounds K W s0 (i + n))
  | 0, i => rfl
  | n + 1, i => by
    rw [List.range'_succ, List.map_cons, List.map_cons, rndN, force_eq, xOf_nat, force_eq, yOf_nat, force_eq, add_nat]
    have := rndN_eq K W s0 n (i + 1)
    rw [show i + (n + 1) = i + 1 + n by omega, ← this]
    rfl

theorem KN_eq : KN = (List.range' 0 64).map fun t => (KF t).toNat := by decide +kernel

theorem schR_zero (W : Nat → BitVec 32) : schR W 0 = [] := rfl
theorem rounds_zero (K W : Nat → BitVec 32) (s : St) : rounds K W s 0 = s := rfl
theorem endN_eq (s r : St) : endN (toN s) (toN r) = toN (plus s r) := by
  simp only [endN, toN, force_eq, add_nat, plus]
theorem compN_end (a b c d e f g h : Nat) (l : List Nat) : compN [a, b, c, d, e, f, g, h] l = endN [a, b, c, d, e, f, g, h] (rndN KN (schN 48 (words16 16 l [])).reverse a b c d e f g h) := rfl
/-- the two forms of the compression -/
theorem compN_eq (s : St) (l : List UInt8) (hl : l.length = 64) : compN (toN s) (l.map UInt8.toNat) = toN (comp s l) := by
  have h1 := words16_eq (cOf l) l (fun t ht => by rw [sched_lo _ _ ht]; exact word0_nat l t) hl 16 0 rfl
  rw [Nat.mul_zero, List.drop_zero, schR_zero] at h1
  have h2 := schN_eq (cOf l) 48 0
  rw [Nat.zero_add] at h2
  have h3 := rndN_eq KF (sched (cOf l)) s 64 0
  rw [rounds_zero, Nat.zero_add, ← KN_eq, ← List.range_eq_range', ← schR_rev] at h3
  rw [toN, compN_end, h1, h2, h3, ← toN, endN_eq]
  rfl

end Go.Proofs.YtilcgafnkihjcaaDoor
