/- Layer 8's numbers: siblings, turned bits, what is needed of a level. -/
import Derived.Laws.BitsAllLaws
import Derived.Scope
import Derived.Maps.OwnSet
import Derived.Maps.RangeWalk
import Derived.WalkArith
import Derived.OpenShut
import Derived.Sort.Row
import Derived.Test.YtmnklonoelpidaaGreatDoorProg
import Derived.WalkKit
import Derived.Laws.IdiomStrings
import Derived.Lib.Hide
import Derived.IntWalk
import Derived.Deep.MidRow
import Derived.Laws.Rows
import Derived.BigQuiet
import Derived.RangeFuncNested
import Derived.RangeFuncBound
import Derived.RangeFuncCalls
import Derived.RangeFuncLeaves
import Derived.Shelf.Abstract
import Derived.Shelf.RegionOpen
import Derived.OwnWalkIn
import Derived.TacticsInMore
import Derived.LoopNIn
import Derived.LoopIn
import Derived.Handy
import Derived.Shelf.Small.Bits
import Derived.Shelf.Strconv.Itoa0
namespace Go.Proofs.YtmnklonoelpidaaGreatDoor

/-- the other kid of the parent -/
def sib (k : Nat) : Nat := if k % 2 = 0 then k + 1 else k - 1
theorem xor_one (k : Nat) : k ^^^ 1 = sib k := by
  have h1 : (k ^^^ 1) / 2 = k / 2 := by rw [Nat.xor_div_two]; simp
  have h2 : (k ^^^ 1) % 2 = (k + 1) % 2 := by
    have := @Nat.xor_mod_two_eq_one k 1
    rcases Nat.mod_two_eq_zero_or_one (k ^^^ 1) with h | h <;> rcases Nat.mod_two_eq_zero_or_one k with g | g <;> omega
  unfold sib
  split <;> omega
theorem sib_sib (k : Nat) : sib (sib k) = k := by unfold sib; split <;> split <;> omega
theorem sib_half (k : Nat) : sib k / 2 = k / 2 := by unfold sib; split <;> omega
theorem sib_of_half {k j : Nat} (h : k / 2 = j / 2) (hne : k ≠ j) : k = sib j := by unfold sib; split <;> omega
theorem sib_inj {k j : Nat} (h : sib k = sib j) : k = j := by rw [← sib_sib k, h, sib_sib]
theorem sib_lt {k d : Nat} (h : k < 2 ^ (d + 1)) : sib k < 2 ^ (d + 1) := by
  have : 2 ^ (d + 1) = 2 * 2 ^ d := by rw [Nat.pow_succ, Nat.mul_comm]
  unfold sib
  split <;> omega
theorem sib_lt64 {k : Nat} (h : k < 18446744073709551616) : sib k < 18446744073709551616 := by unfold sib; split <;> omega

/-- a rising list is told by what is in it -/
theorem rising_eq : ∀ {N M : List Nat}, N.Pairwise (· < ·) → M.Pairwise (· < ·) → (∀ x, x ∈ N ↔ x ∈ M) → N = M
  | [], [], _, _, _ => rfl
  | [], m :: M, _, _, h => by have := (h m).2 (by simp); cases this
  | n :: N, [], _, _, h => by have := (h n).1 (by simp); cases this
  | n :: N, m :: M, h1, h2, h => by
    obtain ⟨hn, h1'⟩ := List.pairwise_cons.1 h1
    obtain ⟨hm, h2'⟩ := List.pairwise_cons.1 h2
    have e : n = m := by
      have a := (h n).1 (by simp)
      have b := (h m).2 (by simp)
      rcases List.mem_cons.1 a with e | a
      · exact e
      · rcases List.mem_cons.1 b with e | b
        · exact e.symm
        · have := hm n a
          have := hn m b
          omega
    subst e
    refine congrArg _ (rising_eq h1' h2' fun x => ⟨fun hx => ?_, fun hx => ?_⟩)
    · rcases List.mem_cons.1 ((h x).1 (by simp [hx])) with rfl | e
      · exact absurd (hn x hx) (by omega)
      · exact e
    · rcases List.mem_cons.1 ((h x).2 (by simp [hx])) with rfl | e
      · exact absurd (hm x hx) (by omega)
      · exact e

/-- N are the needed ones of a level at which those of K are known, rising -/
def Need (K N : List Nat) : Prop := N.Pairwise (· < ·) ∧ ∀ x, x ∈ N ↔ sib x ∈ K ∧ x ∉ K
theorem Need.eq {K N M : List Nat} (h : Need K N) (k : Need K M) : N = M := rising_eq h.1 k.1 fun x => (h.2 x).trans (k.2 x).symm
theorem Need.of {K K' N : List Nat} (h : Need K N) (e : ∀ x, x ∈ K ↔ x ∈ K') : Need K' N := ⟨h.1, fun x => by rw [h.2, e, e]⟩
/-- what is known on the level i -/
def upTo (L : List Nat) (i : Nat) : List Nat := L.map (· / 2 ^ i)
theorem mem_upTo {L : List Nat} {i x : Nat} : x ∈ upTo L i ↔ ∃ k ∈ L, k / 2 ^ i = x := by simp [upTo]
theorem mem_upTo_succ {L : List Nat} {i x : Nat} : x ∈ upTo L (i + 1) ↔ ∃ k ∈ upTo L i, k / 2 = x := by
  simp only [mem_upTo]
  constructor
  · rintro ⟨k, hk, rfl⟩
    exact ⟨_, ⟨k, hk, rfl⟩, by rw [Nat.div_div_eq_div_mul, Nat.pow_succ]⟩
  · rintro ⟨_, ⟨k, hk, rfl⟩, rfl⟩
    exact ⟨k, hk, by rw [Nat.div_div_eq_div_mul, Nat.pow_succ]⟩
/-- the needed ones of all levels -/
def Needs (L : List Nat) (d : Nat) (M : List (List Nat)) : Prop := M.length = d ∧ ∀ i N, M[i]? = some N → Need (upTo L i) N
theorem Needs.eq {L : List Nat} {d : Nat} {M M' : List (List Nat)} (h : Needs L d M) (k : Needs L d M') : M = M' := by
  apply List.ext_getElem (h.1.trans k.1.symm)
  intro i h1 h2
  exact (h.2 i _ (List.getElem?_eq_getElem h1)).eq (k.2 i _ (List.getElem?_eq_getElem h2))

/-- the d lowest bits of k, behind those of o, in reverse -/
def turn : Nat → Nat → Nat → Nat
  | 0, o, _ => o
  | d + 1, o, k => turn d (2 * o + k % 2) (k / 2)
theorem turn_eq : ∀ (d o k : Nat), turn d o k = o * 2 ^ d + turn d 0 k
  | 0, o, k => by simp [turn]
  | d + 1, o, k => by
    rw [turn, turn, turn_eq d (2 * o + k % 2), turn_eq d (2 * 0 + k % 2), Nat.pow_succ, Nat.add_mul, Nat.mul_comm 2 o, Nat.mul_assoc, Nat.mul_comm 2 (2 ^ d)]
    simp [Nat.add_assoc]
theorem turn_lt : ∀ (d k : Nat), turn d 0 k < 2 ^ d
  | 0, k => by simp [turn]
  | d + 1, k => by
    rw [turn, turn_eq]
    have := turn_lt d (k / 2)
    have h : k % 2 = 0 ∨ k % 2 = 1 := by omega
    rw [Nat.pow_succ]
    rcases h with h | h <;> rw [h] <;> omega
theorem turn_bit : ∀ (d k b : Nat), (turn d 0 k).testBit b = (decide (b < d) && k.testBit (d - 1 - b))
  | 0, k, b => by simp [turn]
  | d + 1, k, b => by
    rw [turn, turn_eq, show (2 * 0 + k % 2) * 2 ^ d = 2 ^ d * (k % 2) by rw [Nat.mul_comm]; simp]
    have hl := turn_lt d (k / 2)
    rw [Nat.testBit_two_pow_mul_add _ hl]
    split
    · rename_i h
      rw [turn_bit d (k / 2) b, ← Nat.testBit_succ]
      simp only [h, show b < d + 1 by omega, decide_true, Bool.true_and]
      congr 1; omega
    · rename_i h
      by_cases e : b = d
      · subst e
        simp [Nat.testBit_zero]
      · have : b - d ≠ 0 := by omega
        have h1 : k % 2 < 2 ^ (b - d) := Nat.lt_of_lt_of_le (Nat.mod_lt _ (by decide)) (by have := Nat.pow_le_pow_right (n := 2) (by decide) (show 1 ≤ b - d by omega); simpa using this)
        rw [Nat.testBit_lt_two_pow h1]
        simp [show ¬ b < d + 1 by omega]
/-- a number of one way out of its bits -/
theorem turn_turn {d k : Nat} (h : k < 2 ^ d) : turn d 0 (turn d 0 k) = k := by
  apply Nat.eq_of_testBit_eq
  intro i
  rw [turn_bit]
  by_cases hi : i < d
  · rw [turn_bit]
    simp only [hi, decide_true, Bool.true_and, show d - 1 - i < d by omega]
    congr 1; omega
  · simp only [hi, decide_false, Bool.false_and]
    exact (Nat.testBit_lt_two_pow (Nat.lt_of_lt_of_le h (Nat.pow_le_pow_right (by decide) (by omega)))).symm

/-- one step of the turning: those s apart change places, where the mask is -/
def swap (s m x : Nat) : Nat := (x / 2 ^ s &&& m) ||| ((x &&& m) * 2 ^ s % 18446744073709551616)
theorem swap_bit {s m : Nat} (hs : 0 < s) (hm : ∀ i, i < 64 → m.testBit i = decide (i / s % 2 = 0)) (x i : Nat) (hi : i < 64) : (swap s m x).testBit i = if i / s % 2 = 0 then x.testBit (i + s) else x.testBit (i - s) := by
  rw [swap, Nat.testBit_or, Nat.testBit_and, Nat.testBit_div_two_pow, show (18446744073709551616 : Nat) = 2 ^ 64 from rfl, Nat.testBit_mod_two_pow, Nat.testBit_mul_two_pow, Nat.testBit_and, hm i hi]
  simp only [hi, decide_true, Bool.true_and]
  by_cases h : i / s % 2 = 0
  · simp only [h, decide_true, Bool.and_true, if_true]
    by_cases g : s ≤ i
    · have : (i - s) / s % 2 ≠ 0 := by
        have e : i / s = (i - s) / s + 1 := by
          conv => lhs; rw [show i = (i - s) + s by omega]
          exact Nat.add_div_right _ hs
        omega
      rw [hm (i - s) (by omega)]
      simp [this]
    · simp [g]
  · have g : s ≤ i := by
      by_cases g : s ≤ i
      · exact g
      · exact absurd (by rw [Nat.div_eq_of_lt (by omega)]) h
    have : (i - s) / s % 2 = 0 := by
      have e : i / s = (i - s) / s + 1 := by
        conv => lhs; rw [show i = (i - s) + s by omega]
        exact Nat.add_div_right _ hs
      omega
    rw [hm (i - s) (by omega)]
    simp [h, this, g]
theorem swap_lt {s m x : Nat} (hm : m < 18446744073709551616) : swap s m x < 18446744073709551616 := by
  rw [swap, show (18446744073709551616 : Nat) = 2 ^ 64 from rfl]
  exact Nat.or_lt_two_pow (Nat.lt_of_le_of_lt Nat.and_le_right hm) (Nat.mod_lt _ (by decide))
/-- all 64 bits in reverse, as math/bits does it -/
def flip64 (x : Nat) : Nat :=
  swap 32 4294967295 (swap 16 281470681808895 (swap 8 71777214294589695 (swap 4 1085102592571150095 (swap 2 3689348814741910323 (swap 1 6148914691236517205 x)))))
theorem flip64_bit (x i : Nat) (hi : i < 64) : (flip64 x).testBit i = x.testBit (63 - i) := by
  have m1 : ∀ i, i < 64 → (6148914691236517205 : Nat).testBit i = decide (i / 1 % 2 = 0) := by decide
  have m2 : ∀ i, i < 64 → (3689348814741910323 : Nat).testBit i = decide (i / 2 % 2 = 0) := by decide
  have m4 : ∀ i, i < 64 → (1085102592571150095 : Nat).testBit i = decide (i / 4 % 2 = 0) := by decide
  have m8 : ∀ i, i < 64 → (71777214294589695 : Nat).testBit i = decide (i / 8 % 2 = 0) := by decide
  have m16 : ∀ i, i < 64 → (281470681808895 : Nat).testBit i = decide (i / 16 % 2 = 0) := by decide
  have m32 : ∀ i, i < 64 → (4294967295 : Nat).testBit i = decide (i / 32 % 2 = 0) := by decide
  have st : ∀ (s m y j k : Nat), 0 < s → (∀ i, i < 64 → m.testBit i = decide (i / s % 2 = 0)) → j < 64 → k = (if j / s % 2 = 0 then j + s else j - s) → (swap s m y).testBit j = y.testBit k := by
    intro s m y j k hs hm hj hk
    rw [swap_bit hs hm y j hj, hk]
    split <;> rfl
  have key : ∀ i, i < 64 → ∃ a b c d e, a < 64 ∧ b < 64 ∧ c < 64 ∧ d < 64 ∧ e < 64 ∧ a = (if i / 32 % 2 = 0 then i + 32 else i - 32) ∧ b = (if a / 16 % 2 = 0 then a + 16 else a - 16) ∧ c = (if b / 8 % 2 = 0 then b + 8 else b - 8) ∧
      d = (if c / 4 % 2 = 0 then c + 4 else c - 4) ∧ e = (if d / 2 % 2 = 0 then d + 2 else d - 2) ∧ 63 - i = (if e / 1 % 2 = 0 then e + 1 else e - 1) := by
    intro i hi
    refine ⟨_, _, _, _, _, ?_, ?_, ?_, ?_, ?_, rfl, rfl, rfl, rfl, rfl, ?_⟩
    all_goals revert i
    all_goals decide
  obtain ⟨a, b, c, d, e, ha, hb, hc, hd, he, ea, eb, ec, ed, ee, ef⟩ := key i hi
  rw [flip64, st 32 _ _ i a (by decide) m32 hi ea, st 16 _ _ a b (by decide) m16 ha eb, st 8 _ _ b c (by decide) m8 hb ec, st 4 _ _ c d (by decide) m4 hc ed, st 2 _ _ d e (by decide) m2 hd ee, st 1 _ _ e (63 - i) (by decide) m1 he ef]
theorem flip64_lt (x : Nat) : flip64 x < 18446744073709551616 := swap_lt (by decide)
theorem flip_turn {d k : Nat} (hd : d ≤ 64) : flip64 k / 2 ^ (64 - d) = turn d 0 k := by
  apply Nat.eq_of_testBit_eq
  intro i
  rw [Nat.testBit_div_two_pow, turn_bit]
  by_cases hi : i < d
  · rw [flip64_bit _ _ (by omega)]
    simp only [hi, decide_true, Bool.true_and]
    congr 1; omega
  · simp only [hi, decide_false, Bool.false_and]
    exact Nat.testBit_lt_two_pow (Nat.lt_of_lt_of_le (flip64_lt k) (show 2 ^ 64 ≤ _ from Nat.pow_le_pow_right (by decide) (by omega)))
end Go.Proofs.YtmnklonoelpidaaGreatDoor
/- Sets of numbers: maps of uint64 to struct{}, in whatever order they are ranged over. -/
namespace Go.Proofs.YtmnklonoelpidaaGreatDoor
open Go.RowKit Go.ChangeMaps Go.MapKept Go.WideShapes
open Go.Maps (Keyed)

def lit (k : Nat) : Lit := .int .u64 (k : Int)
theorem lit_inj {k j : Nat} : lit k = lit j ↔ k = j := by simp [lit]; omega
theorem lit_key (k : Nat) : WideAt.IsKeyLit (lit k) := by simp [lit, WideAt.IsKeyLit]
theorem lit_same (k j : Nat) : (lit k).sameKey (lit j) = decide (k = j) := by
  by_cases h : k = j
  · subst h; simp [lit, Lit.sameKey]
  · rw [Maps.sameKey_ne (fun e => h (lit_inj.1 e))]; simp [h]
theorem lit_wf {k : Nat} (h : k < 18446744073709551616) : (Lit.int .u64 (k : Int)).wf = true := WalkArith.wf_u64 (by omega)
theorem lit_of {z : Int} (h : (Lit.int .u64 z).wf = true) : ∃ k : Nat, z = (k : Int) ∧ k < 18446744073709551616 := by
  have hb := bounds_u64 h
  exact ⟨z.toNat, by omega, by omega⟩

section
variable {P : Program} {ku : TypeId}

/-- block b is a set of numbers, of just those of K; no more than n stores made it -/
def SetAt (P : Program) (ku : TypeId) (b n : Nat) (K : List Nat) (w : World) : Prop :=
  ∃ D : DataW Unit, w.ownsMap P ku unitElem b n D ∧ ∀ k : Nat, Maps.has D (lit k) = decide (k ∈ K)
theorem SetAt.made (P : Program) (ku : TypeId) (w : World) : SetAt P ku w.heap.size 0 [] (w.alloc (.map #[] 0)) :=
  ⟨.map [], World.ownsMap_made w P ku unitElem, fun k => by simp [Maps.has_eq]⟩
theorem SetAt.kept {b n : Nat} {K : List Nat} {w w' : World} {row : Option Nat} (h : SetAt P ku b n K w) (hg : w.grownBy w' row) (hr : some b ≠ row) : SetAt P ku b n K w' := by
  obtain ⟨D, h1, h2⟩ := h
  exact ⟨D, h1.kept hg hr, h2⟩
theorem SetAt.mono {b n m : Nat} {K : List Nat} {w : World} (h : SetAt P ku b n K w) (hm : n ≤ m) : SetAt P ku b m K w := by
  obtain ⟨D, h1, h2⟩ := h
  exact ⟨D, h1.mono hm, h2⟩
theorem SetAt.lt {b n : Nat} {K : List Nat} {w : World} (h : SetAt P ku b n K w) : b < w.heap.size := by
  obtain ⟨D, h1, _⟩ := h
  exact h1.lt
theorem SetAt.of {b n : Nat} {K K' : List Nat} {w : World} (h : SetAt P ku b n K w) (e : ∀ x, x ∈ K ↔ x ∈ K') : SetAt P ku b n K' w := by
  obtain ⟨D, h1, h2⟩ := h
  exact ⟨D, h1, fun k => by rw [h2]; simp [e]⟩
theorem SetAt.block {b n : Nat} {K : List Nat} {w w' : World} (h : SetAt P ku b n K w) (e : w'.heap[b]? = w.heap[b]?) : SetAt P ku b n K w' := by
  obtain ⟨D, ⟨es, clock, h0, h1⟩, h2⟩ := h
  exact ⟨D, ⟨es, clock, e.trans h0, h1⟩, h2⟩
theorem has_put {D : DataW Unit} (hD : Maps.IsMap D) {K : List Nat} (h : ∀ k : Nat, Maps.has D (lit k) = decide (k ∈ K)) (x : Nat) (d : DataW Unit) (k : Nat) : Maps.has (D.put (lit x) d) (lit k) = decide (k ∈ K ++ [x]) := by
  by_cases e : k = x
  · subst e
    rw [Maps.has_put_same hD (lit_key k)]; simp
  · rw [Maps.has_put_other (fun c => e (lit_inj.1 c)), h]; simp [e]
theorem SetAt.push {b n : Nat} {K : List Nat} {w w' : World} {D : DataW Unit} {d : DataW Unit} {x : Nat} (h : w.ownsMap P ku unitElem b n D) (hD : ∀ k : Nat, Maps.has D (lit k) = decide (k ∈ K)) (h' : w'.ownsMap P ku unitElem b (n + 1) (D.put (lit x) d)) :
    SetAt P ku b (n + 1) (K ++ [x]) w' := ⟨_, h', has_put h.isMap hD x d⟩

/-- 'clear(m)' -/
theorem SetAt.clear {b n : Nat} {K : List Nat} {w : World} (h : SetAt P ku b n K w) (t : TypeId) {e : TypeId} (ht : P.underlying t = some (.map ku e)) (ty : TypeId) :
    ∃ w', (Builtin.clear_ #[t] ty #[.map (some b)]).run P w = .ok (.tuple #[]) w' ∧ SetAt P ku b 0 [] w' ∧ w.grownBy w' (some b) ∧ w'.heap.size = w.heap.size := by
  obtain ⟨D, ⟨es, clock, hb, F, hs, hD⟩, h2⟩ := h
  have hlt : b < w.heap.size := (Array.getElem?_eq_some_iff.1 hb).1
  refine ⟨setBlock w b (.map #[] clock), by simp [Builtin.clear_, run_underlying ht, MapKept.run_getObj_map hb, MapKept.run_setObj_map _ hb, Result.andThen, setBlock], ?_, ?_, ?_⟩
  · refine ⟨.map [], ⟨#[], clock, heap_setBlock_same hb _, ⟨by simp, ?_, by simp⟩, Nat.le_refl _, rfl⟩, fun k => by simp [Maps.has_eq]⟩
    exact ⟨by simp, by simp⟩
  · exact ⟨rfl, rfl, rfl, by simp [setBlock], fun j _ hne => heap_setBlock_other hb _ fun e => hne (by rw [e])⟩
  · simp [setBlock]

/-- a set that is being ranged over: those of V have come -/
def RangeAt (P : Program) (ku : TypeId) (b r n : Nat) (K V : List Nat) (w : World) : Prop :=
  ∃ (D : DataW Unit) (left : Lit → Bool) (cnt : Nat), w.ranges P ku unitElem b r n D left cnt ∧ (∀ k : Nat, Maps.has D (lit k) = decide (k ∈ K)) ∧ (∀ k : Nat, left (lit k) = decide (k ∈ K ∧ k ∉ V)) ∧ V.Nodup ∧ (∀ x ∈ V, x ∈ K) ∧ (∀ x ∈ V, x < 18446744073709551616) ∧ V.length + cnt ≤ n
theorem RangeAt.set {b r n : Nat} {K V : List Nat} {w : World} (h : RangeAt P ku b r n K V w) : SetAt P ku b n K w := by
  obtain ⟨D, left, cnt, h1, h2, _⟩ := h
  exact ⟨D, h1.owns, h2⟩
theorem RangeAt.kept {b r n : Nat} {K V : List Nat} {w w' : World} {row : Option Nat} (h : RangeAt P ku b r n K V w) (hg : w.grownBy w' row) (hb : some b ≠ row) (hr : some r ≠ row) : RangeAt P ku b r n K V w' := by
  obtain ⟨D, left, cnt, h1, h2⟩ := h
  exact ⟨D, left, cnt, h1.kept hg hb hr, h2⟩
theorem RangeAt.left {b r n : Nat} {K V : List Nat} {w : World} (h : RangeAt P ku b r n K V w) : ∃ cnt, w.rangeLeft b r = cnt ∧ V.length + cnt ≤ n := by
  obtain ⟨D, left, cnt, h1, _, _, _, _, _, h3⟩ := h
  exact ⟨cnt, h1.left_eq, h3⟩

variable (w : World) {ops : Array Oper} {rest : List Oper} {o : Oper} {a : Act} {Q : Exit → Act → World → Prop}
theorem wpList_range_set (hg : o.guard = none) (m : Operand) (t : TypeId) (hop : o.op = Op.range t m) (e : TypeId) (K : Keyed P ku) (ht : P.underlying t = some (.map ku e)) (b n : Nat) (L : List Nat)
    (hm : a.eval m = .map (some b)) (hset : SetAt P ku b n L w)
    (hK : ∀ w', RangeAt P ku b w.heap.size n L [] w' → w.grownBy w' none → w'.heap.size = w.heap.size + 1 → wpList P ops Q rest (a.put o.dst (.pointer (some ⟨w.heap.size, 0, none⟩))) w') :
    wpList P ops Q (o :: rest) a w := by
  obtain ⟨D, h1, h2⟩ := hset
  refine wpList_range_own w hg m t hop ku e K ht unitElem b n D hm h1 fun w' hr hg' hs => hK w' ⟨D, _, _, hr, h2, fun k => by rw [h2]; simp, List.nodup_nil, by simp, by simp, by simpa using h1.size_le⟩ hg' hs
theorem wpList_next_set (hg : o.guard = none) (it : Operand) (hop : o.op = Op.next it false) (K : Keyed P ku) (hk : P.underlying ku = some (.int .u64)) (b r n : Nat) (L V : List Nat)
    (hit : a.eval it = .pointer (some ⟨r, 0, none⟩)) (h : RangeAt P ku b r n L V w)
    (hDone : (∀ x, x ∈ L ↔ x ∈ V) → wpList P ops Q rest (a.put o.dst (.tuple #[.bool false])) w)
    (hMore : ∀ (x : Nat) (w' : World), x < 18446744073709551616 → x ∈ L → x ∉ V → RangeAt P ku b r n L (V ++ [x]) w' → w'.rangeLeft b r < w.rangeLeft b r → w.grownBy w' (some r) → w'.heap.size = w.heap.size →
      (Instr.entry (.pointer (some ⟨r, 0, none⟩))).run P w' = .ok (.tuple #[.int .u64 (x : Int), .agg #[]]) w' → wpList P ops Q rest (a.put o.dst (.tuple #[.bool true, .int .u64 (x : Int), .agg #[]])) w') :
    wpList P ops Q (o :: rest) a w := by
  obtain ⟨D, left, cnt, h1, h2, h3, h4, h5, h6, h7⟩ := h
  refine wpList_next_ranges w hg it hop ku K unitElem (Value.int .u64) (fun _ : Unit => Value.agg #[]) (fun key kl hkey => by obtain ⟨x, rfl, _⟩ := Maps.keyOf_int_inv hk hkey; exact ⟨x, rfl⟩)
    (fun v y hv => by obtain ⟨rfl, _⟩ := unitElem_inv hv; exact ⟨(), rfl⟩) b r n D left cnt hit h1 (fun h0 hl => hDone fun x => ⟨fun hx => ?_, fun hx => h5 x hx⟩) (fun z c kl y w' cnt' hkey hlk hv hat hrg hlt hgr hsz hen => ?_)
  · have := hl (lit x)
    rw [h3] at this
    simpa [hx] using this
  · obtain ⟨z', ez, rfl, hw⟩ := Maps.keyOf_int_inv hk hkey
    cases ez
    obtain ⟨x, rfl, hx⟩ := lit_of hw
    have hxl : x ∈ L ∧ x ∉ V := by
      have := h3 x
      rw [show left (lit x) = true from hlk] at this
      simpa using this
    refine hMore x w' hx hxl.1 hxl.2 ⟨D, _, cnt', hrg, h2, fun k => ?_, ?_, ?_, ?_, by simp; omega⟩ (by rw [hrg.left_eq, h1.left_eq]; exact hlt) hgr hsz hen
    · rw [h3, show Lit.sameKey (lit k) (Lit.int .u64 (x : Int)) = (lit k).sameKey (lit x) from rfl, lit_same]
      by_cases e : k = x <;> simp [e]
    · rw [List.nodup_append]
      exact ⟨h4, by simp, fun a ha b hb => by simp at hb; subst hb; exact fun e => hxl.2 (e ▸ ha)⟩
    · intro y hy
      rcases List.mem_append.1 hy with h | h
      · exact h5 y h
      · simp at h; subst h; exact hxl.1
    · intro y hy
      rcases List.mem_append.1 hy with h | h
      · exact h6 y h
      · simp at h; subst h; exact hx
end
end Go.Proofs.YtmnklonoelpidaaGreatDoor
/- Sorting by insertion: what a row is between two rounds. -/
namespace Go.Proofs.YtmnklonoelpidaaGreatDoor
open Go.RowKit Go.Sort

def encU (k : Nat) : Value := .int .u64 (k : Int)
/-- the first i are in order -/
def Up (d : Array Nat) (i : Nat) : Prop := ∀ p q, p < q → q < i → d[p]! ≤ d[q]!
/-- those up to i are in order, but for the one at j, that is on its way down -/
def UpBut (d : Array Nat) (i j : Nat) : Prop := ∀ p q, p < q → q ≤ i → q ≠ j → d[p]! ≤ d[q]!
theorem Up.start {d : Array Nat} {i : Nat} (h : Up d i) : UpBut d i i := fun p q hpq hq hne => h p q hpq (by omega)
theorem UpBut.step {d : Array Nat} {i j : Nat} (h : UpBut d i (j + 1)) (hj : j + 1 ≤ i) (hi : i < d.size) (hl : d[j + 1]! < d[j]!) : UpBut (swp d (j + 1) j) i j := by
  have e1 : (swp d (j + 1) j)[j + 1]! = d[j]! := swp_left d (j + 1) j (by omega) (by omega)
  have e2 : (swp d (j + 1) j)[j]! = d[j + 1]! := swp_right d (j + 1) j (by omega)
  have e3 : ∀ k, k ≠ j + 1 → k ≠ j → (swp d (j + 1) j)[k]! = d[k]! := fun k h1 h2 => swp_other d (j + 1) j k h1 h2
  intro p q hpq hq hne
  by_cases q1 : q = j + 1
  · subst q1
    rw [e1]
    by_cases p1 : p = j
    · subst p1; rw [e2]; omega
    · rw [e3 p (by omega) p1]; exact h p j (by omega) (by omega) (by omega)
  · rw [e3 q q1 hne]
    by_cases p1 : p = j + 1
    · subst p1; rw [e1]; exact h j q (by omega) hq q1
    · by_cases p2 : p = j
      · subst p2; rw [e2]; exact h (p + 1) q (by omega) hq q1
      · rw [e3 p p1 p2]; exact h p q hpq hq q1
theorem UpBut.stop {d : Array Nat} {i j : Nat} (h : UpBut d i j) (hs : j = 0 ∨ d[j - 1]! ≤ d[j]!) : Up d (i + 1) := by
  intro p q hpq hq
  by_cases e : q = j
  · subst e
    rcases hs with h0 | h0
    · omega
    · by_cases p1 : p = q - 1
      · subst p1; exact h0
      · exact Nat.le_trans (h p (q - 1) (by omega) (by omega) (by omega)) h0
  · exact h p q hpq (by omega) e
theorem Up.pairwise {d : Array Nat} (h : Up d d.size) : d.toList.Pairwise (· ≤ ·) := by
  rw [List.pairwise_iff_getElem]
  intro p q hp hq hpq
  have := h p q hpq (by simpa using hq)
  rw [getElem!_pos d p (by simpa using hp), getElem!_pos d q (by simpa using hq)] at this
  simpa using this
theorem permIn_list {d d' : Array Nat} (h : PermIn 0 d.size d d') : d'.toList.Perm d.toList := by
  have := h.2.2
  rw [Array.extract_eq_self_of_le (Nat.le_of_eq h.1), Array.extract_size] at this
  exact this
end Go.Proofs.YtmnklonoelpidaaGreatDoor
/- What comes of known and needed places, level by level. -/
namespace Go.Proofs.YtmnklonoelpidaaGreatDoor
open Go.RowKit
open Go.Maps (Keyed)

/-- the parents of whom both kids are there -/
def Comes (A X : List Nat) : Prop := ∀ x, x ∈ X ↔ 2 * x ∈ A ∧ 2 * x + 1 ∈ A
theorem Need.half {L N : List Nat} {i z : Nat} (h : Need (upTo L i) N) (hz : z ∈ upTo L i ∨ z ∈ N) : z / 2 ∈ upTo L (i + 1) := by
  rw [mem_upTo_succ]
  rcases hz with hz | hz
  · exact ⟨z, hz, rfl⟩
  · exact ⟨sib z, ((h.2 z).1 hz).1, sib_half z⟩
theorem Need.kid {L N : List Nat} {i y : Nat} (h : Need (upTo L i) N) (hy : y / 2 ∈ upTo L (i + 1)) : y ∈ upTo L i ∨ y ∈ N := by
  obtain ⟨k, hk, e⟩ := mem_upTo_succ.1 hy
  by_cases c : y = k
  · exact .inl (c ▸ hk)
  · by_cases m : y ∈ upTo L i
    · exact .inl m
    · refine .inr ((h.2 y).2 ⟨?_, m⟩)
      have := sib_of_half (k := k) (j := y) e (fun e' => c e'.symm)
      rw [← this]; exact hk
/-- all of them: so all parents come -/
theorem Need.all {L N A X : List Nat} {i : Nat} (h : Need (upTo L i) N) (hA : ∀ x, x ∈ A ↔ x ∈ upTo L i ∨ x ∈ N) (hX : Comes A X) : ∀ x, x ∈ X ↔ x ∈ upTo L (i + 1) := by
  intro x
  rw [hX, hA, hA]
  constructor
  · rintro ⟨h1, _⟩
    have := h.half h1
    rwa [show 2 * x / 2 = x by omega] at this
  · intro hx
    exact ⟨h.kid (by rwa [show 2 * x / 2 = x by omega]), h.kid (by rwa [show (2 * x + 1) / 2 = x by omega])⟩
/-- all but one: so all parents but its own -/
theorem Need.but {L N A X : List Nat} {i z : Nat} (h : Need (upTo L i) N) (hz : z ∈ upTo L i ∨ z ∈ N) (hA : ∀ x, x ∈ A ↔ (x ∈ upTo L i ∨ x ∈ N) ∧ x ≠ z) (hX : Comes A X) :
    z / 2 ∈ upTo L (i + 1) ∧ ∀ x, x ∈ X ↔ x ∈ upTo L (i + 1) ∧ x ≠ z / 2 := by
  refine ⟨h.half hz, fun x => ?_⟩
  rw [hX, hA, hA]
  constructor
  · rintro ⟨⟨h1, n1⟩, _, n2⟩
    have := h.half h1
    rw [show 2 * x / 2 = x by omega] at this
    exact ⟨this, by omega⟩
  · rintro ⟨hx, hn⟩
    exact ⟨⟨h.kid (by rwa [show 2 * x / 2 = x by omega]), by omega⟩, h.kid (by rwa [show (2 * x + 1) / 2 = x by omega]), by omega⟩

/-- what is known on the level i, when n needed places were passed, of which that of the number q was left out -/
def Stand (L : List Nat) (q : Int) (i n : Nat) (C : List Nat) : Prop :=
  ((q < 0 ∨ (n : Int) ≤ q) ∧ ∀ x, x ∈ C ↔ x ∈ upTo L i) ∨ (0 ≤ q ∧ q < (n : Int) ∧ ∃ p ∈ upTo L i, ∀ x, x ∈ C ↔ x ∈ upTo L i ∧ x ≠ p)
/-- those of N that were added before the j-th -/
def Added (q : Int) (n : Nat) (N C : List Nat) (j : Nat) (A : List Nat) : Prop := ∀ x, x ∈ A ↔ x ∈ C ∨ ∃ t, t < j ∧ N[t]? = some x ∧ ((n + t : Nat) : Int) ≠ q
theorem Added.start (q : Int) (n : Nat) (N C : List Nat) : Added q n N C 0 C := fun x => by simp
theorem Added.push {q : Int} {n : Nat} {N C A : List Nat} {j x : Nat} (h : Added q n N C j A) (hx : N[j]? = some x) (hq : ((n + j : Nat) : Int) ≠ q) : Added q n N C (j + 1) (A ++ [x]) := by
  intro y
  rw [List.mem_append, h y]
  constructor
  · rintro ((h | ⟨t, ht, hy, hn⟩) | h)
    · exact .inl h
    · exact .inr ⟨t, by omega, hy, hn⟩
    · simp at h; subst h; exact .inr ⟨j, by omega, hx, hq⟩
  · rintro (h | ⟨t, ht, hy, hn⟩)
    · exact .inl (.inl h)
    · by_cases e : t = j
      · subst e; rw [hx] at hy; cases hy; exact .inr (by simp)
      · exact .inl (.inr ⟨t, by omega, hy, hn⟩)
theorem Added.skip {q : Int} {n : Nat} {N C A : List Nat} {j : Nat} (h : Added q n N C j A) (hq : ((n + j : Nat) : Int) = q) : Added q n N C (j + 1) A := by
  intro y
  rw [h y]
  constructor
  · rintro (h | ⟨t, ht, hy, hn⟩)
    · exact .inl h
    · exact .inr ⟨t, by omega, hy, hn⟩
  · rintro (h | ⟨t, ht, hy, hn⟩)
    · exact .inl h
    · by_cases e : t = j
      · subst e; exact absurd hq hn
      · exact .inr ⟨t, by omega, hy, hn⟩
theorem Stand.next {L : List Nat} {q : Int} {i n : Nat} {N C A X : List Nat} (h : Stand L q i n C) (hN : Need (upTo L i) N) (hA : Added q n N C N.length A) (hX : Comes A X) : Stand L q (i + 1) (n + N.length) X := by
  have hnd : ∀ (s t : Nat) (x : Nat), N[s]? = some x → N[t]? = some x → s = t := by
    intro s t x hs ht
    have hp := hN.1
    rw [List.pairwise_iff_getElem] at hp
    obtain ⟨s1, s2⟩ := List.getElem?_eq_some_iff.1 hs
    obtain ⟨t1, t2⟩ := List.getElem?_eq_some_iff.1 ht
    rcases Nat.lt_trichotomy s t with c | c | c
    · have := hp s t s1 t1 c; omega
    · exact c
    · have := hp t s t1 s1 c; omega
  rcases h with ⟨hq, hC⟩ | ⟨hq0, hqn, p, hp, hC⟩
  · by_cases c : q < 0 ∨ ((n + N.length : Nat) : Int) ≤ q
    · refine .inl ⟨c, hN.all (fun x => ?_) hX⟩
      rw [hA x, hC x]
      refine or_congr Iff.rfl ⟨?_, fun hx => ?_⟩
      · rintro ⟨t, _, hx, _⟩; exact List.mem_of_getElem? hx
      · obtain ⟨t, ht⟩ := List.getElem?_of_mem hx
        have := (List.getElem?_eq_some_iff.1 ht).1
        exact ⟨t, this, ht, by omega⟩
    · obtain ⟨s, hs⟩ : ∃ s : Nat, q = ((n + s : Nat) : Int) := ⟨(q - n).toNat, by omega⟩
      have hsl : s < N.length := by omega
      obtain ⟨z, hz⟩ : ∃ z, N[s]? = some z := ⟨_, List.getElem?_eq_getElem hsl⟩
      have hzN := List.mem_of_getElem? hz
      have hzK := ((hN.2 z).1 hzN).2
      have key := hN.but (.inr hzN) (A := A) (fun x => ?_) hX
      · exact .inr ⟨by omega, by omega, _, key.1, key.2⟩
      · rw [hA x, hC x]
        constructor
        · rintro (h | ⟨t, ht, hx, hn⟩)
          · exact ⟨.inl h, fun e => hzK (e ▸ h)⟩
          · refine ⟨.inr (List.mem_of_getElem? hx), fun e => ?_⟩
            subst e
            have := hnd t s x hx hz
            subst this
            exact hn hs.symm
        · rintro ⟨h | h, hne⟩
          · exact .inl h
          · obtain ⟨t, ht⟩ := List.getElem?_of_mem h
            have hl := (List.getElem?_eq_some_iff.1 ht).1
            refine .inr ⟨t, hl, ht, fun e => hne ?_⟩
            have : t = s := by omega
            subst this
            rw [hz] at ht; cases ht; rfl
  · have hpN : p ∉ N := fun h => ((hN.2 p).1 h).2 hp
    have key := hN.but (.inl hp) (A := A) (fun x => ?_) hX
    · exact .inr ⟨hq0, by omega, _, key.1, key.2⟩
    · rw [hA x, hC x]
      constructor
      · rintro (h | ⟨t, ht, hx, hn⟩)
        · exact ⟨.inl h.1, h.2⟩
        · have := List.mem_of_getElem? hx
          exact ⟨.inr this, fun e => hpN (e ▸ this)⟩
      · rintro ⟨h | h, hne⟩
        · exact .inl ⟨h, hne⟩
        · obtain ⟨t, ht⟩ := List.getElem?_of_mem h
          have hl := (List.getElem?_eq_some_iff.1 ht).1
          exact .inr ⟨t, hl, ht, by omega⟩
/-- at the root -/
theorem Stand.root {L : List Nat} {q : Int} {d n : Nat} {C : List Nat} (h : Stand L q d n C) (hL : L ≠ []) (hd : ∀ x ∈ L, x < 2 ^ d) : 0 ∈ C ↔ (q < 0 ∨ (n : Int) ≤ q) := by
  have e : ∀ x, x ∈ upTo L d ↔ x = 0 := by
    intro x
    rw [mem_upTo]
    constructor
    · rintro ⟨k, hk, rfl⟩; exact Nat.div_eq_of_lt (hd k hk)
    · rintro rfl
      obtain ⟨k, hk⟩ := List.exists_mem_of_ne_nil L hL
      exact ⟨k, hk, Nat.div_eq_of_lt (hd k hk)⟩
  rcases h with ⟨hq, hC⟩ | ⟨h0, hn, p, hp, hC⟩
  · rw [hC, e]; simp [hq]
  · rw [hC, e]
    have := (e p).1 hp
    subst this
    simp
    omega
theorem upTo_zero (L : List Nat) : upTo L 0 = L := by simp [upTo]
theorem Stand.start {L C : List Nat} {q : Int} (hC : ∀ x, x ∈ C ↔ x ∈ L) : Stand L q 0 0 C := .inl ⟨by omega, fun x => by rw [hC, upTo_zero]⟩
theorem upTo_lt {L : List Nat} {d i x : Nat} (h : ∀ x ∈ L, x < 2 ^ d) (hi : i ≤ d) (hx : x ∈ upTo L i) : x < 2 ^ (d - i) := by
  obtain ⟨k, hk, rfl⟩ := mem_upTo.1 hx
  rw [Nat.div_lt_iff_lt_mul (Nat.pow_pos (by decide)), ← Nat.pow_add, show d - i + i = d by omega]
  exact h k hk

section
variable {P : Program} {ku ki : TypeId}
/-- block b is a table that says 1 of the numbers of K, and nothing of others -/
def OnesAt (P : Program) (ku ki : TypeId) (b n : Nat) (K : List Nat) (w : World) : Prop :=
  ∃ D : DataW Unit, w.ownsMap P ku (plainElem P ki) b n D ∧ ∀ k : Nat, D.atKey (lit k) (.lit (.int .i64 0)) = .lit (.int .i64 (if k ∈ K then 1 else 0))
theorem OnesAt.made (P : Program) (ku ki : TypeId) (w : World) : OnesAt P ku ki w.heap.size 0 [] (w.alloc (.map #[] 0)) :=
  ⟨.map [], World.ownsMap_made w P ku _, fun k => by simp [DataW.atKey]⟩
theorem OnesAt.kept {b n : Nat} {K : List Nat} {w w' : World} {row : Option Nat} (h : OnesAt P ku ki b n K w) (hg : w.grownBy w' row) (hr : some b ≠ row) : OnesAt P ku ki b n K w' := by
  obtain ⟨D, h1, h2⟩ := h
  exact ⟨D, h1.kept hg hr, h2⟩
theorem OnesAt.lt {b n : Nat} {K : List Nat} {w : World} (h : OnesAt P ku ki b n K w) : b < w.heap.size := by
  obtain ⟨D, h1, _⟩ := h
  exact h1.lt
theorem OnesAt.push {b n : Nat} {K : List Nat} {w w' : World} {D : DataW Unit} {x : Nat} (h : w.ownsMap P ku (plainElem P ki) b n D) (hD : ∀ k : Nat, D.atKey (lit k) (.lit (.int .i64 0)) = .lit (.int .i64 (if k ∈ K then 1 else 0)))
    (h' : w'.ownsMap P ku (plainElem P ki) b (n + 1) (D.put (lit x) (.lit (.int .i64 1)))) : OnesAt P ku ki b (n + 1) (K ++ [x]) w' := by
  refine ⟨_, h', fun k => ?_⟩
  by_cases e : k = x
  · subst e
    rw [Maps.atKey_put_same h.isMap (lit_key k)]; simp
  · rw [Maps.atKey_put_other (fun c => e (lit_inj.1 c)), hD]; simp [e]
end
end Go.Proofs.YtmnklonoelpidaaGreatDoor
/- What every stage's texts share: a block whose cells are written out; a world behind draws; texts. -/
namespace Go.Proofs.YtmnklonoelpidaaGreatDoor
open Go.RowKit

theorem lit_cell {w : World} {b : Nat} {cs : Array Value} {t : TypeId} (h : w.heap[b]? = some (.cells cs t (0, 0))) (i : Nat) : w.cell? ⟨b, i, none⟩ = cs[i]? := by
  simp [World.cell?, h]
theorem lit_free {w : World} {b : Nat} {cs : Array Value} {t : TypeId} (h : w.heap[b]? = some (.cells cs t (0, 0))) (i : Nat) : w.frozen? ⟨b, i, none⟩ = false := by
  simp [World.frozen?, h]
theorem lit_lt {w : World} {b : Nat} {o : Obj} (h : w.heap[b]? = some o) : b < w.heap.size := (Array.getElem?_eq_some_iff.1 h).1
theorem lit_set {w : World} {b k : Nat} {cs : Array Value} {t : TypeId} (v : Value) (h : w.heap[b]? = some (.cells cs t (0, 0))) : (w.setCell ⟨b, k, none⟩ v).heap[b]? = some (.cells (cs.setIfInBounds k v) t (0, 0)) := by
  show (w.heap.modify b _)[b]? = _
  rw [Array.getElem?_modify, if_pos rfl, h]
  rfl
theorem lit_far {w : World} {b k : Nat} {c : Nat} (v : Value) (h : c ≠ b) : (w.setCell ⟨b, k, none⟩ v).heap[c]? = w.heap[c]? := by
  show (w.heap.modify b _)[c]? = _
  rw [Array.getElem?_modify, if_neg (by omega)]
theorem lit_old {w : World} (o : Obj) {b : Nat} {x : Obj} (h : w.heap[b]? = some x) : (w.alloc o).heap[b]? = some x := (heap_alloc_old w o (lit_lt h)).trans h
theorem by0 (w : World) (o : Obj) : Below w.heap.size w (w.alloc o) := (Below.refl _ _).alloc (Nat.le_refl _) _
theorem by0q (w : World) : ∀ n, Below w.heap.size w (w.drewN n)
  | 0 => Below.refl _ _
  | n + 1 => (by0q w n).drew
theorem byte_mod (q : Nat) : (q : Int) % (256 : Int) = ((UInt8.ofNat q).toNat : Int) := by rw [UInt8.toNat_ofNat']; omega
theorem str_eta (s : ByteArray) : (⟨s.data.toList.toArray⟩ : ByteArray) = s := by
  cases s; simp

theorem strAdd (A B : List UInt8) : (⟨A.toArray⟩ : ByteArray) ++ ⟨B.toArray⟩ = ⟨(A ++ B).toArray⟩ := by
  apply ByteArray.ext
  simp
theorem oneByte (w : World) (y : Int) (x : UInt8) (hy : y = (x.toNat : Int)) : ∀ j (hj : j < [x].length), (w.alloc (.cells #[.int .u8 y] 5)).cell? ((⟨w.heap.size, 0, none⟩ : Addr).add j) = some (.int .u8 ([x][j].toNat : Int)) := by
  intro j hj
  obtain rfl : j = 0 := by simpa using hj
  rw [Addr.add_mid, World.cell?_alloc_at (hn := rfl), hy]
  rfl
theorem run_cat (A B : List UInt8) (h : A.length + B.length < 4611686018427387904) (w : World) : (Op.stringOp .add ⟨A.toArray⟩ ⟨B.toArray⟩).run Tryz.prog w = .ok (.string ⟨(A ++ B).toArray⟩) w := by
  have hs : ((((⟨A.toArray⟩ : ByteArray).size + (⟨B.toArray⟩ : ByteArray).size : Nat) : Int) > IntKind.i64.max) = False := by
    have e : IntKind.i64.max = 9223372036854775807 := by decide
    have e1 : (⟨A.toArray⟩ : ByteArray).size = A.length := rfl
    have e2 : (⟨B.toArray⟩ : ByteArray).size = B.length := rfl
    rw [e, e1, e2]
    simp only [gt_iff_lt, eq_iff_iff, iff_false]
    omega
  simp only [Op.stringOp, hs, if_false, strAdd]
  rfl
theorem extract_list (Y : List UInt8) (i j : Nat) : (⟨Y.toArray⟩ : ByteArray).extract i j = ⟨((Y.take j).drop i).toArray⟩ := by
  apply ByteArray.ext
  rw [ByteArray.data_extract]
  simp [List.drop_take]

end Go.Proofs.YtmnklonoelpidaaGreatDoor
/- Layer 10's plain facts: what is needed of leaves, as one list; digests of it; positions that stand. -/
namespace Go.Proofs.YtmnklonoelpidaaGreatDoor
open Go.RowKit

/-- the needed places of a level that is so wide -/
def needOf (K : List Nat) (m : Nat) : List Nat := (List.range m).filter fun x => decide (sib x ∈ K ∧ x ∉ K)
theorem need_of {K : List Nat} {m : Nat} (h : ∀ x, sib x ∈ K → x < m) : Need K (needOf K m) := by
  refine ⟨List.Pairwise.filter _ List.pairwise_lt_range, fun x => ?_⟩
  rw [needOf, List.mem_filter, List.mem_range]
  simp only [decide_eq_true_eq]
  exact ⟨fun h => h.2, fun h2 => ⟨h x h2.1, h2⟩⟩
/-- the needed places, level by level -/
def needM (L : List Nat) (d : Nat) : List (List Nat) := (List.range d).map fun i => needOf (upTo L i) (2 ^ (d - i))
theorem needM_len (L : List Nat) (d : Nat) : (needM L d).length = d := by simp [needM]
theorem needM_at {L : List Nat} {d i : Nat} (h : i < d) : (needM L d)[i]? = some (needOf (upTo L i) (2 ^ (d - i))) := by simp [needM, h]
theorem needs_M {L : List Nat} {d : Nat} (h : ∀ x ∈ L, x < 2 ^ d) : Needs L d (needM L d) := by
  refine ⟨needM_len L d, fun i N hN => ?_⟩
  have hi : i < d := by have := (List.getElem?_eq_some_iff.1 hN).1; rwa [needM_len] at this
  rw [needM_at hi] at hN
  cases hN
  refine need_of fun x hx => ?_
  have h1 := upTo_lt h (Nat.le_of_lt hi) hx
  have h2 := sib_lt (k := sib x) (d := d - i - 1) (by rwa [show d - i - 1 + 1 = d - i by omega])
  rwa [sib_sib, show d - i - 1 + 1 = d - i by omega] at h2
/-- rows one behind the other, each with its level ahead -/
def flatFrom : Nat → List (List Nat) → List (Nat × Nat)
  | _, [] => []
  | i, N :: M => N.map (fun k => (i, k)) ++ flatFrom (i + 1) M
abbrev flat (M : List (List Nat)) : List (Nat × Nat) := flatFrom 0 M
/-- how many lie on the first i levels -/
def pre (M : List (List Nat)) (i : Nat) : Nat := ((M.take i).map List.length).sum
theorem pre_zero (M : List (List Nat)) : pre M 0 = 0 := by simp [pre]
theorem pre_succ {M : List (List Nat)} {i : Nat} (h : i < M.length) : pre M (i + 1) = pre M i + (M[i]).length := by
  unfold pre
  rw [← List.take_append_getElem h, List.map_append, List.sum_append]
  simp
theorem pre_cons (N : List Nat) (M : List (List Nat)) (i : Nat) : pre (N :: M) (i + 1) = N.length + pre M i := by simp [pre]
theorem flat_len : ∀ (M : List (List Nat)) (i : Nat), (flatFrom i M).length = pre M M.length
  | [], i => by simp [flatFrom, pre]
  | N :: M, i => by rw [flatFrom, List.length_append, List.length_map, flat_len M (i + 1), List.length_cons, pre_cons]
theorem flat_get : ∀ (M : List (List Nat)) (s i j : Nat) (h : i < M.length) (hj : j < (M[i]).length), (flatFrom s M)[pre M i + j]? = some (s + i, (M[i])[j])
  | N :: M, s, 0, j, h, hj => by
    have hj' : j < N.length := hj
    rw [flatFrom, pre_zero, Nat.zero_add, List.getElem?_append_left (by simpa using hj')]
    simp [hj']
  | N :: M, s, i + 1, j, h, hj => by
    have h' : i < M.length := by simpa using h
    rw [flatFrom, pre_cons, Nat.add_assoc, List.getElem?_append_right (by simp), List.length_map, Nat.add_sub_cancel_left]
    have := flat_get M (s + 1) i j h' (by simpa using hj)
    rw [this]
    simp
    omega
theorem pre_mono {M : List (List Nat)} {i j : Nat} (h : i ≤ j) (hj : j ≤ M.length) : pre M i ≤ pre M j := by
  induction j with
  | zero => have : i = 0 := by omega
            subst this; exact Nat.le_refl _
  | succ j ih =>
    by_cases e : i = j + 1
    · subst e; exact Nat.le_refl _
    · have := ih (by omega) (by omega)
      rw [pre_succ (by omega)]
      omega
theorem pre_lt {M : List (List Nat)} {i j : Nat} (h : i < M.length) (hj : j < (M[i]).length) : pre M i + j < pre M M.length := by
  have := pre_mono (M := M) (i := i + 1) (j := M.length) (by omega) (Nat.le_refl _)
  rw [pre_succ h] at this
  omega
theorem pre_bound {M : List (List Nat)} {B : Nat} (h : ∀ N ∈ M, N.length ≤ B) : ∀ i, i ≤ M.length → pre M i ≤ B * i
  | 0, _ => by simp [pre]
  | i + 1, hi => by
    have := pre_bound h i (by omega)
    have := h _ (List.getElem_mem (show i < M.length by omega))
    rw [pre_succ (by omega), Nat.mul_succ]
    omega
theorem nodup_le : ∀ {A B : List Nat}, A.Nodup → (∀ x ∈ A, x ∈ B) → A.length ≤ B.length
  | [], _, _, _ => Nat.zero_le _
  | a :: A, B, h, hs => by
    obtain ⟨h1, h2⟩ := List.nodup_cons.1 h
    have ha := hs a (by simp)
    have := nodup_le (B := B.erase a) h2 fun x hx => (List.mem_erase_of_ne (fun e : x = a => h1 (e ▸ hx))).2 (hs x (by simp [hx]))
    rw [List.length_erase_of_mem ha] at this
    have := List.length_pos_of_mem ha
    simp
    omega
/-- a level needs no more than it knows -/
theorem need_le {K N : List Nat} (h : Need K N) : N.length ≤ K.length := by
  have hn : N.Nodup := h.1.imp fun h => Nat.ne_of_lt h
  have hs : ∀ x ∈ N.map sib, x ∈ K := by
    intro x hx
    obtain ⟨y, hy, rfl⟩ := List.mem_map.1 hx
    exact ((h.2 y).1 hy).1
  have hn2 : (N.map sib).Nodup := by
    rw [List.nodup_iff_pairwise_ne, List.pairwise_map]
    exact (List.nodup_iff_pairwise_ne.1 hn).imp fun h e => h (sib_inj e)
  simpa using nodup_le hn2 hs
/-- positions: one at least, rising, all below n -/
def standsP (P : List Nat) (n : Nat) : Bool := decide (P ≠ [] ∧ P.Pairwise (· < ·) ∧ ∀ x ∈ P, x < n)
theorem rising_last {P : List Nat} (h : P.Pairwise (· < ·)) (h0 : P ≠ []) {n : Nat} : (∀ x ∈ P, x < n) ↔ P.getLast h0 < n := by
  constructor
  · intro h1; exact h1 _ (List.getLast_mem h0)
  · intro h1 x hx
    obtain ⟨i, hi, rfl⟩ := List.getElem_of_mem hx
    rw [List.getLast_eq_getElem] at h1
    rw [List.pairwise_iff_getElem] at h
    by_cases e : i = P.length - 1
    · subst e; exact h1
    · have := h i (P.length - 1) hi (by omega) (by omega)
      omega
theorem stands_parts {P : List Nat} {n : Nat} (h : standsP P n = true) : P ≠ [] ∧ P.Pairwise (· < ·) ∧ ∀ x ∈ P, x < n := of_decide_eq_true h
end Go.Proofs.YtmnklonoelpidaaGreatDoor
/- What is kept of memory; what the body of a round over a function ends in. -/
namespace Go.Proofs.YtmnklonoelpidaaGreatDoor
open Go.RowKit

/-- whatever lay in the blocks that S names lies as it lay -/
structure Kept (S : Nat → Prop) (w w' : World) : Prop where
  os : w'.os = w.os
  tape : w'.tape = w.tape
  output : w'.output = w.output
  size : w.heap.size ≤ w'.heap.size
  block : ∀ k, k < w.heap.size → S k → w'.heap[k]? = w.heap[k]?
theorem Kept.refl (S : Nat → Prop) (w : World) : Kept S w w := ⟨rfl, rfl, rfl, Nat.le_refl _, fun _ _ _ => rfl⟩
theorem Kept.trans {S : Nat → Prop} {w w1 w2 : World} (h : Kept S w w1) (k : Kept S w1 w2) : Kept S w w2 :=
  ⟨k.os.trans h.os, k.tape.trans h.tape, k.output.trans h.output, Nat.le_trans h.size k.size, fun j hj hS => (k.block j (Nat.lt_of_lt_of_le hj h.size) hS).trans (h.block j hj hS)⟩
theorem Kept.less {S T : Nat → Prop} {w w' : World} (h : Kept S w w') (hT : ∀ j, j < w.heap.size → T j → S j) : Kept T w w' := ⟨h.os, h.tape, h.output, h.size, fun j hj hS => h.block j hj (hT j hj hS)⟩
theorem Kept.of_below {S : Nat → Prop} {B : Nat} {w w' : World} (h : Below B w w') (hS : ∀ j, S j → j < B) : Kept S w w' := ⟨h.os, h.tape, h.output, h.size, fun j _ hj => h.block j (hS j hj)⟩
theorem Kept.below {S : Nat → Prop} {B : Nat} {w w' : World} (h : Kept S w w') (hB : B ≤ w.heap.size) (hS : ∀ j, j < B → S j) : Below B w w' := ⟨h.os, h.tape, h.output, h.size, fun j hj => h.block j (by omega) (hS j hj)⟩
theorem Kept.drew {S : Nat → Prop} {a w : World} (h : Kept S a w) : Kept S a w.drew := ⟨h.os, h.tape, h.output, h.size, h.block⟩
theorem Kept.grown {S : Nat → Prop} {a w w' : World} {row : Option Nat} (h : Kept S a w) (g : w.grownBy w' row) (hr : ∀ j, some j = row → j < a.heap.size → ¬ S j) : Kept S a w' :=
  ⟨g.os.trans h.os, g.tape.trans h.tape, g.output.trans h.output, Nat.le_trans h.size g.size, fun j hj hS => (g.block j (Nat.lt_of_lt_of_le hj h.size) fun e => hr j e hj hS).trans (h.block j hj hS)⟩
theorem Kept.alloc {S : Nat → Prop} {a w : World} (h : Kept S a w) (o : Obj) : Kept S a (w.alloc o) := h.grown (World.grownBy_alloc w o none) (fun _ e => by cases e)
theorem Kept.putObj (S : Nat → Prop) (w : World) (l : Nat) (o : Obj) (hl : ¬ S l) : Kept S w (w.putObj l o) :=
  ⟨rfl, rfl, rfl, by simp [World.putObj], fun j _ hS => World.putObj_heap_other (fun e => hl (e ▸ hS))⟩
theorem Kept.setCell {S : Nat → Prop} {a w : World} (h : Kept S a w) (b o : Nat) (v : Value) (hb : b < a.heap.size → ¬ S b) : Kept S a (w.setCell ⟨b, o, none⟩ v) :=
  ⟨h.os, h.tape, h.output, by rw [show (w.setCell ⟨b, o, none⟩ v).heap.size = w.heap.size from by simp [World.setCell]]; exact h.size, fun j hj hS => (Below.heap_setCell _ _ _ _ (show j ≠ b from fun e => by subst e; exact hb hj hS)).trans (h.block j hj hS)⟩
theorem Kept.to_grown {w w' : World} {b : Nat} (h : Kept (· ≠ b) w w') : w.grownBy w' (some b) := ⟨h.os, h.tape, h.output, h.size, fun j hj hne => h.block j hj fun e => hne (by rw [e])⟩
theorem Kept.of_grown {w w' : World} {b : Nat} (h : w.grownBy w' (some b)) : Kept (· ≠ b) w w' := ⟨h.os, h.tape, h.output, h.size, fun j hj hne => h.block j hj fun e => hne (Option.some.inj e)⟩

theorem calls_of_wp_marks {P : Program} {f : FuncId} {fn : Func} {c : Code} {args : Array Value} {w : World} {R : Ending → World → Prop}
    (hf : P.funcs[f]? = some fn) (hb : fn.body = some c) (h : c.wp P (bodyPostM Fence.wide 0 P fn R) { tmps := args ++ Array.replicate (fn.ntmps - args.size) undef, defers := [] } w) : Calls P f args w R :=
  (callsIn_wide (n := 0)).1 (callsIn_of_wp_marks hf hb trivial (wpIn_wide.2 h) rfl)

/-- what the body of a round ends in -/
def roundKept (S : Nat → Prop) (R : World → Prop) (W : World) : Exit → Act → World → Prop
  | .normal, _, W' => Kept S W W' ∧ R W'
  | _, _, _ => False

theorem own_kept {S : Nat → Prop} {base m : Nat} {e : TypeId} {v : Value} {xs : List Value} {w w' : World} (h : w.ownsRow base e 1 v m xs) (hk : Kept S w w') (hS : ∀ j, base ≤ j → S j) : w'.ownsRow base e 1 v m xs := by
  refine ⟨h.1, ?_⟩
  rcases h.2 with h | ⟨g, cap, cur, h0, h1, h2, h3⟩
  · exact .inl h
  · exact .inr ⟨g, cap, cur, h0, h1, (hk.block g (Array.getElem?_eq_some_iff.1 h2).1 (hS g h1)).trans h2, h3⟩
theorem step_append_in {F : Fence} {n : Nat} {P : Program} {ops : Array Oper} {o : Oper} {a : Act} {K : Act → World → Prop} {Q : Exit → Act → World → Prop} {E : Prop} {w w2 : World} {v u v2 : Value} (hgd : o.guard = none) (s x : Operand) (t : TypeId)
    (ho : o.op = .call { callee := .builtin .append, args := #[s, x], argTypes := #[t, t] }) (hs : a.eval s = v) (hx : a.eval x = u) (hrun : (Builtin.append_ #[t, t] o.type #[v, u]).run P w = .ok v2 w2)
    (h : K (a.put o.dst v2) w2) : if Region.wanted o (yielded ops a.tmps) = true then Oper.wpIn F n P o a w K Q else E := by
  have hw : Region.wanted o (yielded ops a.tmps) = true := by simp [Region.wanted, hgd]
  rw [if_pos hw]
  unfold Oper.wpIn
  refine ⟨?_, ?_⟩
  · simp [Oper.about, ho, resolve, Target.leads, Sem.run_pure]
  · rw [Oper.semAt_plain F _ _ (by rw [ho]; intro c hc'; cases hc')]
    simp [execOp, ho, resolve, invoke, builtin, hs, hx, hrun, Result.andThen]
    exact h
end Go.Proofs.YtmnklonoelpidaaGreatDoor
/- Ranges over a function whose iterator makes a block of its own, hands it over, and writes it between two rounds: what the caller owes, at the wide fence. -/
namespace Go.Proofs.YtmnklonoelpidaaGreatDoor
open Go.RowKit

/-- what is asked of an iterator that makes a block of its own, the next one, and hands it over N times: Pos m k: how the block m stands behind k rounds; it reads the blocks of Cap -/
def HandsOwn (P : Program) (gf : Nat) (lb : Array Value) (enc : Nat → Array Value) (Cap : List Nat) (Pos : Nat → Nat → World → Prop) (N : Nat) (ok : World → Prop) : Prop :=
  ∀ (l : Nat) (J : Nat → World → Prop) (W : World), ok W → (∀ j ∈ Cap, j < W.heap.size) →
    (∀ k W1 W', k < N → J k W1 → Kept (· ≠ W.heap.size) W1 W' → W.heap.size < W'.heap.size → Pos W.heap.size k W' → YieldAt Fence.wide 0 P l (enc W.heap.size) W' fun e W'' => e = .returned (.bool true) ∧ J (k + 1) W'' ∧ Kept (fun j => j ∈ Cap ∨ j = W.heap.size) W' W'') →
    J 0 W → Calls P gf (#[.func (.yield l) #[] #[]] ++ lb) W fun e W' => (∃ v, e = .returned v) ∧ ∃ W1, J N W1 ∧ Kept (· ≠ W.heap.size) W1 W'

theorem wp_rangeFunc_own {P : Program} {g : Operand} {ps : Array Tmp} {assign body : Code} {Q : Exit → Act → World → Prop} {a : Act} {w : World}
    {gf : Nat} {lb : Array Value} (hg : a.eval g = .func (.func gf) #[] lb) (eg : ∀ args w, (callFunc gf args).run P w = .ok (.enter gf args) w)
    {enc : Nat → Array Value} {Cap : List Nat} {Pos : Nat → Nat → World → Prop} {N : Nat} {ok : World → Prop} (hseq : HandsOwn P gf lb enc Cap Pos N ok) (hps : ∀ m, (enc m).size = ps.size)
    (lo : Nat) (hlo : w.heap.size = lo) (hok : ∀ W', Below lo w W' → ok W') (hcap : ∀ j ∈ Cap, j < lo)
    (Own : List Nat) (hown : ∀ j ∈ Own, j ∉ Cap)
    (hPos : ∀ k W W', Pos (lo + 2) k W → W'.heap[lo + 2]? = W.heap[lo + 2]? → Pos (lo + 2) k W')
    (R : Nat → World → Prop) (hR : ∀ k W W', R k W → Kept (fun j => j < lo ∨ lo + 3 ≤ j) W W' → R k W') (h0 : R 0 w) (a₁ : Nat → Act)
    (hassign : ∀ (l : Nat) (W : World) (K : Act → World → Prop), K (a₁ (lo + 2)) W →
      assign.wpIn (Fence.wide.inRound l) 0 P (Exit.then K (fun _ _ _ => False)) { tmps := (ps.zip (enc (lo + 2))).foldl (fun t (p, v) => t.setIfInBounds p v) a.tmps, defers := [] } W)
    (hbody : ∀ (l : Nat) (k : Nat) (W : World), k < N → lo + 3 ≤ W.heap.size → R k W → Pos (lo + 2) k W →
      body.wpIn (Fence.wide.inRound l) 0 P (roundKept (fun j => (j < lo ∧ j ∉ Own) ∨ (lo ≤ j ∧ j < lo + 3)) (R (k + 1)) W) (a₁ (lo + 2)) W)
    (hdone : ∀ (W : World), R N W → Kept (fun j => j < lo ∧ j ∉ Own) w W → W.heap[lo]? = some (.deferred (some [])) → Q .normal { a with defers := { target := .collected lo, args := #[] } :: a.defers } W) :
    (Code.rangeFunc g ps assign body).wp P Q a w := by
  refine (wpIn_wide (n := 0)).1 (wpIn_rangeFunc ?_)
  intro fn hfn
  obtain ⟨rec, hrec⟩ : ∃ rec : LoopState → Option Code → Loop, rec = fun st pe => { state := st, pending := pe, fn, tmps := a.tmps, params := ps, assign, body, defers := lo } := ⟨_, rfl⟩
  obtain ⟨W1, hW1⟩ : ∃ W1, (w.alloc (.deferred (some []))).alloc (.loop (rec .ready none)) = W1 := ⟨_, rfl⟩
  have hz1 : W1.heap.size = lo + 2 := by rw [← hW1]; simp [hlo]
  have hL1 : W1.heap[lo + 1]? = some (.loop (rec .ready none)) := by
    rw [← hW1]; have := World.alloc_heap_new (w.alloc (.deferred (some []))) (.loop (rec .ready none)); rwa [World.size_alloc, hlo] at this
  have hK1 : W1.heap[lo]? = some (.deferred (some [])) := by
    rw [← hW1]
    have := World.alloc_heap_new w (.deferred (some []))
    rw [hlo] at this
    exact (Below.heap_alloc _ _ _ (by simp; omega)).trans this
  have hb1 : Below lo w W1 := by
    rw [← hW1]
    have := Below.refl lo w
    exact (this.alloc (by omega) _).alloc (by simp; omega) _
  refine ⟨w.heap.size + 1, [{ target := .collected w.heap.size, args := #[] }], W1, { target := .fn (.func gf) lb, args := #[.func (.yield (w.heap.size + 1)) #[] #[]] }, W1, gf,
    #[.func (.yield (w.heap.size + 1)) #[] #[]] ++ lb, W1, ?_, ?_, ?_, ?_, fun h => by simp [Fence.wide] at h, ?_⟩
  · rw [← hW1, hrec, ← hlo]; exact run_enterLoop_outer _ _ _ _ _
  · simp only [resolve, hg]
    simp [go_sem]
  · intro f' hf'; trivial
  · simp [invoke, go_sem, eg]
  · refine callsIn_wide.2 ?_
    rw [hlo]
    have key := hseq (lo + 1)
      (fun k W => R k W ∧ Kept (fun j => j < lo ∧ j ∉ Own) w W ∧ W.heap[lo + 1]? = some (.loop (rec .ready none)) ∧ W.heap[lo]? = some (.deferred (some [])) ∧ lo + 2 ≤ W.heap.size)
      W1 (hok W1 hb1) (fun j hj => by have := hcap j hj; omega) ?_ ⟨hR 0 _ _ h0 ⟨hb1.os, hb1.tape, hb1.output, hb1.size, fun j hj _ => hb1.block j (by omega)⟩, Kept.of_below hb1 fun j hj => hj.1, hL1, hK1, by omega⟩
    · refine key.mono ?_
      rintro e W2' ⟨⟨v, rfl⟩, W2, ⟨hr, hb, hl, hk, hz⟩, hkeep⟩
      rw [hz1] at hkeep
      have hl' : W2'.heap[lo + 1]? = some (.loop (rec .ready none)) := (hkeep.block _ (by omega) (by omega)).trans hl
      have hk' : W2'.heap[lo]? = some (.deferred (some [])) := (hkeep.block _ (by omega) (by omega)).trans hk
      refine ⟨none, _, by have := run_endLoop (P := P) hl' (by rw [hrec]; simp); rw [hrec] at this; exact this, ?_⟩
      have keep : ∀ j, j ≠ lo + 1 → (W2'.putObj (lo + 1) (.loop { rec .ready none with state := .exhausted })).heap[j]? = W2'.heap[j]? := fun j hj => World.putObj_heap_other (by omega)
      have kk : Kept (fun j => j < lo ∨ lo + 3 ≤ j) W2 (W2'.putObj (lo + 1) (.loop { rec .ready none with state := .exhausted })) :=
        (hkeep.less (fun j _ hj => by omega)).trans (Kept.putObj _ _ _ _ (by omega))
      have hq := hdone _ (hR N _ _ hr kk) (hb.trans (kk.less fun j _ hj => .inl hj.1)) ((keep _ (by omega)).trans hk')
      rw [hrec] at hq
      exact hq
    · rw [hz1]
      rintro k W W' hkN ⟨hr, hb, hl, hk, hz⟩ hbut hsz' hp'
      have hl' : W'.heap[lo + 1]? = some (.loop (rec .ready none)) := (hbut.block _ (by omega) (by omega)).trans hl
      have hk' : W'.heap[lo]? = some (.deferred (some [])) := (hbut.block _ (by omega) (by omega)).trans hk
      have hr' : R k W' := hR k _ _ hr (hbut.less fun j _ hj => by omega)
      have hb' : Kept (fun j => j < lo ∧ j ∉ Own) w W' := hb.trans (hbut.less fun j _ hj => by omega)
      have hy := run_yield (P := P) (args := enc (lo + 2)) hl' (by rw [hrec]; exact hps _)
      rw [hrec] at hy
      have hlt' : lo + 1 < W'.heap.size := by omega
      refine ⟨fn, _, assign, body, hy, roundIn_of_wpIn hfn (hassign _ W' _ ⟨_, run_beginRound hl' (by rw [hrec]), ?_⟩)⟩
      obtain ⟨Wb, hWb⟩ : ∃ Wb, W'.putObj (lo + 1) (.loop { rec .ready none with state := .busy }) = Wb := ⟨_, rfl⟩
      have hl2 : Wb.heap[lo + 1]? = some (.loop { rec .ready none with state := .busy }) := by rw [← hWb]; exact World.putObj_heap_same hlt'
      have keepb : ∀ j, j ≠ lo + 1 → Wb.heap[j]? = W'.heap[j]? := fun j hj => by rw [← hWb]; exact World.putObj_heap_other (by omega)
      have hzb : Wb.heap.size = W'.heap.size := by rw [← hWb]; simp [World.putObj]
      have kb : Kept (fun j => j ≠ lo + 1) W' Wb := by rw [← hWb]; exact Kept.putObj _ _ _ _ (by simp)
      have hbb := hbody (lo + 1) k Wb hkN (by omega) (hR k _ _ hr' (kb.less fun j _ hj => by omega)) (hPos k _ _ hp' (keepb _ (by omega)))
      rw [← hWb] at hbb hl2 keepb hzb kb
      refine wpIn_mono hbb ?_
      rw [hWb] at hl2 keepb hzb kb ⊢
      rintro e a3 W3 hp3
      cases e with
      | normal =>
        obtain ⟨hb3, hr3⟩ := hp3
        have hl3 : W3.heap[lo + 1]? = some (.loop { rec .ready none with state := .busy }) := (hb3.block _ (by omega) (.inr ⟨by omega, by omega⟩)).trans hl2
        have hk3 : W3.heap[lo]? = some (.deferred (some [])) := (hb3.block _ (by omega) (.inr ⟨by omega, by omega⟩)).trans ((keepb _ (by omega)).trans hk')
        have hend : (Instr.endRound (lo + 1) none).run P W3 = .ok (.bool true) (W3.putObj (lo + 1) (.loop (rec .ready none))) := by
          have := run_endRound (P := P) none hl3
          rw [hrec] at this ⊢
          exact this
        have hz3 := hb3.size
        have ke : Kept (fun j => j ≠ lo + 1) W3 (W3.putObj (lo + 1) (.loop (rec .ready none))) := Kept.putObj _ _ _ _ (by simp)
        refine ⟨_, _, hend, rfl, ⟨hR _ _ _ hr3 (ke.less fun j _ hj => by omega), ?_, World.putObj_heap_same (by omega), (World.putObj_heap_other (by omega)).trans hk3, by simp [World.putObj]; omega⟩, ?_⟩
        · exact ((hb'.trans (kb.less fun j _ hj => by omega)).trans (hb3.less fun j _ hj => .inl hj)).trans (ke.less fun j _ hj => by omega)
        · refine ((kb.less fun j _ hj => ?_).trans (hb3.less fun j _ hj => ?_)).trans (ke.less fun j _ hj => ?_)
          · rcases hj with hj | hj
            · have := hcap j hj; omega
            · omega
          · rcases hj with hj | hj
            · exact .inl ⟨hcap j hj, fun h => hown j h hj⟩
            · exact .inr ⟨by omega, by omega⟩
          · rcases hj with hj | hj
            · have := hcap j hj; omega
            · omega
      | ret => exact hp3.elim
      | exit id => exact hp3.elim
      | goto t => exact hp3.elim
      | panic ch => exact hp3.elim
      | outgrown => exact hp3.elim
end Go.Proofs.YtmnklonoelpidaaGreatDoor
/- Layout: parents, what stands, turned bits, leaves, elements, the depth (what the tree asks). -/
namespace Go.Proofs
open Go.Shelf
def Tryz.lays129_ren : Go.Shelf.Ren := ⟨fun | 129 => 159 | n => n, fun | 53 => 22 | 3 => 3 | 4 => 4 | 46 => 141 | 5 => 5 | 9 => 9 | n => n, fun | n => n⟩
theorem Tryz.lays129 : Go.Proofs.Lays.n129 Tryz.prog Tryz.lays129_ren := {
  mixed := by kernel_rfl
  f129 := Tryz.func159.trans (congrArg some (by kernel_rfl))
  t3 := Tryz.underlying3
  a3 := Tryz.isAgg3
  z3 := Tryz.sizeOf3
  v3 := Tryz.zeroValue3
  t4 := Tryz.underlying4
  a4 := Tryz.isAgg4
  z4 := Tryz.sizeOf4
  v4 := Tryz.zeroValue4
  t5 := Tryz.underlying5
  a5 := Tryz.isAgg5
  z5 := Tryz.sizeOf5
  v5 := Tryz.zeroValue5
  t9 := Tryz.underlying9
  a9 := Tryz.isAgg9
  z9 := Tryz.sizeOf9
  v9 := Tryz.zeroValue9
  t46 := Tryz.underlying141
  a46 := Tryz.isAgg141
  z46 := Tryz.sizeOf141
  v46 := Tryz.zeroValue141
  t53 := Tryz.underlying22
  a53 := Tryz.isAgg22
  z53 := Tryz.sizeOf22
  v53 := Tryz.zeroValue22 }
theorem Tryz.bits_Len64 (x : Int) (w : World) (h0 : 0 ≤ x) (h1 : x ≤ 18446744073709551615) :
    Calls Tryz.prog 159 #[.int .u64 x] w fun e w' => e = .returned (.int .i64 (Lib.bitLen x.toNat)) ∧ w' = w := Any.bits_Len64 Tryz.lays129 x w h0 h1
end Go.Proofs
namespace Go.Proofs.YtmnklonoelpidaaGreatDoor
open Go.RowKit

theorem parent_any (k : Nat) (hk : k < 18446744073709551616) (w : World) : Calls Tryz.prog 184 #[.int .u64 (k : Int)] w fun e w' => e = .returned (.int .u64 ((k / 2 : Nat) : Int)) ∧ w = w' := by
  go_enter Tryz.func184, Tryz.ntmps184
  go_wp2
  go_ret
  refine ⟨?_, rfl⟩
  congr 2
/-- does a number stand on the lowest level of this depth? -/
def standsB (k : Nat) (d : Int) : Bool := decide (0 ≤ d) && (decide (d ≤ 16) && decide (k < 2 ^ d.toNat))
theorem stands_any (k : Nat) (d : Int) (w : World) : Calls Tryz.prog 161 #[.int .u64 (k : Int), .int .i64 d] w fun e w' => e = .returned (.bool (standsB k d)) ∧ w = w' := by
  by_cases h0 : 0 ≤ d
  · by_cases h1 : d ≤ 16
    · obtain ⟨n, rfl⟩ : ∃ n : Nat, d = (n : Int) := ⟨d.toNat, by omega⟩
      have hp : 2 ^ n ≤ 2 ^ 16 := Nat.pow_le_pow_right (by decide) (by omega)
      have hc : ((2 : Int) ^ n) = ((2 ^ n : Nat) : Int) := by simp
      have hP : standsB k (n : Int) = decide ((k : Int) < (2 : Int) ^ n) := by
        have : ((k : Int) < ((2 ^ n : Nat) : Int)) ↔ k < 2 ^ n := Int.ofNat_lt
        rw [hc]
        simp only [this]
        simp [standsB, h1]
      have hw : IntKind.u64.wrap ((2 : Int) ^ n) = (2 : Int) ^ n := by
        rw [IntKind.wrap_u64, hc]
        generalize 2 ^ n = p at hp ⊢
        omega
      rw [hP]
      clear hc hP hp
      go_enter Tryz.func161, Tryz.ntmps161
      go_wp2
      go_ret
      exact ⟨rfl, rfl⟩
    · have hP : standsB k d = false := by simp [standsB, h1]
      rw [hP]
      go_enter Tryz.func161, Tryz.ntmps161
      go_wp2
      go_ret
      exact ⟨rfl, rfl⟩
  · have hP : standsB k d = false := by simp [standsB, h0]
    rw [hP]
    go_enter Tryz.func161, Tryz.ntmps161
    go_wp2
    go_ret
    exact ⟨rfl, rfl⟩

theorem swap_val (s m : Nat) (c : Int) (hm : m < 18446744073709551616) (hc : c = ((2 ^ s : Nat) : Int)) (x : Nat) (hx : x < 18446744073709551616) :
    bits .or .u64 (bits .and .u64 ((x : Int) / c) (m : Int)) (IntKind.u64.wrap (bits .and .u64 (x : Int) (m : Int) * c)) = ((swap s m x : Nat) : Int) := by
  have h0 : x / 2 ^ s < 18446744073709551616 := Nat.lt_of_le_of_lt (Nat.div_le_self _ _) hx
  subst hc
  rw [← Int.natCast_ediv, u64_and_nat _ _ h0 hm, u64_and_nat _ _ hx hm, IntKind.wrap_u64, ← Int.natCast_mul, show (18446744073709551616 : Int) = ((18446744073709551616 : Nat) : Int) from rfl, ← Int.natCast_emod,
    u64_or_nat _ _ (Nat.lt_of_le_of_lt Nat.and_le_right hm) (Nat.mod_lt _ (by decide))]
  rfl
theorem swap_top (x : Nat) (hx : x < 18446744073709551616) : bits .or .u64 ((x : Int) / 4294967296) (IntKind.u64.wrap ((x : Int) * 4294967296)) = ((swap 32 4294967295 x : Nat) : Int) := by
  have h0 : x / 4294967296 < 18446744073709551616 := Nat.lt_of_le_of_lt (Nat.div_le_self _ _) hx
  rw [show (4294967296 : Int) = ((4294967296 : Nat) : Int) from rfl, ← Int.natCast_ediv, IntKind.wrap_u64, ← Int.natCast_mul, show (18446744073709551616 : Int) = ((18446744073709551616 : Nat) : Int) from rfl, ← Int.natCast_emod,
    u64_or_nat _ _ h0 (Nat.mod_lt _ (by decide))]
  congr 1
  rw [swap, show (4294967295 : Nat) = 2 ^ 32 - 1 from rfl, Nat.and_two_pow_sub_one_eq_mod, Nat.and_two_pow_sub_one_eq_mod, show (2 : Nat) ^ 32 = 4294967296 from rfl]
  have e1 : x / 4294967296 % 4294967296 = x / 4294967296 := by omega
  have e2 : x % 4294967296 * 4294967296 % 18446744073709551616 = x * 4294967296 % 18446744073709551616 := by omega
  rw [e1, e2]
theorem revB_any (x : Nat) (hx : x < 18446744073709551616) (w : World) : Calls Tryz.prog 175 #[.int .u64 (x : Int)] w fun e w' => e = .returned (.int .u64 ((swap 32 4294967295 (swap 16 281470681808895 (swap 8 71777214294589695 x)) : Nat) : Int)) ∧ w = w' := by
  have h8 := swap_val 8 71777214294589695 256 (by decide) rfl x hx
  have h16 := swap_val 16 281470681808895 65536 (by decide) rfl (swap 8 71777214294589695 x) (swap_lt (by decide))
  have h32 := swap_top (swap 16 281470681808895 (swap 8 71777214294589695 x)) (swap_lt (by decide))
  have H8 := Lib.hid h8
  have H16 := Lib.hid h16
  have H32 := Lib.hid h32
  clear h8 h16 h32
  go_enter Tryz.func175, Tryz.ntmps175
  go_wp2
  go_ret
  refine ⟨?_, rfl⟩
  have e8 := H8.out
  have e16 := H16.out
  have e32 := H32.out
  rw [← e32, ← e16, ← e8]
  rfl
theorem rev_any (x : Nat) (hx : x < 18446744073709551616) (w : World) : Calls Tryz.prog 162 #[.int .u64 (x : Int)] w fun e w' => e = .returned (.int .u64 ((flip64 x : Nat) : Int)) ∧ w = w' := by
  have H1 := Lib.hid (swap_val 1 6148914691236517205 2 (by decide) rfl x hx)
  obtain ⟨x1, hx1⟩ : ∃ x1, swap 1 6148914691236517205 x = x1 := ⟨_, rfl⟩
  have l1 : x1 < 18446744073709551616 := by rw [← hx1]; exact swap_lt (by decide)
  have H2 := Lib.hid (swap_val 2 3689348814741910323 4 (by decide) rfl x1 l1)
  obtain ⟨x2, hx2⟩ : ∃ x2, swap 2 3689348814741910323 x1 = x2 := ⟨_, rfl⟩
  have l2 : x2 < 18446744073709551616 := by rw [← hx2]; exact swap_lt (by decide)
  have H4 := Lib.hid (swap_val 4 1085102592571150095 16 (by decide) rfl x2 l2)
  obtain ⟨x4, hx4⟩ : ∃ x4, swap 4 1085102592571150095 x2 = x4 := ⟨_, rfl⟩
  have l4 : x4 < 18446744073709551616 := by rw [← hx4]; exact swap_lt (by decide)
  have hf : flip64 x = swap 32 4294967295 (swap 16 281470681808895 (swap 8 71777214294589695 x4)) := by rw [flip64, hx1, hx2, hx4]
  rw [hf]
  rw [hx1] at H1
  rw [hx2] at H2
  rw [hx4] at H4
  have HC := Lib.hid (show ∀ (z : Int) (w : World), z = (x4 : Int) → Calls Tryz.prog 175 #[.int .u64 z] w fun e w' => e = .returned (.int .u64 ((swap 32 4294967295 (swap 16 281470681808895 (swap 8 71777214294589695 x4)) : Nat) : Int)) ∧ w = w' from fun z w hz => by rw [hz]; exact revB_any x4 l4 w)
  clear hf hx1 hx2 hx4
  go_enter Tryz.func162, Tryz.ntmps162
  go_wp2_with (go_at_call 175; refine (HC.out _ _ (by rw [← H4.out, ← H2.out, ← H1.out]; rfl)).mono ?_; rintro e w' ⟨rfl, rfl⟩)
  go_ret
  exact ⟨rfl, rfl⟩
theorem shr_val (d : Nat) (hd : d ≤ 16) (k : Nat) : ((flip64 k : Nat) : Int) / (2 : Int) ^ (64 - d) = ((turn d 0 k : Nat) : Int) := by
  rw [← flip_turn (by omega), Int.natCast_ediv]
  simp
/-- a number turned by d bits, if it stands -/
def turnB (k : Nat) (d : Int) : Nat := if standsB k d = true then turn d.toNat 0 k else 0
theorem yturned_any (k : Nat) (hk : k < 18446744073709551616) (d : Int) (w : World) : Calls Tryz.prog 133 #[.int .u64 (k : Int), .int .i64 d] w fun e w' => e = .returned (.int .u64 (turnB k d : Int)) ∧ w = w' := by
  have HS := Lib.hid (stands_any k d w)
  have HR := Lib.hid (rev_any k hk w)
  by_cases hs : standsB k d = true
  · have hd : 0 ≤ d ∧ d ≤ 16 := by simp [standsB] at hs; omega
    obtain ⟨n, rfl⟩ : ∃ n : Nat, d = (n : Int) := ⟨d.toNat, by omega⟩
    have HV := Lib.hid (shr_val n (by omega) k)
    have hT : turnB k (n : Int) = turn n 0 k := by simp [turnB, hs]
    rw [hT]
    rw [hs] at HS
    clear hT hs
    have hlt := flip64_lt k
    generalize flip64 k = f at *
    go_enter Tryz.func133, Tryz.ntmps133
    go_wp2_with (first | (go_at_call 161; refine HS.out.mono ?_; rintro e w' ⟨rfl, rfl⟩) | (go_at_call 162; refine HR.out.mono ?_; rintro e w' ⟨rfl, rfl⟩))
    go_ret
    exact ⟨by rw [← HV.out]; rfl, rfl⟩
  · have hT : turnB k d = 0 := by simp [turnB, hs]
    rw [Bool.not_eq_true] at hs
    rw [hT]
    rw [hs] at HS
    clear hT hs
    go_enter Tryz.func133, Tryz.ntmps133
    go_wp2_with (first | (go_at_call 161; refine HS.out.mono ?_; rintro e w' ⟨rfl, rfl⟩))
    go_ret
    exact ⟨rfl, rfl⟩
theorem leaf_any (k : Nat) (hk : k < 18446744073709551616) (d : Int) (w : World) : Calls Tryz.prog 99 #[.int .u64 (k : Int), .int .i64 d] w fun e w' => e = .returned (.int .u64 (turnB k d : Int)) ∧ w = w' := by
  have HC := Lib.hid (yturned_any k hk d w)
  go_enter Tryz.func99, Tryz.ntmps99
  go_wp2_with (go_at_call 133; refine HC.out.mono ?_; rintro e w' ⟨rfl, rfl⟩)
  go_ret
  exact ⟨rfl, rfl⟩

theorem ylen_any (x : Nat) (hx : x < 18446744073709551616) (w : World) : Calls Tryz.prog 131 #[.int .u64 (x : Int)] w fun e w' => e = .returned (.int .i64 (Lib.bitLen x : Int)) ∧ w = w' := by
  have HC := Lib.hid (Tryz.bits_Len64 (x : Int) w (by omega) (by omega))
  go_enter Tryz.func131, Tryz.ntmps131
  go_wp2_with (go_at_call 159; refine HC.out.mono ?_; rintro e w' ⟨rfl, rfl⟩)
  go_ret
  exact ⟨by simp, rfl⟩

/-- the depth of a list of n -/
def dep (n : Nat) : Nat := Lib.bitLen (max n 1 - 1)
def depthV (n : Int) : Int := if n < 0 ∨ 65536 < n then -1 else (dep n.toNat : Int)
theorem depth_any (n : Int) (hn : -9223372036854775808 ≤ n ∧ n ≤ 9223372036854775807) (w : World) : Calls Tryz.prog 96 #[.int .i64 n] w fun e w' => e = .returned (.int .i64 (depthV n)) ∧ w = w' := by
  by_cases h1 : n < 0
  · have hd : depthV n = -1 := if_pos (.inl h1)
    rw [hd]
    clear hd
    go_enter Tryz.func96, Tryz.ntmps96
    go_wp2
    go_ret
    exact ⟨rfl, rfl⟩
  · by_cases h2 : 65536 < n
    · have hd : depthV n = -1 := if_pos (.inr h2)
      rw [hd]
      clear hd
      go_enter Tryz.func96, Tryz.ntmps96
      go_wp2
      go_ret
      exact ⟨rfl, rfl⟩
    · obtain ⟨m, rfl⟩ : ∃ m : Nat, n = (m : Int) := ⟨n.toNat, by omega⟩
      have hd : depthV (m : Int) = (dep m : Int) := by rw [depthV, if_neg (by omega)]; rfl
      obtain ⟨x, hx⟩ : ∃ x, max m 1 - 1 = x := ⟨_, rfl⟩
      have HC := Lib.hid (ylen_any x (by omega) w)
      rw [hd, dep, hx]
      have hmax : max (m : Int) 1 - 1 = (x : Int) := by omega
      clear hd hx
      generalize Lib.bitLen x = y at *
      go_enter Tryz.func96, Tryz.ntmps96
      go_wp2_with (go_at_call 131; refine HC.out.mono ?_; rintro e w2 ⟨rfl, rfl⟩)
      go_ret
      exact ⟨rfl, rfl⟩
end Go.Proofs.YtmnklonoelpidaaGreatDoor
