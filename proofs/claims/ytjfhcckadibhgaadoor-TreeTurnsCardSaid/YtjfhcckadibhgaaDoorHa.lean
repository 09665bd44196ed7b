/- Layer 8's numbers: siblings, turned bits, what is needed of a level. -/
import Derived.Laws.BitsAllLaws
import Derived.Scope
namespace Go.Proofs.YtjfhcckadibhgaaDoor

/-- the other kid of the parent -/
def sib (k : Nat) : Nat := if k % 2 = 0 then k + 1 else k - 1
theorem xor_one (k : Nat) : k ^^^ 1 = sib k := by
  have h1 : (k ^^^ 1) / 2 = k / 2 := by rw [Nat.xor_div_two]; simp
  have h2 : (k ^^^ 1) % 2 = (k + 1) % 2 := by
    have := @Nat.xor_mod_two_eq_one k 1
    rcases Nat.mod_two_eq_zero_or_one (k ^^^ 1) with h | h <;> rcases Nat.mod_two_eq_zero_or_one k with g | g <;> omega
  unfold sib
  split <;> omega
theorem sib_sib (k : Nat) : sib (sib k) = k := by unfold sib; split <;> split <;> omega
theorem sib_ne (k : Nat) : sib k ≠ k := by unfold sib; split <;> omega
theorem sib_half (k : Nat) : sib k / 2 = k / 2 := by unfold sib; split <;> omega
theorem sib_of_half {k j : Nat} (h : k / 2 = j / 2) (hne : k ≠ j) : k = sib j := by unfold sib; split <;> omega
theorem sib_inj {k j : Nat} (h : sib k = sib j) : k = j := by rw [← sib_sib k, h, sib_sib]
theorem sib_lt {k d : Nat} (h : k < 2 ^ (d + 1)) : sib k < 2 ^ (d + 1) := by
  have : 2 ^ (d + 1) = 2 * 2 ^ d := by rw [Nat.pow_succ, Nat.mul_comm]
  unfold sib
  split <;> omega
theorem sib_lt64 {k : Nat} (h : k < 18446744073709551616) : sib k < 18446744073709551616 := by unfold sib; split <;> omega

/-- a rising list is told by what is in it -/
theorem rising_eq : ∀ {N M : List Nat}, N.Pairwise (· < ·) → M.Pairwise (· < ·) → (∀ x, x ∈ N ↔ x ∈ M) → N = M
  | [], [], _, _, _ => rfl
  | [], m :: M, _, _, h => by have := (h m).2 (by simp); cases this
  | n :: N, [], _, _, h => by have := (h n).1 (by simp); cases this
  | n :: N, m :: M, h1, h2, h => by
    obtain ⟨hn, h1'⟩ := List.pairwise_cons.1 h1
    obtain ⟨hm, h2'⟩ := List.pairwise_cons.1 h2
    have e : n = m := by
      have a := (h n).1 (by simp)
      have b := (h m).2 (by simp)
      rcases List.mem_cons.1 a with e | a
      · exact e
      · rcases List.mem_cons.1 b with e | b
        · exact e.symm
        · have := hm n a
          have := hn m b
          omega
    subst e
    refine congrArg _ (rising_eq h1' h2' fun x => ⟨fun hx => ?_, fun hx => ?_⟩)
    · rcases List.mem_cons.1 ((h x).1 (by simp [hx])) with rfl | e
      · exact absurd (hn x hx) (by omega)
      · exact e
    · rcases List.mem_cons.1 ((h x).2 (by simp [hx])) with rfl | e
      · exact absurd (hm x hx) (by omega)
      · exact e

/-- N are the needed ones of a level at which those of K are known, rising -/
def Need (K N : List Nat) : Prop := N.Pairwise (· < ·) ∧ ∀ x, x ∈ N ↔ sib x ∈ K ∧ x ∉ K
theorem Need.eq {K N M : List Nat} (h : Need K N) (k : Need K M) : N = M := rising_eq h.1 k.1 fun x => (h.2 x).trans (k.2 x).symm
theorem Need.of {K K' N : List Nat} (h : Need K N) (e : ∀ x, x ∈ K ↔ x ∈ K') : Need K' N := ⟨h.1, fun x => by rw [h.2, e, e]⟩
/-- what is known on the level i -/
def upTo (L : List Nat) (i : Nat) : List Nat := L.map (· / 2 ^ i)
theorem mem_upTo {L : List Nat} {i x : Nat} : x ∈ upTo L i ↔ ∃ k ∈ L, k / 2 ^ i = x := by simp [upTo]
theorem mem_upTo_succ {L : List Nat} {i x : Nat} : x ∈ upTo L (i + 1) ↔ ∃ k ∈ upTo L i, k / 2 = x := by
  simp only [mem_upTo]
  constructor
  · rintro ⟨k, hk, rfl⟩
    exact ⟨_, ⟨k, hk, rfl⟩, by rw [Nat.div_div_eq_div_mul, Nat.pow_succ]⟩
  · rintro ⟨_, ⟨k, hk, rfl⟩, rfl⟩
    exact ⟨k, hk, by rw [Nat.div_div_eq_div_mul, Nat.pow_succ]⟩
/-- the needed ones of all levels -/
def Needs (L : List Nat) (d : Nat) (M : List (List Nat)) : Prop := M.length = d ∧ ∀ i N, M[i]? = some N → Need (upTo L i) N
theorem Needs.eq {L : List Nat} {d : Nat} {M M' : List (List Nat)} (h : Needs L d M) (k : Needs L d M') : M = M' := by
  apply List.ext_getElem (h.1.trans k.1.symm)
  intro i h1 h2
  exact (h.2 i _ (List.getElem?_eq_getElem h1)).eq (k.2 i _ (List.getElem?_eq_getElem h2))

/-- the d lowest bits of k, behind those of o, in reverse -/
def turn : Nat → Nat → Nat → Nat
  | 0, o, _ => o
  | d + 1, o, k => turn d (2 * o + k % 2) (k / 2)
theorem turn_eq : ∀ (d o k : Nat), turn d o k = o * 2 ^ d + turn d 0 k
  | 0, o, k => by simp [turn]
  | d + 1, o, k => by
    rw [turn, turn, turn_eq d (2 * o + k % 2), turn_eq d (2 * 0 + k % 2), Nat.pow_succ, Nat.add_mul, Nat.mul_comm 2 o, Nat.mul_assoc, Nat.mul_comm 2 (2 ^ d)]
    simp [Nat.add_assoc]
theorem turn_lt : ∀ (d k : Nat), turn d 0 k < 2 ^ d
  | 0, k => by simp [turn]
  | d + 1, k => by
    rw [turn, turn_eq]
    have := turn_lt d (k / 2)
    have h : k % 2 = 0 ∨ k % 2 = 1 := by omega
    rw [Nat.pow_succ]
    rcases h with h | h <;> rw [h] <;> omega
theorem turn_bit : ∀ (d k b : Nat), (turn d 0 k).testBit b = (decide (b < d) && k.testBit (d - 1 - b))
  | 0, k, b => by simp [turn]
  | d + 1, k, b => by
    rw [turn, turn_eq, show (2 * 0 + k % 2) * 2 ^ d = 2 ^ d * (k % 2) by rw [Nat.mul_comm]; simp]
    have hl := turn_lt d (k / 2)
    rw [Nat.testBit_two_pow_mul_add _ hl]
    split
    · rename_i h
      rw [turn_bit d (k / 2) b, ← Nat.testBit_succ]
      simp only [h, show b < d + 1 by omega, decide_true, Bool.true_and]
      congr 1; omega
    · rename_i h
      by_cases e : b = d
      · subst e
        simp [Nat.testBit_zero]
      · have : b - d ≠ 0 := by omega
        have h1 : k % 2 < 2 ^ (b - d) := Nat.lt_of_lt_of_le (Nat.mod_lt _ (by decide)) (by have := Nat.pow_le_pow_right (n := 2) (by decide) (show 1 ≤ b - d by omega); simpa using this)
        rw [Nat.testBit_lt_two_pow h1]
        simp [show ¬ b < d + 1 by omega]
/-- a number of one way out of its bits -/
theorem turn_turn {d k : Nat} (h : k < 2 ^ d) : turn d 0 (turn d 0 k) = k := by
  apply Nat.eq_of_testBit_eq
  intro i
  rw [turn_bit]
  by_cases hi : i < d
  · rw [turn_bit]
    simp only [hi, decide_true, Bool.true_and, show d - 1 - i < d by omega]
    congr 1; omega
  · simp only [hi, decide_false, Bool.false_and]
    exact (Nat.testBit_lt_two_pow (Nat.lt_of_lt_of_le h (Nat.pow_le_pow_right (by decide) (by omega)))).symm

/-- one step of the turning: those s apart change places, where the mask is -/
def swap (s m x : Nat) : Nat := (x / 2 ^ s &&& m) ||| ((x &&& m) * 2 ^ s % 18446744073709551616)
theorem swap_bit {s m : Nat} (hs : 0 < s) (hm : ∀ i, i < 64 → m.testBit i = decide (i / s % 2 = 0)) (x i : Nat) (hi : i < 64) : (swap s m x).testBit i = if i / s % 2 = 0 then x.testBit (i + s) else x.testBit (i - s) := by
  rw [swap, Nat.testBit_or, Nat.testBit_and, Nat.testBit_div_two_pow, show (18446744073709551616 : Nat) = 2 ^ 64 from rfl, Nat.testBit_mod_two_pow, Nat.testBit_mul_two_pow, Nat.testBit_and, hm i hi]
  simp only [hi, decide_true, Bool.true_and]
  by_cases h : i / s % 2 = 0
  · simp only [h, decide_true, Bool.and_true, if_true]
    by_cases g : s ≤ i
    · have : (i - s) / s % 2 ≠ 0 := by
        have e : i / s = (i - s) / s + 1 := by
          conv => lhs; rw [show i = (i - s) + s by omega]
          exact Nat.add_div_right _ hs
        omega
      rw [hm (i - s) (by omega)]
      simp [this]
    · simp [g]
  · have g : s ≤ i := by
      by_cases g : s ≤ i
      · exact g
      · exact absurd (by rw [Nat.div_eq_of_lt (by omega)]) h
    have : (i - s) / s % 2 = 0 := by
      have e : i / s = (i - s) / s + 1 := by
        conv => lhs; rw [show i = (i - s) + s by omega]
        exact Nat.add_div_right _ hs
      omega
    rw [hm (i - s) (by omega)]
    simp [h, this, g]
theorem swap_lt {s m x : Nat} (hm : m < 18446744073709551616) : swap s m x < 18446744073709551616 := by
  rw [swap, show (18446744073709551616 : Nat) = 2 ^ 64 from rfl]
  exact Nat.or_lt_two_pow (Nat.lt_of_le_of_lt Nat.and_le_right hm) (Nat.mod_lt _ (by decide))
/-- all 64 bits in reverse, as math/bits does it -/
def flip64 (x : Nat) : Nat :=
  swap 32 4294967295 (swap 16 281470681808895 (swap 8 71777214294589695 (swap 4 1085102592571150095 (swap 2 3689348814741910323 (swap 1 6148914691236517205 x)))))
theorem flip64_bit (x i : Nat) (hi : i < 64) : (flip64 x).testBit i = x.testBit (63 - i) := by
  have m1 : ∀ i, i < 64 → (6148914691236517205 : Nat).testBit i = decide (i / 1 % 2 = 0) := by decide
  have m2 : ∀ i, i < 64 → (3689348814741910323 : Nat).testBit i = decide (i / 2 % 2 = 0) := by decide
  have m4 : ∀ i, i < 64 → (1085102592571150095 : Nat).testBit i = decide (i / 4 % 2 = 0) := by decide
  have m8 : ∀ i, i < 64 → (71777214294589695 : Nat).testBit i = decide (i / 8 % 2 = 0) := by decide
  have m16 : ∀ i, i < 64 → (281470681808895 : Nat).testBit i = decide (i / 16 % 2 = 0) := by decide
  have m32 : ∀ i, i < 64 → (4294967295 : Nat).testBit i = decide (i / 32 % 2 = 0) := by decide
  have st : ∀ (s m y j k : Nat), 0 < s → (∀ i, i < 64 → m.testBit i = decide (i / s % 2 = 0)) → j < 64 → k = (if j / s % 2 = 0 then j + s else j - s) → (swap s m y).testBit j = y.testBit k := by
    intro s m y j k hs hm hj hk
    rw [swap_bit hs hm y j hj, hk]
    split <;> rfl
  have key : ∀ i, i < 64 → ∃ a b c d e, a < 64 ∧ b < 64 ∧ c < 64 ∧ d < 64 ∧ e < 64 ∧ a = (if i / 32 % 2 = 0 then i + 32 else i - 32) ∧ b = (if a / 16 % 2 = 0 then a + 16 else a - 16) ∧ c = (if b / 8 % 2 = 0 then b + 8 else b - 8) ∧
      d = (if c / 4 % 2 = 0 then c + 4 else c - 4) ∧ e = (if d / 2 % 2 = 0 then d + 2 else d - 2) ∧ 63 - i = (if e / 1 % 2 = 0 then e + 1 else e - 1) := by
    intro i hi
    refine ⟨_, _, _, _, _, ?_, ?_, ?_, ?_, ?_, rfl, rfl, rfl, rfl, rfl, ?_⟩
    all_goals revert i
    all_goals decide
  obtain ⟨a, b, c, d, e, ha, hb, hc, hd, he, ea, eb, ec, ed, ee, ef⟩ := key i hi
  rw [flip64, st 32 _ _ i a (by decide) m32 hi ea, st 16 _ _ a b (by decide) m16 ha eb, st 8 _ _ b c (by decide) m8 hb ec, st 4 _ _ c d (by decide) m4 hc ed, st 2 _ _ d e (by decide) m2 hd ee, st 1 _ _ e (63 - i) (by decide) m1 he ef]
theorem flip64_lt (x : Nat) : flip64 x < 18446744073709551616 := swap_lt (by decide)
theorem flip_turn {d k : Nat} (hd : d ≤ 64) : flip64 k / 2 ^ (64 - d) = turn d 0 k := by
  apply Nat.eq_of_testBit_eq
  intro i
  rw [Nat.testBit_div_two_pow, turn_bit]
  by_cases hi : i < d
  · rw [flip64_bit _ _ (by omega)]
    simp only [hi, decide_true, Bool.true_and]
    congr 1; omega
  · simp only [hi, decide_false, Bool.false_and]
    exact Nat.testBit_lt_two_pow (Nat.lt_of_lt_of_le (flip64_lt k) (show 2 ^ 64 ≤ _ from Nat.pow_le_pow_right (by decide) (by omega)))
end Go.Proofs.YtjfhcckadibhgaaDoor
