/- No thing's bytes begin another one's; numbers' bytes rise as the numbers do: as lists. -/
import Derived.Test.YtgdlfbphfogphaaDoorPe
namespace Go.Proofs.YtgdlfbphfogphaaDoor
open Go.RowKit

/-- a text's number, from its front -/
def valL : List UInt8 → Nat
  | [] => 0
  | a :: x => a.toNat * 256 ^ x.length + valL x
theorem valL_lt : ∀ x : List UInt8, valL x < 256 ^ x.length
  | [] => by simp [valL]
  | a :: x => by
    have := valL_lt x
    have ha := a.toNat_lt
    rw [valL, List.length_cons, Nat.pow_succ]
    have h2 : a.toNat * 256 ^ x.length ≤ 255 * 256 ^ x.length := Nat.mul_le_mul_right _ (by omega)
    omega
theorem less_val : ∀ x y : List UInt8, x.length = y.length → Op.bytesLess x y = decide (valL x < valL y)
  | [], [], _ => by simp [Op.bytesLess, valL]
  | [], _ :: _, h => by simp at h
  | _ :: _, [], h => by simp at h
  | a :: x, b :: y, h => by
    have hl : x.length = y.length := by simpa using h
    rw [Op.bytesLess, less_val x y hl, valL, valL, hl]
    have hx := valL_lt x
    have hy := valL_lt y
    rw [hl] at hx
    generalize 256 ^ y.length = p at hx hy
    rcases Nat.lt_trichotomy a.toNat b.toNat with h1 | h1 | h1
    · have : (a.toNat + 1) * p ≤ b.toNat * p := Nat.mul_le_mul_right _ h1
      rw [Nat.add_mul] at this
      have e1 : decide (a < b) = true := decide_eq_true (UInt8.lt_iff_toNat_lt.2 h1)
      have e2 : decide (a.toNat * p + valL x < b.toNat * p + valL y) = true := decide_eq_true (by omega)
      rw [e1, e2]; rfl
    · obtain rfl := UInt8.toNat_inj.1 h1
      have e1 : decide (a < a) = false := decide_eq_false (by rw [UInt8.lt_iff_toNat_lt]; omega)
      rw [e1]
      simp
    · have : (b.toNat + 1) * p ≤ a.toNat * p := Nat.mul_le_mul_right _ h1
      rw [Nat.add_mul] at this
      have e1 : decide (a < b) = false := decide_eq_false (by rw [UInt8.lt_iff_toNat_lt]; omega)
      have e2 : (a == b) = false := by rw [beq_eq_false_iff_ne]; rintro rfl; omega
      have e3 : decide (a.toNat * p + valL x < b.toNat * p + valL y) = false := decide_eq_false (by omega)
      rw [e1, e2, e3]; rfl

theorem valL_be (n : Nat) : ∀ k, valL (be n k) = n % 256 ^ k
  | 0 => by rw [be, valL, Nat.pow_zero, Nat.mod_one]
  | k + 1 => by
    have e : n % 256 ^ (k + 1) = n % 256 ^ k + 256 ^ k * (n / 256 ^ k % 256) := by rw [Nat.pow_succ, Nat.mod_mul]
    rw [e, be, valL, be_length, valL_be n k, UInt8.toNat_ofNat', Nat.add_comm, Nat.mul_comm]
theorem be_inj {a b k : Nat} (ha : a < 256 ^ k) (hb : b < 256 ^ k) (h : be a k = be b k) : a = b := by
  have e := congrArg valL h
  rwa [valL_be, valL_be, Nat.mod_eq_of_lt ha, Nat.mod_eq_of_lt hb] at e

/-- the rows: of a thing of sort s, m of it: in how many bytes m stands behind the first one, and this -/
def kR (s : Int) (m : Nat) : Nat :=
  if s = 0 then (if m < 128 then 0 else if m < 256 then 1 else if m < 65536 then 2 else if m < 4294967296 then 4 else 8)
  else if s = 1 then (if m < 256 then 1 else 2) else if s = 2 then (if m < 32 then 0 else if m < 256 then 1 else 2) else (if m < 16 then 0 else 2)
def tR (s : Int) (m : Nat) : Nat :=
  if s = 0 then (if m < 128 then m else if m < 256 then 204 else if m < 65536 then 205 else if m < 4294967296 then 206 else 207)
  else if s = 1 then (if m < 256 then 196 else 197) else if s = 2 then (if m < 32 then 160 + m else if m < 256 then 217 else 218)
  else if s = 3 then (if m < 16 then 144 + m else 220) else (if m < 16 then 128 + m else 222)
def sOf (t : Nat) : Int := if t < 128 then 0 else if t < 144 then 4 else if t < 160 then 3 else if t < 192 then 2 else if t < 200 then 1 else if t < 208 then 0 else if t < 219 then 2 else if t < 221 then 3 else 4
def kOf (t : Nat) : Nat := if t < 192 then 0 else if t = 204 then 1 else if t = 196 then 1 else if t = 217 then 1 else if t = 206 then 4 else if t = 207 then 8 else 2
def mOf (t : Nat) : Nat := if t < 128 then t else if t < 144 then t - 128 else if t < 160 then t - 144 else t - 160
def Sorts (s : Int) : Prop := s = 0 ∨ s = 1 ∨ s = 2 ∨ s = 3 ∨ s = 4
theorem Sorts.of {s : Int} (h0 : 0 ≤ s) (h1 : s ≤ 4) : Sorts s := by unfold Sorts; omega
theorem tR0 (m : Nat) : tR 0 m = (if m < 128 then m else if m < 256 then 204 else if m < 65536 then 205 else if m < 4294967296 then 206 else 207) := rfl
theorem tR1 (m : Nat) : tR 1 m = (if m < 256 then 196 else 197) := rfl
theorem tR2 (m : Nat) : tR 2 m = (if m < 32 then 160 + m else if m < 256 then 217 else 218) := rfl
theorem tR3 (m : Nat) : tR 3 m = (if m < 16 then 144 + m else 220) := rfl
theorem tR4 (m : Nat) : tR 4 m = (if m < 16 then 128 + m else 222) := rfl
theorem kR0 (m : Nat) : kR 0 m = (if m < 128 then 0 else if m < 256 then 1 else if m < 65536 then 2 else if m < 4294967296 then 4 else 8) := rfl
theorem kR1 (m : Nat) : kR 1 m = (if m < 256 then 1 else 2) := rfl
theorem kR2 (m : Nat) : kR 2 m = (if m < 32 then 0 else if m < 256 then 1 else 2) := rfl
theorem kR3 (m : Nat) : kR 3 m = (if m < 16 then 0 else 2) := rfl
theorem kR4 (m : Nat) : kR 4 m = (if m < 16 then 0 else 2) := rfl
theorem headP1 (n : Nat) : headP 1 n = (if n < 256 then 196 :: be n 1 else 197 :: be n 2) := rfl
theorem headP2 (n : Nat) : headP 2 n = (if n < 32 then [UInt8.ofNat (160 + n)] else if n < 256 then 217 :: be n 1 else 218 :: be n 2) := rfl
theorem headP3 (n : Nat) : headP 3 n = (if n < 16 then [UInt8.ofNat (144 + n)] else 220 :: be n 2) := rfl
theorem headP4 (n : Nat) : headP 4 n = (if n < 16 then [UInt8.ofNat (128 + n)] else 222 :: be n 2) := rfl
theorem row_ok (s : Int) (m : Nat) (hs : Sorts s) : sOf (tR s m) = s ∧ kOf (tR s m) = kR s m ∧ (kR s m = 0 → mOf (tR s m) = m) ∧ tR s m < 256 := by
  rcases hs with rfl | rfl | rfl | rfl | rfl
  · rw [tR0, kR0]
    by_cases h0 : m < 128
    · rw [if_pos h0, if_pos h0]
      exact ⟨by rw [sOf, if_pos h0], by rw [kOf, if_pos (by omega)], fun _ => by rw [mOf, if_pos h0], by omega⟩
    · rw [if_neg h0, if_neg h0]
      by_cases h1 : m < 256
      · rw [if_pos h1, if_pos h1]; exact ⟨rfl, rfl, (fun c => by cases c), by omega⟩
      · rw [if_neg h1, if_neg h1]
        by_cases h2 : m < 65536
        · rw [if_pos h2, if_pos h2]; exact ⟨rfl, rfl, (fun c => by cases c), by omega⟩
        · rw [if_neg h2, if_neg h2]
          by_cases h3 : m < 4294967296
          · rw [if_pos h3, if_pos h3]; exact ⟨rfl, rfl, (fun c => by cases c), by omega⟩
          · rw [if_neg h3, if_neg h3]; exact ⟨rfl, rfl, (fun c => by cases c), by omega⟩
  · rw [tR1, kR1]
    by_cases h1 : m < 256
    · rw [if_pos h1, if_pos h1]; exact ⟨rfl, rfl, (fun c => by cases c), by omega⟩
    · rw [if_neg h1, if_neg h1]; exact ⟨rfl, rfl, (fun c => by cases c), by omega⟩
  · rw [tR2, kR2]
    by_cases h0 : m < 32
    · rw [if_pos h0, if_pos h0]
      refine ⟨?_, ?_, fun _ => ?_, by omega⟩
      · rw [sOf, if_neg (by omega), if_neg (by omega), if_neg (by omega), if_pos (by omega)]
      · rw [kOf, if_pos (by omega)]
      · rw [mOf, if_neg (by omega), if_neg (by omega), if_neg (by omega)]; omega
    · rw [if_neg h0, if_neg h0]
      by_cases h1 : m < 256
      · rw [if_pos h1, if_pos h1]; exact ⟨rfl, rfl, (fun c => by cases c), by omega⟩
      · rw [if_neg h1, if_neg h1]; exact ⟨rfl, rfl, (fun c => by cases c), by omega⟩
  · rw [tR3, kR3]
    by_cases h0 : m < 16
    · rw [if_pos h0, if_pos h0]
      refine ⟨?_, ?_, fun _ => ?_, by omega⟩
      · rw [sOf, if_neg (by omega), if_neg (by omega), if_pos (by omega)]
      · rw [kOf, if_pos (by omega)]
      · rw [mOf, if_neg (by omega), if_neg (by omega), if_pos (by omega)]; omega
    · rw [if_neg h0, if_neg h0]; exact ⟨rfl, rfl, (fun c => by cases c), by omega⟩
  · rw [tR4, kR4]
    by_cases h0 : m < 16
    · rw [if_pos h0, if_pos h0]
      refine ⟨?_, ?_, fun _ => ?_, by omega⟩
      · rw [sOf, if_neg (by omega), if_pos (by omega)]
      · rw [kOf, if_pos (by omega)]
      · rw [mOf, if_neg (by omega), if_pos (by omega)]; omega
    · rw [if_neg h0, if_neg h0]; exact ⟨rfl, rfl, (fun c => by cases c), by omega⟩
theorem row_inj (s s2 : Int) (m m2 : Nat) (hs : Sorts s) (hs2 : Sorts s2) (h : tR s m = tR s2 m2) : s = s2 ∧ kR s m = kR s2 m2 ∧ (kR s m = 0 → m = m2) := by
  obtain ⟨a1, a2, a3, _⟩ := row_ok s m hs
  obtain ⟨b1, b2, b3, _⟩ := row_ok s2 m2 hs2
  rw [h] at a1 a2 a3
  have hk : kR s m = kR s2 m2 := a2.symm.trans b2
  exact ⟨a1.symm.trans b1, hk, fun c => (a3 c).symm.trans (b3 (hk ▸ c))⟩
theorem row_in (s : Int) (m : Nat) (hs : s = 0 → m < 18446744073709551616) (h2 : s ≠ 0 → m < 65536) : kR s m = 0 ∨ m < 256 ^ kR s m := by
  have h : kR s m = 0 ∨ (kR s m = 1 ∧ m < 256) ∨ (kR s m = 2 ∧ m < 65536) ∨ (kR s m = 4 ∧ m < 4294967296) ∨ (kR s m = 8 ∧ m < 18446744073709551616) := by
    by_cases s0 : s = 0
    · have := hs s0
      rw [kR, if_pos s0]
      repeat' split
      all_goals omega
    · have := h2 s0
      rw [kR, if_neg s0]
      repeat' split
      all_goals omega
  rcases h with h | ⟨h, h3⟩ | ⟨h, h3⟩ | ⟨h, h3⟩ | ⟨h, h3⟩
  · exact .inl h
  all_goals (rw [h]; exact .inr h3)
theorem numP_row (n : Nat) : numP n = UInt8.ofNat (tR 0 n) :: be n (kR 0 n) := by
  rw [numP, tR0, kR0]
  repeat' split
  all_goals rfl
theorem headP_row (s : Int) (n : Nat) (hs : Sorts s) (h0 : s ≠ 0) : headP s n = UInt8.ofNat (tR s n) :: be n (kR s n) := by
  rcases hs with rfl | rfl | rfl | rfl | rfl
  · exact absurd rfl h0
  · rw [headP1, tR1, kR1]
    repeat' split
    all_goals rfl
  · rw [headP2, tR2, kR2]
    repeat' split
    all_goals rfl
  · rw [headP3, tR3, kR3]
    repeat' split
    all_goals rfl
  · rw [headP4, tR4, kR4]
    repeat' split
    all_goals rfl
/-- the lesser number's bytes stand ahead -/
theorem less_cons (a b : UInt8) (x y : List UInt8) : Op.bytesLess (a :: x) (b :: y) = (decide (a < b) || (a == b && Op.bytesLess x y)) := rfl
theorem numP_less (a b : Nat) (ha : a < 18446744073709551616) (hb : b < 18446744073709551616) : Op.bytesLess (numP a) (numP b) = decide (a < b) := by
  have l1 := (row_ok 0 a (.inl rfl)).2.2.2
  have l2 := (row_ok 0 b (.inl rfl)).2.2.2
  rw [numP_row, numP_row, less_cons]
  by_cases ht : tR 0 a = tR 0 b
  · obtain ⟨_, hk, h0⟩ := row_inj 0 0 a b (.inl rfl) (.inl rfl) ht
    have n1 : decide (UInt8.ofNat (tR 0 a) < UInt8.ofNat (tR 0 a)) = false := decide_eq_false (by rw [UInt8.lt_iff_toNat_lt]; omega)
    rw [← ht, n1, beq_self_eq_true, Bool.true_and, Bool.false_or, ← hk, less_val _ _ (by rw [be_length, be_length]), valL_be, valL_be]
    rcases row_in 0 a (fun _ => ha) (fun c => absurd rfl c) with h1 | h1
    · have := h0 h1
      subst this
      exact decide_eq_decide.2 (by omega)
    · rcases row_in 0 b (fun _ => hb) (fun c => absurd rfl c) with h2 | h2
      · have := h0 (hk.trans h2)
        subst this
        exact decide_eq_decide.2 (by omega)
      · rw [← hk] at h2
        rw [Nat.mod_eq_of_lt h1, Nat.mod_eq_of_lt h2]
  · have n2 : (UInt8.ofNat (tR 0 a) == UInt8.ofNat (tR 0 b)) = false := by
      rw [beq_eq_false_iff_ne]
      intro c
      have := congrArg UInt8.toNat c
      rw [UInt8.toNat_ofNat', UInt8.toNat_ofNat', Nat.mod_eq_of_lt l1, Nat.mod_eq_of_lt l2] at this
      exact ht this
    rw [n2, Bool.false_and, Bool.or_false]
    refine decide_eq_decide.2 ?_
    rw [UInt8.lt_iff_toNat_lt, UInt8.toNat_ofNat', UInt8.toNat_ofNat', Nat.mod_eq_of_lt l1, Nat.mod_eq_of_lt l2]
    revert ht
    rw [tR0, tR0]
    repeat' split
    all_goals omega
end Go.Proofs.YtgdlfbphfogphaaDoor
