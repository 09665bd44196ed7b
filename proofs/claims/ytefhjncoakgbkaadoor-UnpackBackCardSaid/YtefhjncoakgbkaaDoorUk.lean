/- What is taken was laid: the bytes that takeP took are those of the thing laid by hand. -/
import Derived.Test.YtefhjncoakgbkaaDoorUj
namespace Go.Proofs.YtefhjncoakgbkaaDoor
open Go.RowKit

theorem beN_split : ∀ (l : List UInt8) (m : Nat), beN m l = m * 256 ^ l.length + beN 0 l
  | [], m => by simp [beN]
  | b :: l, m => by
    rw [beN, beN_split l (256 * m + b.toNat), beN, beN_split l (256 * 0 + b.toNat), List.length_cons, Nat.pow_succ, Nat.add_mul, Nat.mul_zero, Nat.zero_add]
    have e1 : 256 * m * 256 ^ l.length = m * (256 ^ l.length * 256) := by rw [Nat.mul_comm (256 ^ l.length) 256, ← Nat.mul_assoc, Nat.mul_comm 256 m, Nat.mul_assoc]
    omega
theorem beN_lt0 (l : List UInt8) : beN 0 l < 256 ^ l.length := by have := beN_lt l 0; rwa [Nat.zero_add, Nat.one_mul] at this
theorem be_beN : ∀ (l : List UInt8) (m : Nat), be (beN m l) l.length = l
  | [], _ => rfl
  | b :: l, m => by
    rw [beN, List.length_cons, be, be_beN l]
    have h := beN_split l (256 * m + b.toNat)
    have hl := beN_lt0 l
    have hq : beN (256 * m + b.toNat) l / 256 ^ l.length = 256 * m + b.toNat := by
      rw [h, Nat.mul_comm, Nat.mul_add_div (Nat.pow_pos (by decide)), Nat.div_eq_of_lt hl, Nat.add_zero]
    rw [hq]
    congr 1
    apply UInt8.toNat_inj.1
    rw [UInt8.toNat_ofNat']
    have := b.toNat_lt
    omega
theorem be_take (r : List UInt8) (z : Nat) (h : z ≤ r.length) : be (beN 0 (r.take z)) z = r.take z := by
  have h2 : (r.take z).length = z := by rw [List.length_take]; omega
  have := be_beN (r.take z) 0
  rwa [h2] at this
theorem beN_take_lt (r : List UInt8) (z : Nat) (h : z ≤ r.length) : beN 0 (r.take z) < 256 ^ z := by
  have h2 : (r.take z).length = z := by rw [List.length_take]; omega
  have := beN_lt0 (r.take z)
  rwa [h2] at this
theorem byte_is {b : UInt8} {k : Nat} (h : b.toNat = k) (hk : k < 256) : b = UInt8.ofNat k := by
  apply UInt8.toNat_inj.1
  rw [UInt8.toNat_ofNat', h]
  omega

/-- what a row that took says -/
theorem take_inv {s most z n0 least : Nat} {b : UInt8} {r : List UInt8} (h : rowU s b.toNat = ((z : Int), n0, least)) (hc : (takeP (b :: r) most s).c = 0) :
    z ≤ r.length ∧ least ≤ beN n0 (r.take z) ∧ ((s = 1 ∨ s = 2) → beN n0 (r.take z) ≤ r.length - z ∧ takeP (b :: r) most s = ⟨beN n0 (r.take z), (r.drop z).take (beN n0 (r.take z)), 0, 1 + z + beN n0 (r.take z)⟩) ∧
      (¬ (s = 1 ∨ s = 2) → takeP (b :: r) most s = ⟨beN n0 (r.take z), [], 0, 1 + z⟩) := by
  rw [takeP_eq h] at hc ⊢
  generalize beN n0 (r.take z) = N at *
  by_cases h1 : r.length < z
  · rw [if_pos h1] at hc; cases hc
  · rw [if_neg h1] at hc ⊢
    by_cases h2 : N < least
    · rw [if_pos h2] at hc; cases hc
    · rw [if_neg h2] at hc ⊢
      by_cases h3 : s ≠ 0 ∧ most < N
      · rw [if_pos h3] at hc; cases hc
      · rw [if_neg h3] at hc ⊢
        by_cases h4 : s = 1 ∨ s = 2
        · rw [if_pos h4] at hc ⊢
          by_cases h5 : r.length - z < N
          · rw [if_pos h5] at hc; cases hc
          · rw [if_neg h5]
            exact ⟨by omega, by omega, fun _ => ⟨by omega, rfl⟩, fun h => absurd h4 h⟩
        · rw [if_neg h4]
          exact ⟨by omega, by omega, fun h => absurd h h4, fun _ => rfl⟩
/-- the bytes that were taken are laid so -/
def WasLaid (S : List UInt8) (s : Nat) (P : TP) : Prop := ∃ R, S = laidQ s P.n P.t ++ R ∧ (laidQ s P.n P.t).length = P.m
theorem no_row_c {s most : Nat} {b : UInt8} {r : List UInt8} (h : rowU s b.toNat = (-1, 0, 0)) : (takeP (b :: r) most s).c = 5 := by
  rw [takeP, h]; rfl

/-- a number or a beginning behind a first byte of its own -/
theorem was_num {S : List UInt8} {s most z least : Nat} {b : UInt8} {r : List UInt8} (hS : S = b :: r) (h : rowU s b.toNat = ((z : Int), 0, least)) (hs : ¬ (s = 1 ∨ s = 2)) (hc : (takeP S most s).c = 0)
    (hq : ∀ N, least ≤ N → N < 256 ^ z → laidQ s N [] = b :: be N z) : WasLaid S s (takeP S most s) := by
  subst hS
  obtain ⟨h1, h2, _, h4⟩ := take_inv h hc
  have e := hq _ h2 (beN_take_lt r z h1)
  rw [h4 hs]
  refine ⟨r.drop z, ?_, ?_⟩
  · show b :: r = laidQ s (beN 0 (r.take z)) [] ++ r.drop z
    rw [e, be_take r z h1, List.cons_append, List.take_append_drop]
  · show (laidQ s (beN 0 (r.take z)) []).length = 1 + z
    rw [e, List.length_cons, be_length]; omega
/-- a text behind a first byte of its own -/
theorem was_txt {S : List UInt8} {s most z least : Nat} {b : UInt8} {r : List UInt8} (hS : S = b :: r) (h : rowU s b.toNat = ((z : Int), 0, least)) (hs : s = 1 ∨ s = 2) (hc : (takeP S most s).c = 0)
    (hq : ∀ N, least ≤ N → N < 256 ^ z → ∀ T, laidQ s N T = (b :: be N z) ++ T) : WasLaid S s (takeP S most s) := by
  subst hS
  obtain ⟨h1, h2, h3, _⟩ := take_inv h hc
  obtain ⟨h5, h6⟩ := h3 hs
  have e := hq _ h2 (beN_take_lt r z h1) ((r.drop z).take (beN 0 (r.take z)))
  rw [h6]
  refine ⟨(r.drop z).drop (beN 0 (r.take z)), ?_, ?_⟩
  · show b :: r = laidQ s (beN 0 (r.take z)) _ ++ _
    rw [e, be_take r z h1, List.cons_append, List.cons_append, List.append_assoc, List.take_append_drop, List.take_append_drop]
  · show (laidQ s (beN 0 (r.take z)) _).length = 1 + z + beN 0 (r.take z)
    rw [e, List.length_append, List.length_cons, be_length, List.length_take, List.length_drop]; omega
/-- a number within the first byte -/
theorem was_in {S : List UInt8} {s most n : Nat} {b : UInt8} {r : List UInt8} (hS : S = b :: r) (h : rowU s b.toNat = (((0 : Nat) : Int), n, 0)) (hs : ¬ (s = 1 ∨ s = 2)) (hc : (takeP S most s).c = 0) (hq : laidQ s n [] = [b]) : WasLaid S s (takeP S most s) := by
  subst hS
  obtain ⟨h1, h2, _, h4⟩ := take_inv h hc
  rw [h4 hs, List.take_zero, beN]
  exact ⟨r, by rw [hq]; rfl, by rw [hq]; rfl⟩
theorem was_in2 {S : List UInt8} {most n : Nat} {b : UInt8} {r : List UInt8} (hS : S = b :: r) (h : rowU 2 b.toNat = (((0 : Nat) : Int), n, 0)) (hc : (takeP S most 2).c = 0) (hq : ∀ T, laidQ 2 n T = [b] ++ T) : WasLaid S 2 (takeP S most 2) := by
  subst hS
  obtain ⟨h1, h2, h3, _⟩ := take_inv h hc
  obtain ⟨h5, h6⟩ := h3 (.inr rfl)
  rw [h6, List.take_zero, beN, List.drop_zero]
  rw [List.take_zero, beN] at h5
  exact ⟨r.drop n, by rw [hq]; simp, by rw [hq, List.length_append, List.length_take]; simp; omega⟩
end Go.Proofs.YtefhjncoakgbkaaDoor
