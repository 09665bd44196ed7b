/- What Take answers: its bounds. What a reader is to do, as a hypothesis; the law's take. -/
import Derived.Test.YtefhjncoakgbkaaDoorUd
import Derived.Test.YtefhjncoakgbkaaDoorUb
namespace Go.Proofs.YtefhjncoakgbkaaDoor
open Go.RowKit

theorem rowU_size (s c : Nat) (hc : c < 256) (hs : s ≠ 0) : (rowU s c).1 ≤ 2 ∧ (rowU s c).2.1 < 65536 := by
  unfold rowU
  rw [if_neg hs]
  repeat' split
  all_goals simp <;> omega
theorem ErrV.only {lo : Nat} {c a : Int} {v : Value} {b : Nat} {w w' : World} (h : ErrV lo c a v w) (ho : Only b w w') (hb : b < lo) : ErrV lo c a v w' := by
  unfold ErrV at *
  by_cases hc : c = 0
  · rw [if_pos hc] at *; exact h
  · rw [if_neg hc] at *
    obtain ⟨f, h0, h1, h2, h3⟩ := h
    have hl : f < w.heap.size := World.block_lt_of_cell? w _ h2
    have hk := ho.block f hl (by omega)
    exact ⟨f, h0, h1, (World.cell?_of_block (a := ⟨f, 0, none⟩) hk).trans h2, (World.cell?_of_block (a := ⟨f, 1, none⟩) hk).trans h3⟩
/-- bounds of an answer -/
structure Fits (left : List UInt8) (s : Nat) (P : TP) : Prop where
  t12 : s = 1 ∨ s = 2 → P.n = P.t.length
  t0 : ¬ (s = 1 ∨ s = 2) → P.t = []
  n64 : P.n < 18446744073709551616
  n16 : s ≠ 0 → P.n < 65536
  tl : P.t.length ≤ left.length
  ml : P.m ≤ left.length
  c5 : P.c ≤ 5
  bad : P.c ≠ 0 → P.m = 0 ∧ P.n = 0
  good : P.c = 0 → 1 ≤ P.m
theorem Fits.err (left : List UInt8) (s c : Nat) (h0 : c ≠ 0) (h5 : c ≤ 5) : Fits left s ⟨0, [], c, 0⟩ :=
  ⟨fun _ => rfl, fun _ => rfl, by simp, fun _ => by simp, by simp, by simp, h5, fun _ => ⟨rfl, rfl⟩, fun h => absurd h h0⟩
theorem takeP_fits (left : List UInt8) (most s : Nat) : Fits left s (takeP left most s) := by
  cases left with
  | nil => exact Fits.err _ _ 4 (by decide) (by decide)
  | cons b r =>
    rw [takeP]
    have hq : b.toNat < 256 := b.toNat_lt
    have hfit := rowU_fit s b.toNat hq
    have hsz := rowU_size s b.toNat hq
    generalize rowU s b.toNat = R at *
    obtain ⟨sz, n0, least⟩ := R
    simp only at hfit hsz ⊢
    by_cases h0 : sz < 0
    · rw [if_pos h0]; exact Fits.err _ _ 5 (by decide) (by decide)
    · rw [if_neg h0]
      obtain ⟨z, rfl⟩ : ∃ z : Nat, sz = (z : Int) := ⟨sz.toNat, by omega⟩
      rw [Int.toNat_natCast]
      have hz : z ≤ 8 ∧ n0 < 256 ∧ (0 < z → n0 = 0) := by
        rcases hfit with h | h | h
        · have : (z : Int) = -1 := by simpa using congrArg Prod.fst h
          omega
        · omega
        · omega
      by_cases h1 : r.length < z
      · rw [if_pos h1]; exact Fits.err _ _ 4 (by decide) (by decide)
      · rw [if_neg h1]
        have hN := beN_lt (r.take z) n0
        have hl : (r.take z).length = z := by rw [List.length_take]; omega
        rw [hl] at hN
        have h64 : beN n0 (r.take z) < 18446744073709551616 := by
          by_cases h : 0 < z
          · rw [hz.2.2 h, Nat.zero_add, Nat.one_mul] at hN
            rw [hz.2.2 h]
            exact Nat.lt_of_lt_of_le hN (Nat.le_trans (Nat.pow_le_pow_right (by decide) hz.1) (by decide))
          · obtain rfl : z = 0 := by omega
            rw [List.take_zero, beN]; omega
        have h16 : s ≠ 0 → beN n0 (r.take z) < 65536 := by
          intro hs
          have h2 := hsz hs
          by_cases h : 0 < z
          · rw [hz.2.2 h, Nat.zero_add, Nat.one_mul] at hN
            rw [hz.2.2 h]
            exact Nat.lt_of_lt_of_le hN (Nat.le_trans (Nat.pow_le_pow_right (by decide) (show z ≤ 2 by omega)) (by decide))
          · obtain rfl : z = 0 := by omega
            rw [List.take_zero, beN]; omega
        generalize beN n0 (r.take z) = N at *
        clear hN hl hfit hsz
        by_cases h2 : N < least
        · rw [if_pos h2]; exact Fits.err _ _ 5 (by decide) (by decide)
        · rw [if_neg h2]
          by_cases h3 : s ≠ 0 ∧ most < N
          · rw [if_pos h3]; exact Fits.err _ _ 3 (by decide) (by decide)
          · rw [if_neg h3]
            by_cases h4 : s = 1 ∨ s = 2
            · rw [if_pos h4]
              by_cases h5 : r.length - z < N
              · rw [if_pos h5]; exact Fits.err _ _ 4 (by decide) (by decide)
              · rw [if_neg h5]
                have hd : ((r.drop z).take N).length = N := by rw [List.length_take, List.length_drop]; omega
                exact ⟨fun _ => hd.symm, fun h => absurd h4 h, h64, h16, by show ((r.drop z).take N).length ≤ _; rw [hd, List.length_cons]; omega, by show 1 + z + N ≤ _; rw [List.length_cons]; omega, Nat.zero_le _, fun h => absurd rfl h, fun _ => by show 1 ≤ 1 + z + N; omega⟩
            · rw [if_neg h4]
              exact ⟨fun h => absurd h h4, fun _ => rfl, h64, h16, Nat.zero_le _, by show 1 + z ≤ _; rw [List.length_cons]; omega, Nat.zero_le _, fun h => absurd rfl h, fun _ => by show 1 ≤ 1 + z; omega⟩

/-- the reader's calls; G: what the program's own tables, and reflectlite, want of memory; R b S a m w: at block b lies a reader of the bytes S, at place a, whose bound is m; a call writes block b alone -/
structure ReaderC (G : World → Prop) (R : Nat → List UInt8 → Nat → Nat → World → Prop) : Prop where
  ge : ∀ {w : World}, G w → GlobE w
  gb : ∀ {w w' : World}, G w → Below w.heap.size w w' → G w'
  lt : ∀ {b : Nat} {S : List UInt8} {a m : Nat} {w : World}, R b S a m w → b < w.heap.size
  keep : ∀ {b c : Nat} {S : List UInt8} {a m : Nat} {w w' : World}, R b S a m w → Only c w w' → c ≠ b → R b S a m w'
  new : ∀ (S : List UInt8) (i : Int) w, G w → S.length ≤ 1000000 → -9223372036854775808 ≤ i → i ≤ 9223372036854775807 →
    Calls Tryd.prog 7 #[.string ⟨S.toArray⟩, .int .i64 i] w fun e w' => ∃ b, w.heap.size ≤ b ∧ e = .returned (.pointer (some ⟨b, 0, none⟩)) ∧ R b S 0 (max i 0).toNat w' ∧ Below w.heap.size w w'
  num : ∀ b S a m w, R b S a m w → G w → S.length ≤ 1000000 → a ≤ S.length → Calls Tryd.prog 15 #[.pointer (some ⟨b, 0, none⟩)] w fun e w' => ∃ v, e = .returned (.tuple #[.int .u64 ((takeP (S.drop a) m 0).n : Int), v]) ∧ ErrV w.heap.size (takeP (S.drop a) m 0).c a v w' ∧ R b S (a + (takeP (S.drop a) m 0).m) m w' ∧ Only b w w'
  bin : ∀ b S a m w, R b S a m w → G w → S.length ≤ 1000000 → a ≤ S.length → Calls Tryd.prog 17 #[.pointer (some ⟨b, 0, none⟩)] w fun e w' => ∃ v, e = .returned (.tuple #[.string ⟨(takeP (S.drop a) m 1).t.toArray⟩, v]) ∧ ErrV w.heap.size (takeP (S.drop a) m 1).c a v w' ∧ R b S (a + (takeP (S.drop a) m 1).m) m w' ∧ Only b w w'
  str : ∀ b S a m w, R b S a m w → G w → S.length ≤ 1000000 → a ≤ S.length → Calls Tryd.prog 18 #[.pointer (some ⟨b, 0, none⟩)] w fun e w' => ∃ v, e = .returned (.tuple #[.string ⟨(takeP (S.drop a) m 2).t.toArray⟩, v]) ∧ ErrV w.heap.size (takeP (S.drop a) m 2).c a v w' ∧ R b S (a + (takeP (S.drop a) m 2).m) m w' ∧ Only b w w'
  list : ∀ b S a m w, R b S a m w → G w → S.length ≤ 1000000 → a ≤ S.length → Calls Tryd.prog 16 #[.pointer (some ⟨b, 0, none⟩)] w fun e w' => ∃ v, e = .returned (.tuple #[.int .i64 ((takeP (S.drop a) m 3).n : Int), v]) ∧ ErrV w.heap.size (takeP (S.drop a) m 3).c a v w' ∧ R b S (a + (takeP (S.drop a) m 3).m) m w' ∧ Only b w w'
  map : ∀ b S a m w, R b S a m w → G w → S.length ≤ 1000000 → a ≤ S.length → Calls Tryd.prog 19 #[.pointer (some ⟨b, 0, none⟩)] w fun e w' => ∃ v, e = .returned (.tuple #[.int .i64 ((takeP (S.drop a) m 4).n : Int), v]) ∧ ErrV w.heap.size (takeP (S.drop a) m 4).c a v w' ∧ R b S (a + (takeP (S.drop a) m 4).m) m w' ∧ Only b w w'
  fin : ∀ b S a m w, R b S a m w → G w → S.length ≤ 1000000 → a ≤ S.length → Calls Tryd.prog 12 #[.pointer (some ⟨b, 0, none⟩)] w fun e w' => ∃ v, e = .returned v ∧ ErrV w.heap.size (if a < S.length then 5 else 0) a v w' ∧ Below w.heap.size w w'

/-- what the law's take answers and leaves -/
structure LTook (R : Nat → List UInt8 → Nat → Nat → World → Prop) (b : Nat) (S : List UInt8) (a m : Nat) (P : TP) (w : World) (e : Ending) (w' : World) : Prop where
  e : ∃ v, e = .returned (.tuple #[.int .u64 (P.n : Int), .string ⟨P.t.toArray⟩, v]) ∧ ErrV w.heap.size P.c a v w'
  r : R b S (a + P.m) m w'
  o : Only b w w'
end Go.Proofs.YtefhjncoakgbkaaDoor
