/- What is laid is taken: takeP of a thing laid by hand. -/
import Derived.Test.YtefhjncoakgbkaaDoorUd
import Derived.Test.YtefhjncoakgbkaaDoorUi
namespace Go.Proofs.YtefhjncoakgbkaaDoor
open Go.RowKit

theorem beN_be (n : Nat) : ∀ (k m : Nat), beN m (be n k) = m * 256 ^ k + n % 256 ^ k
  | 0, m => by simp [be, beN, Nat.mod_one]
  | k + 1, m => by
    rw [be, beN, beN_be n k, UInt8.toNat_ofNat', Nat.pow_succ 256 k, Nat.mod_mul (x := n) (a := 256 ^ k) (b := 256), Nat.add_mul]
    have e1 : 256 * m * 256 ^ k = m * (256 ^ k * 256) := by rw [Nat.mul_comm (256 ^ k) 256, ← Nat.mul_assoc, Nat.mul_comm 256 m, Nat.mul_assoc]
    have e2 : n / 256 ^ k % 2 ^ 8 * 256 ^ k = 256 ^ k * (n / 256 ^ k % 256) := Nat.mul_comm _ _
    rw [e1, e2]
    omega
theorem beN_be0 (n k : Nat) (h : n < 256 ^ k) : beN 0 (be n k) = n := by rw [beN_be, Nat.zero_mul, Nat.zero_add, Nat.mod_eq_of_lt h]
theorem takeP_eq {s most z n0 least : Nat} {b : UInt8} {r : List UInt8} (h : rowU s b.toNat = ((z : Int), n0, least)) :
    takeP (b :: r) most s = if r.length < z then ⟨0, [], 4, 0⟩ else if beN n0 (r.take z) < least then ⟨0, [], 5, 0⟩ else if s ≠ 0 ∧ most < beN n0 (r.take z) then ⟨0, [], 3, 0⟩
      else if s = 1 ∨ s = 2 then (if r.length - z < beN n0 (r.take z) then ⟨0, [], 4, 0⟩ else ⟨beN n0 (r.take z), (r.drop z).take (beN n0 (r.take z)), 0, 1 + z + beN n0 (r.take z)⟩) else ⟨beN n0 (r.take z), [], 0, 1 + z⟩ := by
  rw [takeP, h]
  simp only [Int.toNat_natCast]
  rw [if_neg (by omega)]
theorem takeP_num {s most z n0 least n N : Nat} {b : UInt8} (R : List UInt8) (h : rowU s b.toNat = ((z : Int), n0, least)) (hs : ¬ (s = 1 ∨ s = 2)) (hN : beN n0 (be n z) = N) (hl : least ≤ N) (hm : s = 0 ∨ N ≤ most) :
    takeP (b :: (be n z ++ R)) most s = ⟨N, [], 0, 1 + z⟩ := by
  have hlen : (be n z).length = z := be_length n z
  rw [takeP_eq h, if_neg (by rw [List.length_append]; omega), List.take_left' hlen, hN, if_neg (by omega), if_neg (by omega), if_neg hs]
theorem takeP_txt {s most z n0 least n : Nat} {b : UInt8} (T R : List UInt8) (h : rowU s b.toNat = ((z : Int), n0, least)) (hs : s = 1 ∨ s = 2) (hN : beN n0 (be n z) = T.length) (hl : least ≤ T.length) (hm : T.length ≤ most) :
    takeP (b :: (be n z ++ (T ++ R))) most s = ⟨T.length, T, 0, 1 + z + T.length⟩ := by
  have hlen : (be n z).length = z := be_length n z
  rw [takeP_eq h, if_neg (by rw [List.length_append]; omega), List.take_left' hlen, hN, if_neg (by omega), if_neg (by omega), if_pos hs, if_neg (by rw [List.length_append, List.length_append]; omega), List.drop_left' hlen, List.take_left' rfl]
theorem rowU_in2 (n : Nat) (h : n < 32) : rowU 2 (UInt8.ofNat (160 + n)).toNat = (((0 : Nat) : Int), n, 0) := by
  rw [UInt8.toNat_ofNat', show (160 + n) % 2 ^ 8 = 160 + n by omega, rowU, if_neg (by decide), if_neg (by decide), if_pos rfl, if_pos (by omega)]
  simp
theorem rowU_in3 (n : Nat) (h : n < 16) : rowU 3 (UInt8.ofNat (144 + n)).toNat = (((0 : Nat) : Int), n, 0) := by
  rw [UInt8.toNat_ofNat', show (144 + n) % 2 ^ 8 = 144 + n by omega, rowU, if_neg (by decide), if_neg (by decide), if_neg (by decide), if_pos rfl, if_pos (by omega)]
  simp
theorem rowU_in4 (n : Nat) (h : n < 16) : rowU 4 (UInt8.ofNat (128 + n)).toNat = (((0 : Nat) : Int), n, 0) := by
  rw [UInt8.toNat_ofNat', show (128 + n) % 2 ^ 8 = 128 + n by omega, rowU, if_neg (by decide), if_neg (by decide), if_neg (by decide), if_neg (by decide), if_pos (by omega)]
  simp
theorem rowU_in0 (n : Nat) (h : n < 128) : rowU 0 (UInt8.ofNat n).toNat = (((0 : Nat) : Int), n, 0) := by
  rw [UInt8.toNat_ofNat', show n % 2 ^ 8 = n by omega, rowU, if_pos rfl, if_pos h]
  rfl

/-- a number comes back -/
theorem back0 (n : Nat) (R : List UInt8) (hn : n < 18446744073709551616) : takeP (laidQ 0 n [] ++ R) 65535 0 = ⟨n, [], 0, (laidQ 0 n []).length⟩ := by
  rw [laidQ, if_pos rfl, numP]
  by_cases h0 : n < 128
  · rw [if_pos h0]
    exact takeP_num (n := 0) (z := 0) R (rowU_in0 n h0) (by decide) rfl (by omega) (.inl rfl)
  · rw [if_neg h0]
    by_cases h1 : n < 256
    · rw [if_pos h1, List.cons_append, takeP_num (least := 128) R rfl (by decide) (beN_be0 n 1 (by omega)) (by omega) (.inl rfl), List.length_cons, be_length]
    · rw [if_neg h1]
      by_cases h2 : n < 65536
      · rw [if_pos h2, List.cons_append, takeP_num (least := 256) R rfl (by decide) (beN_be0 n 2 (by omega)) (by omega) (.inl rfl), List.length_cons, be_length]
      · rw [if_neg h2]
        by_cases h3 : n < 4294967296
        · rw [if_pos h3, List.cons_append, takeP_num (least := 65536) R rfl (by decide) (beN_be0 n 4 (by omega)) (by omega) (.inl rfl), List.length_cons, be_length]
        · rw [if_neg h3, List.cons_append, takeP_num (least := 4294967296) R rfl (by decide) (beN_be0 n 8 (by omega)) (by omega) (.inl rfl), List.length_cons, be_length]
/-- bytes and texts come back -/
theorem back1 (T R : List UInt8) (hT : T.length < 65536) : takeP (laidQ 1 T.length T ++ R) 65535 1 = ⟨T.length, T, 0, (laidQ 1 T.length T).length⟩ := by
  rw [laidQ, if_neg (by decide), if_pos (by decide), headP, if_pos (by decide)]
  by_cases h1 : T.length < 256
  · rw [if_pos h1, List.append_assoc, List.cons_append, takeP_txt (least := 0) T R rfl (.inl rfl) (beN_be0 _ 1 (by omega)) (by omega) (by omega)]
    simp [be_length]; omega
  · rw [if_neg h1, List.append_assoc, List.cons_append, takeP_txt (least := 256) T R rfl (.inl rfl) (beN_be0 _ 2 (by omega)) (by omega) (by omega)]
    simp [be_length]; omega
theorem back2 (T R : List UInt8) (hT : T.length < 65536) : takeP (laidQ 2 T.length T ++ R) 65535 2 = ⟨T.length, T, 0, (laidQ 2 T.length T).length⟩ := by
  rw [laidQ, if_neg (by decide), if_pos (by decide), headP, if_neg (by decide), if_pos (by decide)]
  by_cases h0 : T.length < 32
  · rw [if_pos h0, List.append_assoc]
    refine (takeP_txt (n := 0) (z := 0) (most := 65535) T R (rowU_in2 _ h0) (.inr rfl) rfl (by omega) (by omega)).trans ?_
    simp; omega
  · rw [if_neg h0]
    by_cases h1 : T.length < 256
    · rw [if_pos h1, List.append_assoc, List.cons_append, takeP_txt (least := 32) T R rfl (.inr rfl) (beN_be0 _ 1 (by omega)) (by omega) (by omega)]
      simp [be_length]; omega
    · rw [if_neg h1, List.append_assoc, List.cons_append, takeP_txt (least := 256) T R rfl (.inr rfl) (beN_be0 _ 2 (by omega)) (by omega) (by omega)]
      simp [be_length]; omega
/-- lists' and maps' beginnings come back -/
theorem back3 (n : Nat) (R : List UInt8) (hn : n < 65536) : takeP (laidQ 3 n [] ++ R) 65535 3 = ⟨n, [], 0, (laidQ 3 n []).length⟩ := by
  rw [laidQ, if_neg (by decide), if_neg (by decide), headP, if_neg (by decide), if_neg (by decide), if_pos (by decide)]
  by_cases h0 : n < 16
  · rw [if_pos h0]
    exact takeP_num (n := 0) (z := 0) R (rowU_in3 n h0) (by decide) rfl (by omega) (.inr (by omega))
  · rw [if_neg h0, List.cons_append, takeP_num (least := 16) R rfl (by decide) (beN_be0 n 2 (by omega)) (by omega) (.inr (by omega)), List.length_cons, be_length]
theorem back4 (n : Nat) (R : List UInt8) (hn : n < 65536) : takeP (laidQ 4 n [] ++ R) 65535 4 = ⟨n, [], 0, (laidQ 4 n []).length⟩ := by
  rw [laidQ, if_neg (by decide), if_neg (by decide), headP, if_neg (by decide), if_neg (by decide), if_neg (by decide)]
  by_cases h0 : n < 16
  · rw [if_pos h0]
    exact takeP_num (n := 0) (z := 0) R (rowU_in4 n h0) (by decide) rfl (by omega) (.inr (by omega))
  · rw [if_neg h0, List.cons_append, takeP_num (least := 16) R rfl (by decide) (beN_be0 n 2 (by omega)) (by omega) (.inr (by omega)), List.length_cons, be_length]
end Go.Proofs.YtefhjncoakgbkaaDoor
