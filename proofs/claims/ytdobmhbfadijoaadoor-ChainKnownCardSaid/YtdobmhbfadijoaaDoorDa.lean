/- A number's eight bytes, by the program; and the number that bytes say. -/
import Derived.Test.YtdobmhbfadijoaaDoorBa
import Derived.Test.YtdobmhbfadijoaaDoorTe
namespace Go.Proofs.YtdobmhbfadijoaaDoor
open Go.RowKit

/-- a number's eight bytes, the highest first -/
def numL (n : Nat) : List UInt8 := be64To n 8
theorem numL_length (n : Nat) : (numL n).length = 8 := by simp [numL, be64To]
theorem numL_get (n j : Nat) (h : j < 8) : (numL n)[j]? = some (UInt8.ofNat (n / 2 ^ (56 - 8 * j))) := by simp [numL, be64To, h]

theorem shr_byte (n k : Nat) : ((n : Int) / (2 : Int) ^ (8 * k) % (256 : Int)) = ((UInt8.ofNat (n / 2 ^ (8 * k))).toNat : Int) := by
  have e : (2 : Int) ^ (8 * k) = ((2 ^ (8 * k) : Nat) : Int) := by rw [Int.natCast_pow]; rfl
  rw [e, UInt8.toNat_ofNat']
  generalize 2 ^ (8 * k) = p
  show _ = ((n / p % 256 : Nat) : Int)
  rw [Int.natCast_emod, Int.natCast_ediv]
  rfl

/-- the array of eight, from its end on -/
def Laid8 (n k : Nat) (R : Array Value) : Prop := ∀ j, 8 - k ≤ j → j < 8 → R[j]? = some (.int .u8 ((UInt8.ofNat (n / 2 ^ (56 - 8 * j))).toNat : Int))
theorem Laid8.next {n k : Nat} {R : Array Value} (h : Laid8 n k R) (hR : R.size = 8) (hk : k < 8) : Laid8 n (k + 1) (R.setIfInBounds (7 - k) (.int .u8 ((n : Int) / (2 : Int) ^ (8 * k) % (256 : Int)))) := by
  intro j h1 h2
  by_cases e : j = 7 - k
  · subst e
    rw [Array.getElem?_setIfInBounds_self_of_lt (by omega), shr_byte, show 56 - 8 * (7 - k) = 8 * k by omega]
  · rw [Array.getElem?_setIfInBounds_ne (by omega)]
    exact h j (by omega) h2

set_option maxRecDepth 100000 in
set_option maxHeartbeats 1000000 in
theorem num_any (n : Nat) (w : World) :
    Calls Tryd.prog 31 #[.int .u64 (n : Int)] w fun e w' => e = .returned (.string ⟨(numL n).toArray⟩) ∧ Below w.heap.size w w' := by
  go_enter Tryd.func31, Tryd.ntmps31
  go_wp2
  go_loopw [4, 5] (fun _ i wr => ∃ k : Nat, ∃ R : Array Value, k ≤ 8 ∧ i = .int .i64 (k : Int) ∧ R.size = 8 ∧ Hid (Laid8 n k R) ∧ wr.heap[w.heap.size]? = some (.cells R 68 (0, 0)) ∧ Below w.heap.size w wr)
    (fun _ i _ => 8 - (intOf i).toNat)
  case atStart => exact ⟨0, _, by omega, rfl, rfl, Lib.hid (fun j h1 h2 => by omega), heap_alloc_new w _, (Below.refl _ _).alloc (Nat.le_refl _) _⟩
  case round =>
    obtain ⟨k, R, hk, rfl, hR, HR, hrow, hbe⟩ := hrel
    by_cases hlt : k < 8
    · obtain ⟨u, hu⟩ : ∃ u, R[7 - k]? = some u := ⟨R[7 - k], by simp⟩
      have r0 : wr.cell? ⟨w.heap.size, 7 - k, none⟩ = some u := by rw [cell_of_row _ _ _ _ 68 _ hrow]; exact hu
      have r1 : wr.frozen? ⟨w.heap.size, 7 - k, none⟩ = false := frozen_of_row _ _ _ _ 68 hrow
      clear hu
      obtain ⟨i0, j0, l0⟩ := idx (7 - (k:Int)) (7 - k) (by omega) (by omega)
      have m0 : 7 - (k:Int) < 8 := by omega
      go_wp2
      go_roundw
      case rel =>
        refine ⟨k + 1, R.setIfInBounds (7 - k) _, by omega, by go_num, by simpa using hR, Lib.hid (HR.out.next hR hlt), ?_, hbe.setCell (by show w.heap.size ≤ w.heap.size; omega) _⟩
        exact heap_setCell_same wr w.heap.size (7 - k) R 68 _ hrow
      case measure => simp [intOf]; omega
    · have ek : k = 8 := by omega
      have hcv : ∀ j (hj : j < (numL n).length), wr.cell? ((⟨w.heap.size, 0, none⟩ : Addr).add j) = some (.int .u8 ((numL n)[j].toNat : Int)) := by
        intro j hj
        rw [numL_length] at hj
        have h := HR.out j (by omega) hj
        have e := numL_get n j hj
        rw [List.getElem?_eq_getElem (by rw [numL_length]; exact hj), Option.some.injEq] at e
        rw [Addr.add_mid, Nat.zero_add, cell_of_row _ _ _ _ 68 _ hrow, h, e]
      have hconv := run_convert_bytes_back wr 31 9 5 ⟨w.heap.size, 0, none⟩ 8 (numL n) Tryd.underlying31 Tryd.underlying5 Tryd.underlying9 hcv
      rw [numL_length] at hconv
      clear hcv
      go_wp2
      go_ret
      exact ⟨rfl, hbe⟩

/-- the number that some bytes say -/
def numberL (l : List UInt8) : Nat := l.foldl (fun a b => a * 256 + b.toNat) 0
theorem numberL_snoc (S : List UInt8) (k : Nat) (h : k < S.length) : numberL (S.take (k + 1)) = numberL (S.take k) * 256 + S[k].toNat := by
  rw [numberL, List.take_succ_eq_append_getElem h, List.foldl_append]; rfl
theorem numberL_lt (S : List UInt8) : ∀ k, k ≤ S.length → numberL (S.take k) < 256 ^ k
  | 0, _ => by simp [numberL]
  | k + 1, h => by
    rw [numberL_snoc S k (by omega), Nat.pow_succ]
    have := numberL_lt S k (by omega)
    have := S[k].toNat_lt
    omega

theorem numL_take (n : Nat) (hn : n < 18446744073709551616) : ∀ k, k ≤ 8 → numberL ((numL n).take k) = n / 256 ^ (8 - k)
  | 0, _ => by
    have : n / 256 ^ 8 = 0 := Nat.div_eq_of_lt (by omega)
    simp only [Nat.sub_zero, this]
    rfl
  | k + 1, h => by
    have hl : k < (numL n).length := by rw [numL_length]; omega
    rw [numberL_snoc _ k hl, numL_take n hn k (by omega)]
    have e := numL_get n k (by omega)
    rw [List.getElem?_eq_getElem hl, Option.some.injEq] at e
    rw [e, UInt8.toNat_ofNat', show 8 - k = (8 - (k + 1)) + 1 by omega, Nat.pow_succ, ← Nat.div_div_eq_div_mul, show 56 - 8 * k = 8 * (8 - (k + 1)) by omega, Nat.pow_mul]
    show n / 256 ^ (8 - (k + 1)) / 256 * 256 + n / 256 ^ (8 - (k + 1)) % 256 = _
    omega
theorem numberL_numL (n : Nat) (hn : n < 18446744073709551616) : numberL (numL n) = n := by
  have h := numL_take n hn 8 (by omega)
  rw [List.take_of_length_le (by rw [numL_length]; omega)] at h
  rw [h]; simp
theorem numL_inj {a b : Nat} (ha : a < 18446744073709551616) (hb : b < 18446744073709551616) (h : numL a = numL b) : a = b := by
  rw [← numberL_numL a ha, ← numberL_numL b hb, h]

/-- a text's number, from its front -/
def valL : List UInt8 → Nat
  | [] => 0
  | a :: x => a.toNat * 256 ^ x.length + valL x
theorem valL_lt : ∀ x : List UInt8, valL x < 256 ^ x.length
  | [] => by simp [valL]
  | a :: x => by
    have := valL_lt x
    have ha := a.toNat_lt
    rw [valL, List.length_cons, Nat.pow_succ]
    have h2 : a.toNat * 256 ^ x.length ≤ 255 * 256 ^ x.length := Nat.mul_le_mul_right _ (by omega)
    omega
theorem foldl_val : ∀ (x : List UInt8) (c : Nat), x.foldl (fun a b => a * 256 + b.toNat) c = c * 256 ^ x.length + valL x
  | [], c => by simp [valL]
  | a :: x, c => by
    rw [List.foldl_cons, foldl_val x, valL, List.length_cons, Nat.pow_succ, Nat.add_mul, Nat.mul_assoc, Nat.mul_comm 256, Nat.add_assoc]
theorem numberL_val (x : List UInt8) : numberL x = valL x := by rw [numberL, foldl_val]; simp
theorem less_val : ∀ x y : List UInt8, x.length = y.length → Op.bytesLess x y = decide (valL x < valL y)
  | [], [], _ => by simp [Op.bytesLess, valL]
  | [], _ :: _, h => by simp at h
  | _ :: _, [], h => by simp at h
  | a :: x, b :: y, h => by
    have hl : x.length = y.length := by simpa using h
    rw [Op.bytesLess, less_val x y hl, valL, valL, hl]
    have hx := valL_lt x
    have hy := valL_lt y
    rw [hl] at hx
    generalize 256 ^ y.length = p at hx hy
    rcases Nat.lt_trichotomy a.toNat b.toNat with h1 | h1 | h1
    · have : (a.toNat + 1) * p ≤ b.toNat * p := Nat.mul_le_mul_right _ h1
      rw [Nat.add_mul] at this
      have e1 : decide (a < b) = true := decide_eq_true (UInt8.lt_iff_toNat_lt.2 h1)
      have e2 : decide (a.toNat * p + valL x < b.toNat * p + valL y) = true := decide_eq_true (by omega)
      rw [e1, e2]; rfl
    · obtain rfl := UInt8.toNat_inj.1 h1
      have e1 : decide (a < a) = false := decide_eq_false (by rw [UInt8.lt_iff_toNat_lt]; omega)
      rw [e1]
      simp
    · have : (b.toNat + 1) * p ≤ a.toNat * p := Nat.mul_le_mul_right _ h1
      rw [Nat.add_mul] at this
      have e1 : decide (a < b) = false := decide_eq_false (by rw [UInt8.lt_iff_toNat_lt]; omega)
      have e2 : (a == b) = false := by rw [beq_eq_false_iff_ne]; rintro rfl; omega
      have e3 : decide (a.toNat * p + valL x < b.toNat * p + valL y) = false := decide_eq_false (by omega)
      rw [e1, e2, e3]; rfl
theorem numL_less (a b : Nat) (ha : a < 18446744073709551616) (hb : b < 18446744073709551616) : Op.bytesLess (numL a) (numL b) = decide ((a : Int) < (b : Int)) := by
  rw [less_val _ _ (by rw [numL_length, numL_length]), ← numberL_val, ← numberL_val, numberL_numL a ha, numberL_numL b hb]
  simp
theorem numL_eq (a b : Nat) (ha : a < 18446744073709551616) (hb : b < 18446744073709551616) : (numL a == numL b) = ((a : Int) == (b : Int)) := by
  by_cases h : a = b
  · subst h; simp
  · have : numL a ≠ numL b := fun e => h (numL_inj ha hb e)
    rw [beq_eq_false_iff_ne.2 this]
    symm
    rw [beq_eq_false_iff_ne]
    omega
end Go.Proofs.YtdobmhbfadijoaaDoor
