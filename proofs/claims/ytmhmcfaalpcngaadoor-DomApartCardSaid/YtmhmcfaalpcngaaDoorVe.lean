/- What the statements ask of each program first: a frame, and its sum; and DomNumbers' body. -/
import Derived.Test.YtmhmcfaalpcngaaDoorVc
namespace Go.Proofs.YtmhmcfaalpcngaaDoor
open Go.RowKit

/-- a row of texts that was just made -/
theorem strs_new (w : World) (L : List (List UInt8)) (C : Array Value) (hC : C = (L.map fun x => Value.string ⟨x.toArray⟩).toArray) : Strs (some ⟨w.heap.size, 0, none⟩) L (w.alloc (.cells C 9)) := by
  refine .inr ⟨_, _, rfl, by simp, fun i hi => ?_⟩
  rw [Nat.zero_add, cell_of_row _ _ _ _ 9 _ (heap_alloc_new w _), hC]
  simp [hi]

def abL : List UInt8 := [1, 97, 0, 0, 0, 0, 0, 0, 0, 1, 98]
theorem framed_ab : framed [97] [[98]] = abL := by decide
theorem num_258 : numL 258 = [0, 0, 0, 0, 0, 0, 1, 2] := by decide

set_option maxRecDepth 100000 in
set_option maxHeartbeats 1000000 in
theorem works_any (w : World) (hg : Glob w) :
    Calls Tryd.prog 14 #[] w fun e w' => e = .returned (.bool true) ∧ Below w.heap.size w w' := by
  have hsz := hg.size
  have ht : Tag [97] := by decide
  have hlen : (framed [97] [[98]]).length < 100000000000 := by decide
  have hhash := fun w' hg' hs' => hash_any [97] (some ⟨w.heap.size, 0, none⟩) 1 [[98]] w' hg' hs' (by decide) hlen
  have hframe := fun b w' hs' => frameAll [97] (some ⟨b, 0, none⟩) 1 [[98]] w' hs' (by decide) hlen
  rw [hashL, if_pos ht, framed_ab] at hhash
  rw [frameL, if_pos ht, framed_ab] at hframe
  have hnum := num_any 258
  rw [num_258] at hnum
  obtain ⟨D, hD⟩ : ∃ D, shaL abL = D := ⟨_, rfl⟩
  have hDl : D.length = 32 := by rw [← hD]; exact shaL_length _
  have hsum := fun w' hg' => shaSum_any abL w' hg' (by decide)
  rw [hD] at hhash hsum
  clear hD ht hlen
  have HH := Lib.hid hhash
  have HF := Lib.hid hframe
  have HN := Lib.hid hnum
  have HS := Lib.hid hsum
  clear hhash hframe hnum hsum
  go_enter Tryd.func14, Tryd.ntmps14
  go_wp2_with fail
  have hb0 : Below w.heap.size w (w.alloc (.cells #[.string ⟨#[98]⟩] 9)) := (Below.refl _ _).alloc (Nat.le_refl _) _
  refine (HH.out _ (hg.below (by omega) hb0) (strs_new w [[98]] _ rfl)).mono ?_
  rintro e w1 ⟨rfl, hb1⟩
  have hB1 : Below w.heap.size w w1 := hb0.trans (hb1.mono (by simp))
  have s1 := hB1.size
  clear hb0 hb1
  go_wp2_with fail
  have hb0 : Below w.heap.size w (w1.alloc (.cells #[.string ⟨#[98]⟩] 9)) := hB1.alloc s1 _
  refine (HF.out w1.heap.size _ (strs_new w1 [[98]] _ rfl)).mono ?_
  rintro e w2 ⟨rfl, hb2⟩
  have hB2 : Below w.heap.size w w2 := hb0.trans (hb2.mono (by simp; omega))
  clear hb0 hb2
  go_wp2_with fail
  refine (HS.out w2 (hg.below (by omega) hB2)).mono ?_
  rintro e w3 ⟨rfl, hb3⟩
  have hB3 : Below w.heap.size w w3 := hB2.trans (hb3.mono hB2.size)
  go_wp2_with fail
  refine (HN.out w3).mono ?_
  rintro e w4 ⟨rfl, hb4⟩
  go_wp2
  go_ret
  exact ⟨rfl, hB3.trans (hb4.mono hB3.size)⟩

theorem numL_take (n : Nat) (hn : n < 18446744073709551616) : ∀ k, k ≤ 8 → numberL ((numL n).take k) = n / 256 ^ (8 - k)
  | 0, _ => by
    have : n / 256 ^ 8 = 0 := Nat.div_eq_of_lt (by omega)
    simp only [Nat.sub_zero, this]
    rfl
  | k + 1, h => by
    have hl : k < (numL n).length := by rw [numL_length]; omega
    rw [numberL_snoc _ k hl, numL_take n hn k (by omega)]
    have e := numL_get n k (by omega)
    rw [List.getElem?_eq_getElem hl, Option.some.injEq] at e
    rw [e, UInt8.toNat_ofNat', show 8 - k = (8 - (k + 1)) + 1 by omega, Nat.pow_succ, ← Nat.div_div_eq_div_mul, show 56 - 8 * k = 8 * (8 - (k + 1)) by omega, Nat.pow_mul]
    show n / 256 ^ (8 - (k + 1)) / 256 * 256 + n / 256 ^ (8 - (k + 1)) % 256 = _
    omega
theorem numberL_numL (n : Nat) (hn : n < 18446744073709551616) : numberL (numL n) = n := by
  have h := numL_take n hn 8 (by omega)
  rw [List.take_of_length_le (by rw [numL_length]; omega)] at h
  rw [h]; simp
theorem numL_inj {a b : Nat} (ha : a < 18446744073709551616) (hb : b < 18446744073709551616) (h : numL a = numL b) : a = b := by
  rw [← numberL_numL a ha, ← numberL_numL b hb, h]

/-- a text's number, from its front -/
def valL : List UInt8 → Nat
  | [] => 0
  | a :: x => a.toNat * 256 ^ x.length + valL x
theorem valL_lt : ∀ x : List UInt8, valL x < 256 ^ x.length
  | [] => by simp [valL]
  | a :: x => by
    have := valL_lt x
    have ha := a.toNat_lt
    rw [valL, List.length_cons, Nat.pow_succ]
    have h2 : a.toNat * 256 ^ x.length ≤ 255 * 256 ^ x.length := Nat.mul_le_mul_right _ (by omega)
    omega
theorem foldl_val : ∀ (x : List UInt8) (c : Nat), x.foldl (fun a b => a * 256 + b.toNat) c = c * 256 ^ x.length + valL x
  | [], c => by simp [valL]
  | a :: x, c => by
    rw [List.foldl_cons, foldl_val x, valL, List.length_cons, Nat.pow_succ, Nat.add_mul, Nat.mul_assoc, Nat.mul_comm 256, Nat.add_assoc]
theorem numberL_val (x : List UInt8) : numberL x = valL x := by rw [numberL, foldl_val]; simp
theorem less_val : ∀ x y : List UInt8, x.length = y.length → Op.bytesLess x y = decide (valL x < valL y)
  | [], [], _ => by simp [Op.bytesLess, valL]
  | [], _ :: _, h => by simp at h
  | _ :: _, [], h => by simp at h
  | a :: x, b :: y, h => by
    have hl : x.length = y.length := by simpa using h
    rw [Op.bytesLess, less_val x y hl, valL, valL, hl]
    have hx := valL_lt x
    have hy := valL_lt y
    rw [hl] at hx
    generalize 256 ^ y.length = p at hx hy
    rcases Nat.lt_trichotomy a.toNat b.toNat with h1 | h1 | h1
    · have : (a.toNat + 1) * p ≤ b.toNat * p := Nat.mul_le_mul_right _ h1
      rw [Nat.add_mul] at this
      have e1 : decide (a < b) = true := decide_eq_true (UInt8.lt_iff_toNat_lt.2 h1)
      have e2 : decide (a.toNat * p + valL x < b.toNat * p + valL y) = true := decide_eq_true (by omega)
      rw [e1, e2]; rfl
    · obtain rfl := UInt8.toNat_inj.1 h1
      have e1 : decide (a < a) = false := decide_eq_false (by rw [UInt8.lt_iff_toNat_lt]; omega)
      rw [e1]
      simp
    · have : (b.toNat + 1) * p ≤ a.toNat * p := Nat.mul_le_mul_right _ h1
      rw [Nat.add_mul] at this
      have e1 : decide (a < b) = false := decide_eq_false (by rw [UInt8.lt_iff_toNat_lt]; omega)
      have e2 : (a == b) = false := by rw [beq_eq_false_iff_ne]; rintro rfl; omega
      have e3 : decide (a.toNat * p + valL x < b.toNat * p + valL y) = false := decide_eq_false (by omega)
      rw [e1, e2, e3]; rfl
theorem numL_less (a b : Nat) (ha : a < 18446744073709551616) (hb : b < 18446744073709551616) : Op.bytesLess (numL a) (numL b) = decide ((a : Int) < (b : Int)) := by
  rw [less_val _ _ (by rw [numL_length, numL_length]), ← numberL_val, ← numberL_val, numberL_numL a ha, numberL_numL b hb]
  simp
theorem numL_eq (a b : Nat) (ha : a < 18446744073709551616) (hb : b < 18446744073709551616) : (numL a == numL b) = ((a : Int) == (b : Int)) := by
  by_cases h : a = b
  · subst h; simp
  · have : numL a ≠ numL b := fun e => h (numL_inj ha hb e)
    rw [beq_eq_false_iff_ne.2 this]
    symm
    rw [beq_eq_false_iff_ne]
    omega

set_option maxRecDepth 100000 in
set_option maxHeartbeats 1000000 in
theorem domNumbers_any (a b : Nat) (w : World) (hg : Glob w) (ha : a < 18446744073709551616) (hb : b < 18446744073709551616) :
    Calls Tryd.prog 5 #[.int .u64 (a : Int), .int .u64 (b : Int)] w fun e w' => e = .returned (.bool true) ∧ Below w.heap.size w w' := by
  have hsz := hg.size
  obtain ⟨x, hx⟩ : ∃ x, numL a = x := ⟨_, rfl⟩
  obtain ⟨y, hy⟩ : ∃ y, numL b = y := ⟨_, rfl⟩
  have hxl : x.length = 8 := by rw [← hx]; exact numL_length _
  have hN : numberL x = a := by rw [← hx]; exact numberL_numL a ha
  have hlt : Op.bytesLess x y = decide ((a : Int) < (b : Int)) := by rw [← hx, ← hy]; exact numL_less a b ha hb
  have heq : (x == y) = ((a : Int) == (b : Int)) := by rw [← hx, ← hy]; exact numL_eq a b ha hb
  have Hx := Lib.hid hx
  have Hy := Lib.hid hy
  clear hx hy
  go_enter Tryd.func5, Tryd.ntmps5
  go_wp2_with fail
  refine (num_any a w).mono ?_
  rintro e w1 ⟨rfl, hb1⟩
  rw [Hx.out]
  go_wp2_with fail
  refine (num_any b w1).mono ?_
  rintro e w2 ⟨rfl, hb2⟩
  rw [Hy.out]
  have hB2 : Below w.heap.size w w2 := hb1.trans (hb2.mono hb1.size)
  go_wp2_with fail
  refine (works_any w2 (hg.below (by omega) hB2)).mono ?_
  rintro e w3 ⟨rfl, hb3⟩
  have hB3 : Below w.heap.size w w3 := hB2.trans (hb3.mono hB2.size)
  go_wp2_with fail
  refine (number_any x w3 (by omega)).mono ?_
  rintro e w4 ⟨rfl, rfl⟩
  rw [hN]
  go_wp2
  go_ret
  exact ⟨by simp, hB3⟩
end Go.Proofs.YtmhmcfaalpcngaaDoor
