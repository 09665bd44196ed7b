/- Below: the first number drawn that is not passed over; and what is drawn, piece by piece. -/
import Derived.Test.YtilcgafnkihjcaaDoorSd
namespace Go.Proofs.YtilcgafnkihjcaaDoor
open Go.RowKit

/-- is the number d passed over for n: it is among the last ones, that are left over of 2^64 -/
def passedL (d n : Nat) : Bool := decide (18446744073709551616 - 18446744073709551616 % n ≤ d)

set_option maxHeartbeats 1000000 in
theorem passed_any (d n : Nat) (w : World) (_hd : d < 18446744073709551616) (hn : 0 < n) (hn2 : n < 18446744073709551616) :
    Calls Tryd.prog 25 #[.int .u64 (d : Int), .int .u64 (n : Int)] w fun e w' => e = .returned (.bool (passedL d n)) ∧ w' = w := by
  have hlt : 18446744073709551616 % n < n := Nat.mod_lt _ hn
  obtain ⟨r, hr⟩ : ∃ r, 18446744073709551616 % n = r := ⟨_, rfl⟩
  have e1 : IntKind.u64.wrap (-(n : Int)) = ((18446744073709551616 - n : Nat) : Int) := by rw [wrap_u64]; omega
  have e2 : ((18446744073709551616 - n : Nat) : Int).tmod (n : Int) = (r : Int) := by
    rw [← hr, ← Int.ofNat_tmod, ← Nat.mod_eq_sub_mod (by omega)]
  have hp : passedL d n = decide ((18446744073709551615 : Int) - (r : Int) < (d : Int)) := by
    rw [passedL, hr]; congr 1; apply propext; omega
  rw [hp]
  rw [hr] at hlt
  clear hp hr
  have hn0 : ((n : Int) == 0) = false := by simp; omega
  have hn0' : ¬ (n : Int) = 0 := by omega
  have e3 : IntKind.u64.wrap ((18446744073709551615 : Int) - (r : Int)) = (18446744073709551615 : Int) - (r : Int) := by rw [wrap_u64]; omega
  have e4 : IntKind.u64.wrap (r : Int) = (r : Int) := by rw [wrap_u64]; omega
  go_enter Tryd.func25, Tryd.ntmps25
  go_wp2
  go_ret
  exact ⟨rfl, rfl⟩

/-- the place that a stream's memory holds -/
def placeOf (b : Nat) (w : World) : Nat := match w.cell? ⟨b, 2, none⟩ with | some (.int _ q) => q.toNat | _ => 0
theorem StAt.placeOf {b : Nat} {seed : List UInt8} {p : Nat} {w : World} (h : StAt b seed p w) : placeOf b w = p := by
  unfold Go.Proofs.YtilcgafnkihjcaaDoor.placeOf; rw [h.place]; simp

set_option maxHeartbeats 400000 in
theorem sBelow_zero (b : Nat) (w : World) :
    Calls Tryd.prog 14 #[.pointer (some ⟨b, 0, none⟩), .int .u64 0] w fun e w' => e = .returned (.tuple #[.int .u64 0, .int .i64 2]) ∧ w' = w := by
  go_enter Tryd.func14, Tryd.ntmps14
  go_wp2
  go_ret2
  exact ⟨rfl, rfl⟩

theorem numAt_lt (seed : List UInt8) (p : Nat) : numAt seed p < 18446744073709551616 := by
  have := numberL_drawL_lt seed p 8
  have h : (256 : Nat) ^ 8 = 18446744073709551616 := by decide
  unfold numAt
  omega

set_option maxHeartbeats 1000000 in
theorem sBelow_any (b : Nat) (seed : List UInt8) (hseed : seed.length = 32) (p n j : Nat) (w : World) (hst : StAt b seed p w) (hg : Glob w) (hb : 2 ≤ b) (hn : 0 < n) (hn2 : n < 18446744073709551616)
    (hp : p + 8 * (j + 1) < 18446744073709551616) (hover : ∀ i < j, passedL (numAt seed (p + 8 * i)) n = true) (hj : passedL (numAt seed (p + 8 * j)) n = false) :
    Calls Tryd.prog 14 #[.pointer (some ⟨b, 0, none⟩), .int .u64 (n : Int)] w fun e w' => e = .returned (.tuple #[.int .u64 ((numAt seed (p + 8 * j) % n : Nat) : Int), .int .i64 0]) ∧ StAt b seed (p + 8 * (j + 1)) w' ∧ But b w w' := by
  have HST := Lib.hid hst
  have HG := Lib.hid hg
  have hblt := hst.lt
  have HO := Lib.hid hover
  have HJ := Lib.hid hj
  clear hst hg hover hj
  have hn0' : ¬ (n : Int) = 0 := by omega
  go_enter Tryd.func14, Tryd.ntmps14
  go_wp2_with fail
  refine (sUint64_any b seed hseed p w HST.out HG.out hb (by omega)).mono ?_
  rintro e w1 ⟨rfl, hs1, hb1⟩
  have HS1 := Lib.hid hs1
  clear hs1
  go_wp2
  go_loopw [6] (fun v wr => ∃ i : Nat, i ≤ j ∧ v = .int .u64 (numAt seed (p + 8 * i) : Int) ∧ Hid (StAt b seed (p + 8 * (i + 1)) wr) ∧ But b w wr) (fun _ wr => p + 8 * (j + 1) - placeOf b wr)
  case atStart => exact ⟨0, by omega, rfl, HS1, hb1⟩
  case round =>
    obtain ⟨i, hi, rfl, HS, hbi⟩ := hrel
    have hgi : Glob wr := HG.out.below (Nat.le_refl _) (hbi.below (by omega) hb)
    have HGi := Lib.hid hgi
    have hm := HS.out.placeOf
    clear hgi
    obtain ⟨x, hx⟩ : ∃ x, numAt seed (p + 8 * i) = x := ⟨_, rfl⟩
    have hx64 : x < 18446744073709551616 := by rw [← hx]; exact numAt_lt _ _
    have HX := Lib.hid hx
    rw [hx]
    clear hx
    by_cases hij : i < j
    · have hpass : passedL x n = true := by rw [← HX.out]; exact HO.out i hij
      go_wp2_with fail
      refine (passed_any x n wr hx64 hn hn2).mono ?_
      rintro e w2 ⟨rfl, rfl⟩
      go_wp2_with fail
      refine (sUint64_any b seed hseed (p + 8 * (i + 1)) w2 HS.out HGi.out hb (by omega)).mono ?_
      rintro e w3 ⟨rfl, hs3, hb3⟩
      go_wp2
      go_roundw
      case rel => exact ⟨i + 1, by omega, rfl, Lib.hid (by rw [show p + 8 * (i + 1 + 1) = p + 8 * (i + 1) + 8 by omega]; exact hs3), hbi.trans hb3⟩
      case measure => rw [hs3.placeOf, hm]; omega
    · have e : i = j := by omega
      subst e
      have hpass : passedL x n = false := by rw [← HX.out]; exact HJ.out
      go_wp2_with fail
      refine (passed_any x n wr hx64 hn hn2).mono ?_
      rintro e w2 ⟨rfl, rfl⟩
      go_wp2
      go_ret2
      exact ⟨by rw [HX.out, Int.natCast_emod]; rfl, HS.out, hbi⟩

theorem drawL_get (seed : List UInt8) (p n k : Nat) (hk : k < n) : (drawL seed p n)[k]? = some (byteL seed (p + k)) := by simp [drawL, hk]
theorem drawL_append (seed : List UInt8) (p m n : Nat) : drawL seed p (m + n) = drawL seed p m ++ drawL seed (p + m) n := by
  simp only [drawL, List.range_add, List.map_append, List.map_map]
  congr 1
  apply List.map_congr_left
  intro k _
  simp [Nat.add_assoc]
theorem drawL_block (seed : List UInt8) (i : Nat) : drawL seed (32 * i) 32 = blockL seed i := by
  apply List.ext_getElem?
  intro k
  by_cases hk : k < 32
  · rw [drawL_get _ _ _ _ hk, byteL, show (32 * i + k) / 32 = i by omega, show (32 * i + k) % 32 = k by omega, List.getD_eq_getElem?_getD, List.getElem?_eq_getElem (by rw [blockL_length]; exact hk)]
    rfl
  · rw [List.getElem?_eq_none (by rw [drawL_length]; omega), List.getElem?_eq_none (by rw [blockL_length]; omega)]
theorem drawL_take (seed : List UInt8) (p m n : Nat) (h : m ≤ n) : (drawL seed p n).take m = drawL seed p m := by
  rw [show n = m + (n - m) by omega, drawL_append, List.take_append_of_le_length (by rw [drawL_length]; omega), List.take_of_length_le (by rw [drawL_length]; omega)]
end Go.Proofs.YtilcgafnkihjcaaDoor
