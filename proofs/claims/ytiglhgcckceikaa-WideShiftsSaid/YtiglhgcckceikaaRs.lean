/- WideShifts: its walk. -/
import Derived.Test.YtiglhgcckceikaaRc
import Derived.Test.YtiglhgcckceikaaRd
import Derived.Test.YtiglhgcckceikaaWj
import Derived.Test.YtiglhgcckceikaaWu
import Derived.Test.YtiglhgcckceikaaWc
import Derived.Deep.Cut
namespace Go.Proofs.Ytiglhgcckceikaa
open Go.RowKit

/-- what the last statement finds in memory -/
structure Sh (w : World) (X n7 n9 : Nat) (y z : Int) (ao : Option Addr) (wz : World) : Prop where
  h7 : wz.heap[n7]? = some (.cells #[.int .u64 (d y 0), .int .u64 (d y 1), .int .u64 (d y 2), .int .u64 (d y 3)] 24 (0, 0))
  h9 : wz.heap[n9]? = some (.cells #[.int .u64 (d z 0), .int .u64 (d z 1), .int .u64 (d z 2), .int .u64 (d z 3)] 24 (0, 0))
  hB : Bs ao X 256 wz
  hw : Below w.heap.size w wz
theorem Sh.next {w wz wa : World} {X n7 n9 : Nat} {y z : Int} {ao : Option Addr} (h : Sh w X n7 n9 y z ao wz) (hb : Below wz.heap.size wz wa) : Sh w X n7 n9 y z ao wa :=
  ⟨arow_below h.h7 hb (arow_lt h.h7), arow_below h.h9 hb (arow_lt h.h9), h.hB.below hb (Nat.le_refl _), h.hw.trans (hb.mono h.hw.size)⟩
theorem Sh.drew {w wz : World} {X n7 n9 : Nat} {y z : Int} {ao : Option Addr} (h : Sh w X n7 n9 y z ao wz) : Sh w X n7 n9 y z ao wz.drew := ⟨h.h7, h.h9, h.hB, h.hw.drew⟩
theorem cells_of4 {wz : World} {n : Nat} {y : Int} {Y : Nat} (h : wz.heap[n]? = some (.cells #[.int .u64 (d y 0), .int .u64 (d y 1), .int .u64 (d y 2), .int .u64 (d y 3)] 24 (0, 0))) (hy : y = (Y : Int)) : ∀ j, j < 4 → wz.cell? ⟨n, j, none⟩ = some (.int .u64 (d (Y : Int) j)) := by
  intro j hj
  rw [← hy]
  exact (arow_cell h j).trans (atQ4 y j hj)
theorem pow4 : pw 4 = ((2 ^ 256 : Nat) : Int) := by decide +kernel

theorem shift_facts (X k : Nat) (hX : X < 2 ^ 256) (hk : k < 300) : ∃ y z : Int, ∃ ov lo : Bool,
      (∀ w, Calls Try.prog 29 #[.agg #[.int .u64 (d ((X : Int)) 0), .int .u64 (d ((X : Int)) 1), .int .u64 (d ((X : Int)) 2), .int .u64 (d ((X : Int)) 3)], .int .u64 (k : Int)] w fun e w' => e = .returned (.tuple #[.agg #[.int .u64 (d y 0), .int .u64 (d y 1), .int .u64 (d y 2), .int .u64 (d y 3)], .bool ov]) ∧ Below w.heap.size w w') ∧
      (∀ w, Calls Try.prog 30 #[.agg #[.int .u64 (d ((X : Int)) 0), .int .u64 (d ((X : Int)) 1), .int .u64 (d ((X : Int)) 2), .int .u64 (d ((X : Int)) 3)], .int .u64 (k : Int)] w fun e w' => e = .returned (.tuple #[.agg #[.int .u64 (d z 0), .int .u64 (d z 1), .int .u64 (d z 2), .int .u64 (d z 3)], .bool lo]) ∧ Below w.heap.size w w') ∧
      y = ((X * 2 ^ k : Nat) : Int) ∧ z = ((X / 2 ^ k : Nat) : Int) ∧ ov = decide (2 ^ (64 * 4) ≤ X * 2 ^ k) ∧ lo = decide (X % 2 ^ k ≠ 0) := by
  have hx : In 4 (X : Int) := ⟨by omega, by rw [pow4]; exact Int.ofNat_lt.2 hX⟩
  have e : ((2 : Int) ^ k) = ((2 ^ k : Nat) : Int) := by rw [Int.natCast_pow]; rfl
  refine ⟨upI X k, dnI X k, geB (upI X k) (pw 4), lostB X k, fun w => shl4_any _ (X : Int) k w rfl hx (by omega), fun w => shr4_any _ (X : Int) k w rfl hx (by omega), ?_, ?_, ?_, ?_⟩
  · rw [upI, e, Int.natCast_mul]
  · rw [dnI, e]; rfl
  · rw [geB, upI, e, pow4, ← Int.natCast_mul]
    exact decide_eq_decide.2 Int.ofNat_le
  · rw [lostB, e]
    exact decide_eq_decide.2 (by omega)
theorem down_lt (X k : Nat) (hX : X < 2 ^ 256) : X / 2 ^ k < 2 ^ (256 - k) := by
  rw [Nat.div_lt_iff_lt_mul (Nat.two_pow_pos k), ← Nat.pow_add]
  exact Nat.lt_of_lt_of_le hX (Nat.pow_le_pow_right (by decide) (by omega))
theorem low_bits (X j : Nat) (b : Bool) (h : X.testBit j = b) : decide (X % 2 ^ (j + 1) ≠ 0) = (decide (X % 2 ^ j ≠ 0) || b) := by
  have hp := Nat.two_pow_pos j
  rw [mod_succ, h]
  cases b
  · simp
  · rw [Bool.toNat_true, Nat.mul_one, Bool.or_true]; exact decide_eq_true (by omega)
theorem low_all (X k : Nat) (hX : X < 2 ^ 256) : decide (X % 2 ^ (min k 256) ≠ 0) = decide (X % 2 ^ k ≠ 0) := by
  by_cases h : k ≤ 256
  · rw [show min k 256 = k by omega]
  · rw [show min k 256 = 256 by omega, Nat.mod_eq_of_lt hX, Nat.mod_eq_of_lt (Nat.lt_of_lt_of_le hX (Nat.pow_le_pow_right (by decide) (by omega)))]

set_option maxRecDepth 100000 in
set_option maxHeartbeats 2000000 in
theorem shifts_any (X n : Nat) (w : World) (hX : X < 2 ^ 256) :
    Calls Try.prog 5 #[.agg #[.int .u64 (d ((X : Int)) 0), .int .u64 (d ((X : Int)) 1), .int .u64 (d ((X : Int)) 2), .int .u64 (d ((X : Int)) 3)], .int .u16 (n : Int)] w fun e w' => e = .returned (.bool true) ∧ Below w.heap.size w w' := by
  obtain ⟨k, hk⟩ : ∃ k, n % 300 = k := ⟨_, rfl⟩
  have hk3 : k < 300 := by omega
  have ek : (n : Int).tmod 300 = (k : Int) := by rw [Int.tmod_eq_emod_of_nonneg (by omega)]; omega
  obtain ⟨y, z, ov, lo, h1, h2, h3, h4, h5, h6⟩ := shift_facts X k hX hk3
  have HSL := Lib.hid h1
  have HSR := Lib.hid h2
  have HY := Lib.hid h3
  have HZ := Lib.hid h4
  have HOV := Lib.hid h5
  have HLO := Lib.hid h6
  have HX := Lib.hid hX
  clear hk h1 h2 h3 h4 h5 h6 hX
  go_enter Try.func5, Try.ntmps5
  go_wp2_with fail
  have r2 := Lib.hid (arow_new w #[.int .u64 (d ((X : Int)) 0), .int .u64 (d ((X : Int)) 1), .int .u64 (d ((X : Int)) 2), .int .u64 (d ((X : Int)) 3)] 24)
  have b0 := below1' w (.cells #[.int .u64 (d ((X : Int)) 0), .int .u64 (d ((X : Int)) 1), .int .u64 (d ((X : Int)) 2), .int .u64 (d ((X : Int)) 3)] 24)
  generalize (w.alloc (.cells #[.int .u64 (d ((X : Int)) 0), .int .u64 (d ((X : Int)) 1), .int .u64 (d ((X : Int)) 2), .int .u64 (d ((X : Int)) 3)] 24)) = v0 at *
  have HC := Lib.hid (cells_of4 r2.out rfl)
  have hlt0 := arow_lt r2.out
  refine (bits_any w.heap.size 4 4 X _ hlt0 HC.out (by omega)).mono ?_
  clear HC hlt0
  rintro e w1 ⟨ao, cap, rfl, hcap, hB, hb1⟩
  have r2 := Lib.hid (arow_below r2.out hb1 (arow_lt r2.out))
  have b1 := b0.trans (hb1.mono b0.size)
  have HB := Lib.hid hB
  clear hb1 hB b0 hcap
  have u1 : IntKind.u16.wrap (k : Int) = (k : Int) := by simp [IntKind.wrap, IntKind.bits, IntKind.signed]; omega
  have u2 : IntKind.i64.wrap (k : Int) = (k : Int) := IntWalk.i64_in _ (by omega)
  have u3 : IntKind.u64.wrap (k : Int) = (k : Int) := by rw [wrapU64]; omega
  have c0 := (arow_cell r2.out 0).trans rfl
  have c1 := (arow_cell r2.out 1).trans rfl
  have c2 := (arow_cell r2.out 2).trans rfl
  have c3 := (arow_cell r2.out 3).trans rfl
  have l2 := arow_lt r2.out
  go_wp2_with fail
  clear c0 c1 c2 c3 l2
  refine (HSL.out _).mono ?_
  rintro e w2 ⟨rfl, hb2⟩
  have r2 := Lib.hid (arow_below r2.out hb2 (arow_lt r2.out))
  have b2 := b1.trans (hb2.mono b1.size)
  have HB := Lib.hid (HB.out.below hb2 (Nat.le_refl _))
  clear hb2 b1 HSL
  have c0 := (arow_cell r2.out 0).trans rfl
  have c1 := (arow_cell r2.out 1).trans rfl
  have c2 := (arow_cell r2.out 2).trans rfl
  have c3 := (arow_cell r2.out 3).trans rfl
  have l2 := arow_lt r2.out
  go_wp2_with fail
  clear c0 c1 c2 c3 l2
  have r7 := Lib.hid (arow_new w2 #[.int .u64 (d y 0), .int .u64 (d y 1), .int .u64 (d y 2), .int .u64 (d y 3)] 24)
  have HB := Lib.hid (HB.out.below (below1' w2 (.cells #[.int .u64 (d y 0), .int .u64 (d y 1), .int .u64 (d y 2), .int .u64 (d y 3)] 24)) (Nat.le_refl _))
  have b2 := b2.alloc b2.size (.cells #[.int .u64 (d y 0), .int .u64 (d y 1), .int .u64 (d y 2), .int .u64 (d y 3)] 24)
  clear r2
  generalize (w2.alloc (.cells #[.int .u64 (d y 0), .int .u64 (d y 1), .int .u64 (d y 2), .int .u64 (d y 3)] 24)) = v2 at *
  generalize w2.heap.size = n7 at *
  refine (HSR.out _).mono ?_
  rintro e w3 ⟨rfl, hb3⟩
  have r7 := Lib.hid (arow_below r7.out hb3 (arow_lt r7.out))
  have b3 := b2.trans (hb3.mono b2.size)
  have HB := Lib.hid (HB.out.below hb3 (Nat.le_refl _))
  clear hb3 b2 HSR
  go_wp2
  have r9 := Lib.hid (arow_new w3 #[.int .u64 (d z 0), .int .u64 (d z 1), .int .u64 (d z 2), .int .u64 (d z 3)] 24)
  have r7 := Lib.hid (arow_alloc (.cells #[.int .u64 (d z 0), .int .u64 (d z 1), .int .u64 (d z 2), .int .u64 (d z 3)] 24) r7.out)
  have HB := Lib.hid (HB.out.below (below1' w3 (.cells #[.int .u64 (d z 0), .int .u64 (d z 1), .int .u64 (d z 2), .int .u64 (d z 3)] 24)) (Nat.le_refl _))
  have b3 := b3.alloc b3.size (.cells #[.int .u64 (d z 0), .int .u64 (d z 1), .int .u64 (d z 2), .int .u64 (d z 3)] 24)
  generalize (w3.alloc (.cells #[.int .u64 (d z 0), .int .u64 (d z 1), .int .u64 (d z 2), .int .u64 (d z 3)] 24)) = v3 at *
  generalize w3.heap.size = n9 at *
  obtain ⟨M, hM⟩ : ∃ M, min k 256 = M := ⟨_, rfl⟩
  have HM := Lib.hid hM
  go_loopw [11, 12] (fun s i wr => ∃ j : Nat, j ≤ M ∧ i = .int .i64 (j : Int) ∧ s = .bool (decide (X % 2 ^ j ≠ 0)) ∧ wr = v3) (fun _ i _ => M - (intOf i).toNat)
  case atStart => exact ⟨0, by omega, rfl, by rw [Nat.pow_zero, Nat.mod_one]; rfl, rfl⟩
  case round =>
    obtain ⟨j, hj, rfl, rfl, rfl⟩ := hrel
    by_cases hlt : j < M
    · obtain ⟨b, rfl, hc⟩ := HB.out.cell j (by omega)
      obtain ⟨bx, hbx⟩ : ∃ bx, X.testBit j = bx := ⟨_, rfl⟩
      obtain ⟨so, hso⟩ : ∃ so, decide (X % 2 ^ j ≠ 0) = so := ⟨_, rfl⟩
      have HN := Lib.hid (low_bits X j bx hbx)
      rw [hbx] at hc
      rw [hso] at HN ⊢
      clear hbx hso
      cases so
      · go_wp2
        go_roundw
        case rel => exact ⟨j + 1, by omega, by go_num, by rw [HN.out]; simp, trivial⟩
        case measure => simp [intOf] <;> omega
      · go_wp2
        go_roundw
        case rel => exact ⟨j + 1, by omega, by go_num, by rw [HN.out]; simp, trivial⟩
        case measure => simp [intOf] <;> omega
    · have ej : j = M := by omega
      have k1 : ¬ (j : Int) < (M : Int) := by omega
      have HE := Lib.hid (show decide (X % 2 ^ j ≠ 0) = lo by rw [ej, ← HM.out, low_all X k HX.out, HLO.out])
      rw [HE.out]
      have HL := Lib.hid (Sh.mk r7.out r9.out HB.out b3)
      have HS1 := Lib.hid (fun (wz : World) (h : Sh w X n7 n9 y z ao wz) => shift_up ao cap X 256 k wz HX.out h.hB (by omega) (by omega))
      have HS2 := Lib.hid (fun (wz : World) (h : Sh w X n7 n9 y z ao wz) => shift_down ao cap X 256 k wz HX.out h.hB (by omega) (by omega))
      have HI1 := Lib.hid (fun (a1 : Option Addr) (p1 : Nat) (wz : World) (h : Sh w X n7 n9 y z ao wz) (hb : Bs a1 (X * 2 ^ k) (256 + k) wz) =>
        is_any a1 p1 n7 4 (X * 2 ^ k) (256 + k) 4 ov wz (by rw [Nat.pow_add]; exact Nat.mul_lt_mul_of_pos_right HX.out (Nat.two_pow_pos k)) hb (by omega) (by omega) (arow_lt h.h7) (cells_of4 h.h7 HY.out) HOV.out)
      have HI2 := Lib.hid (fun (a1 : Option Addr) (p1 : Nat) (wz : World) (h : Sh w X n7 n9 y z ao wz) (hb : Bs a1 (X / 2 ^ k) (256 - k) wz) =>
        is_any a1 p1 n9 4 (X / 2 ^ k) (256 - k) 4 false wz (down_lt X k HX.out) hb (by omega) (by omega) (arow_lt h.h9) (cells_of4 h.h9 HZ.out) (by
          have := Nat.div_le_self X (2 ^ k)
          have := HX.out
          exact (decide_eq_false (by omega)).symm))
      clear HE HM HLO r7 r9 b3 HB r2 HX HY HZ HOV ek
      go_upto_region 10 with (fail)
      have u5 : IntKind.i64.wrap (-(k : Int)) = -(k : Int) := IntWalk.i64_in _ (by omega)
      go_region_held3 (fun w' => Sh w X n7 n9 y z ao w')
        (first | (with_reducible assumption) | (with_reducible exact HL.out) | (with_reducible exact HL.out.drew))
        (first
          | (go_at_call 31; with_reducible refine (HS1.out _ (by first | (with_reducible assumption) | (with_reducible exact HL.out) | (with_reducible exact HL.out.drew))).mono ?_; rintro e wa ⟨a1, p1, rfl, hp1, hB1, hb1⟩; have hSa := Sh.next (by first | (with_reducible assumption) | (with_reducible exact HL.out) | (with_reducible exact HL.out.drew)) hb1)
          | (go_at_call 31; with_reducible refine (HS2.out _ (by with_reducible assumption)).mono ?_; rintro e wc ⟨a2, p2, rfl, hp2, hB2, hb3⟩; have hSc := Sh.next (by with_reducible assumption) hb3)
          | (go_at_call 10; with_reducible refine (HI1.out _ _ _ (by with_reducible assumption) (by with_reducible assumption)).mono ?_; rintro e wb ⟨rfl, hb2⟩; have hSb := Sh.next (by with_reducible assumption) hb2)
          | (go_at_call 10; with_reducible refine (HI2.out _ _ _ (by with_reducible assumption) (by with_reducible assumption)).mono ?_; rintro e wd ⟨rfl, hb4⟩; have hSd := Sh.next (by with_reducible assumption) hb4)
          | (go_at_call 22; refine (works_any _).mono ?_; rintro e we ⟨rfl, hb5⟩; have hSe := Sh.next (by with_reducible assumption) hb5))
      all_goals
        go_wp2_with fail
        go_ret
        exact ⟨rfl, (show Sh w X n7 n9 y z ao _ by with_reducible assumption).hw⟩
end Go.Proofs.Ytiglhgcckceikaa
