/- A part of a row turned. -/
import Derived.Test.YtmnklonoelpidaaGreatDoorJ15
namespace Go.Proofs.YtmnklonoelpidaaGreatDoor
open Go.RowKit Go.Sort

set_option maxRecDepth 100000 in
set_option maxHeartbeats 4000000 in
theorem turnr_any (w0 : World) (b n cap : Nat) (c0 : Array Value) (hn : n ≤ 100000) (d : Array Nat) (lo hi : Nat) (hlo : lo < hi) (hh : hi ≤ n) (w : World) (hR : Rw w0 b c0 n d w) :
    Calls Tryz.prog 190 #[.slice (some ⟨b, 0, none⟩) n cap, .int .i64 (lo : Int), .int .i64 (hi : Int)] w fun e w' => ∃ e' : Array Nat, e = .returned (.tuple #[]) ∧ PermIn lo hi d e' ∧ Rw w0 b c0 n e' w' := by
  have HR := Lib.hid hR
  have n1 : (n : Int) ≤ 100000 := by omega
  have hz : d.size = n := hR.size
  obtain ⟨h1, hh1⟩ : ∃ x, x = hi - 1 := ⟨_, rfl⟩
  have eh : (hi : Int) - 1 = (h1 : Int) := by omega
  have hb : h1 < hi := by omega
  clear hR hh1
  go_enter Tryz.func190, Tryz.ntmps190
  go_wp2
  
  go_loopw [6, 7] (fun vi vj wr => ∃ (i j : Nat) (dk : Array Nat), vi = .int .i64 (i : Int) ∧ vj = .int .i64 (j : Int) ∧ lo ≤ i ∧ i ≤ hi ∧ j < hi ∧ lo ≤ j + 1 ∧ Hid (PermIn lo hi d dk) ∧ Hid (Rw w0 b c0 n dk wr)) (fun vi _ _ => hi - (intOf vi).toNat)
  case atStart => exact ⟨lo, h1, d, rfl, rfl, by omega, by omega, by omega, by omega, Lib.hid (permIn_refl _ _ _), HR⟩
  case round =>
    obtain ⟨i, j, dk, rfl, rfl, hi0, hi1, hj0, hj1, HP, HD⟩ := hrel
    by_cases hij : i < j
    · have hl : (i : Int) < (j : Int) := by omega
      obtain ⟨j1, hj2⟩ : ∃ x, x = j - 1 := ⟨_, rfl⟩
      have ej : (j : Int) - 1 = (j1 : Int) := by omega
      have bj : lo ≤ j1 + 1 ∧ j1 < hi := by omega
      clear hj2
      obtain ⟨y0, hy0⟩ : ∃ y, y = dk[i]! := ⟨_, rfl⟩
      obtain ⟨y1, hy1⟩ : ∃ y, y = dk[j]! := ⟨_, rfl⟩
      have g0 : wr.cell? ⟨b, i, none⟩ = some (.int .u64 (y0 : Int)) := by rw [hy0]; exact HD.out.cell i (by omega)
      have g1 : wr.cell? ⟨b, j, none⟩ = some (.int .u64 (y1 : Int)) := by rw [hy1]; exact HD.out.cell j (by omega)
      have b0 : (0 : Int) ≤ (i : Int) ∧ (i : Int) < (n : Int) := by omega
      have b1 : (0 : Int) ≤ (j : Int) ∧ (j : Int) < (n : Int) := by omega
      have fr0 : wr.frozen? ⟨b, i, none⟩ = false := HD.out.free i
      have fr1 : wr.frozen? ⟨b, j, none⟩ = false := HD.out.free j
      have ne1 : ¬ i = j := by omega
      have ne2 : ¬ j = i := by omega
      have HSW := Lib.hid (show Rw w0 b c0 n (swp dk i j) ((wr.drew.setCell ⟨b, i, none⟩ (.int .u64 (y1 : Int))).setCell ⟨b, j, none⟩ (.int .u64 (y0 : Int))) by
        have h := HD.out.drew.swap i j (by omega) (by omega)
        rw [← hy0, ← hy1] at h
        exact h)
      clear hy0 hy1
      go_wp2
      go_region
      go_wp2
      go_roundw
      case rel => exact ⟨i + 1, j1, swp dk i j, by go_num, by go_num, by omega, by omega, by omega, by omega, Lib.hid (permIn_trans _ _ _ _ _ HP.out (swp_permIn _ _ _ _ _ (by omega) (by omega) (by omega) (by omega) (by rw [HD.out.size]; omega))), HSW⟩
      case measure => simp [intOf] <;> omega
    · have hl : ¬ (i : Int) < (j : Int) := by omega
      go_wp2
      go_end0
      exact ⟨rfl, dk, HP.out, HD.out⟩
end Go.Proofs.YtmnklonoelpidaaGreatDoor
