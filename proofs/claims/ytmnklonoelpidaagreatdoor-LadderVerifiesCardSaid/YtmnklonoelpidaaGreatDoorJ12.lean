/- Parting a row by a pivot: the walks (tools/genpart.py). -/
import Derived.Test.YtmnklonoelpidaaGreatDoorJ11
namespace Go.Proofs.YtmnklonoelpidaaGreatDoor
open Go.RowKit Go.Sort

def ltP (p x : Nat) : Bool := decide (x < p)
def leP (p x : Nat) : Bool := !decide (p < x)
set_option maxRecDepth 100000 in
set_option maxHeartbeats 4000000 in
theorem parteq_any (w0 : World) (b n cap : Nat) (c0 : Array Value) (hn : n ≤ 100000) (d : Array Nat) (lo hi pv : Nat) (h1 : lo ≤ pv) (h2 : pv < hi) (hh : hi ≤ n) (w : World) (hR : Rw w0 b c0 n d w) :
    Calls Tryz.prog 193 #[.slice (some ⟨b, 0, none⟩) n cap, .int .i64 (lo : Int), .int .i64 (hi : Int), .int .i64 (pv : Int)] w fun e w' => ∃ (m : Nat) (e' : Array Nat), e = .returned (.int .i64 (m : Int)) ∧ Prt (leP d[pv]!) lo hi d[pv]! d m (m - 1) e' ∧ Rw w0 b c0 n e' w' := by
  have hsz := hR.size
  have n1 : (n : Int) ≤ 100000 := by omega
  obtain ⟨p, hp⟩ : ∃ p, p = d[pv]! := ⟨_, rfl⟩
  have HP0 := Lib.hid (show Prt (leP p) lo hi p d (lo + 1) (hi - 1) (swp d lo pv) by rw [hp]; exact Prt.start h1 h2 (by omega))
  have HR := Lib.hid hR
  clear hR
  have HPP := Lib.hid hp
  clear hp
  obtain ⟨ya, hya⟩ : ∃ y, y = d[lo]! := ⟨_, rfl⟩
  obtain ⟨yb, hyb⟩ : ∃ y, y = d[pv]! := ⟨_, rfl⟩
  have fa : w.cell? ⟨b, lo, none⟩ = some (.int .u64 (ya : Int)) := by rw [hya]; exact HR.out.cell lo (by omega)
  have fb : w.cell? ⟨b, pv, none⟩ = some (.int .u64 (yb : Int)) := by rw [hyb]; exact HR.out.cell pv (by omega)
  have ga := HR.out.free lo
  have gb := HR.out.free pv
  have ba : (0 : Int) ≤ (lo : Int) ∧ (lo : Int) < (n : Int) := by omega
  have bb' : (0 : Int) ≤ (pv : Int) ∧ (pv : Int) < (n : Int) := by omega
  have HSW := Lib.hid (show Rw w0 b c0 n (swp d lo pv) ((w.drew.setCell ⟨b, lo, none⟩ (.int .u64 (yb : Int))).setCell ⟨b, pv, none⟩ (.int .u64 (ya : Int))) by
    have h := HR.out.drew.swap lo pv (by omega) (by omega)
    rw [← hya, ← hyb] at h
    exact h)
  have HYY := Lib.hid (And.intro hya hyb)
  clear hya hyb
  by_cases hsame : lo = pv
  · have hyy : ya = yb := by rw [HYY.out.1, HYY.out.2, hsame]
    have HSM := Lib.hid hsame
    clear hsame HYY
    subst hyy
    have fa2 : (w.drew.setCell ⟨b, lo, none⟩ (.int .u64 (ya : Int))).cell? ⟨b, pv, none⟩ = some (.int .u64 (ya : Int)) := by rw [HSM.out]; exact setCell_get fb
    have fa3 : (w.setCell ⟨b, lo, none⟩ (.int .u64 (ya : Int))).cell? ⟨b, pv, none⟩ = some (.int .u64 (ya : Int)) := by rw [HSM.out]; exact setCell_get fb
    have fb2 : (w.drew.setCell ⟨b, pv, none⟩ (.int .u64 (ya : Int))).cell? ⟨b, lo, none⟩ = some (.int .u64 (ya : Int)) := by rw [← HSM.out]; exact setCell_get fa
    go_enter Tryz.func193, Tryz.ntmps193
    go_wp2
    go_region
    go_wp2
    go_loopw [9, 10] (fun vi vj wr => ∃ (i0 j0 : Nat) (dk : Array Nat), vi = .int .i64 (i0 : Int) ∧ vj = .int .i64 (j0 : Int) ∧ Hid (Prt (leP p) lo hi p d i0 j0 dk) ∧ Hid (Rw w0 b c0 n dk wr)) (fun vi vj _ => (intOf vj + 1 - intOf vi).toNat)
    case atStart => exact ⟨lo + 1, hi - 1, _, by go_num, by go_num, HP0, HSW⟩
    case round =>
      obtain ⟨i0, j0, dk, rfl, rfl, HP, HD⟩ := hrel
      have bi0 := HP.out.li
      have bj0 := HP.out.ij
      have bh0 := HP.out.jh
      go_wp2
      generalize wr = wa at *
      go_loopw [9] (fun v wr => ∃ i : Nat, v = .int .i64 (i : Int) ∧ i0 ≤ i ∧ Hid (Prt (leP p) lo hi p d i j0 dk) ∧ Hid (Rw w0 b c0 n dk wr)) (fun v _ => hi + 1 - (intOf v).toNat)
      case atStart => exact ⟨i0, by go_num, Nat.le_refl _, HP, HD⟩
      case round =>
        obtain ⟨i, rfl, hx, HP, HD⟩ := hrel
        have bi := HP.out.li
        have bj := HP.out.ij
        have bh := HP.out.jh
        have fp : wr.cell? ⟨b, lo, none⟩ = some (.int .u64 (p : Int)) := by rw [← HP.out.piv]; exact HD.out.cell lo (by omega)
        have bl : (0 : Int) ≤ (lo : Int) ∧ (lo : Int) < (n : Int) := by omega
        have b0 : (0 : Int) ≤ (i : Int) := by omega
        by_cases hgo : i ≤ j0 ∧ (leP p) dk[i]! = true
        · obtain ⟨hij, hf⟩ := hgo
          have hl : decide (i ≤ j0) = true := by rw [decide_eq_true_iff]; exact hij
          obtain ⟨y0, hy0⟩ : ∃ y, y = dk[i]! := ⟨_, rfl⟩
          have f0 : wr.cell? ⟨b, i, none⟩ = some (.int .u64 (y0 : Int)) := by rw [hy0]; exact HD.out.cell i (by omega)
          have b1 : (i : Int) < (n : Int) := by omega
          have hlt : ¬ p < y0 := by rw [← hy0] at hf; simpa [ltP, leP] using hf
          have HF := Lib.hid hf
          clear hf hy0
          go_wp2
          go_quiet (first | (go_at_call 192; refine Calls.quiet_of_same ((less_any _ _ _).mono (fun e w' h => ⟨h.1, h.2.symm⟩))))
          have HD2 := Lib.hid (HD.out.drewN nq)
          generalize wr.drewN nq = v1 at *
          go_wp2
          go_roundw
          case rel => exact ⟨i + 1, by go_num, by omega, Lib.hid (HP.out.up hij HF.out), HD2⟩
          case measure => simp [intOf] <;> omega
        · have HSTi := Lib.hid (show i ≤ j0 → (leP p) dk[i]! = false from fun h => by
            cases e : (leP p) dk[i]! with
            | true => exact absurd ⟨h, e⟩ hgo
            | false => rfl)
          clear hgo
          have hcase : (decide (i ≤ j0) = false) ∨ (decide (i ≤ j0) = true ∧ (i : Int) < (n : Int) ∧ ∃ y0 : Nat, wr.cell? ⟨b, i, none⟩ = some (.int .u64 (y0 : Int)) ∧ (p < y0)) := by
            by_cases h : i ≤ j0
            · have hf := HSTi.out h
              exact .inr ⟨by rw [decide_eq_true_iff]; exact h, by omega, _, HD.out.cell i (by omega), by simpa [ltP, leP] using hf⟩
            · exact .inl (by rw [decide_eq_false_iff_not]; exact h)
          rcases hcase with hl | ⟨hl, b1, y0, f0, hlt⟩
          all_goals
            go_wp2
            go_quiet (first | (go_at_call 192; refine Calls.quiet_of_same ((less_any _ _ _).mono (fun e w' h => ⟨h.1, h.2.symm⟩))))
            have HD2 := Lib.hid (HD.out.drewN nq)
            generalize wr.drewN nq = v1 at *
            clear HD fp
            go_wp2
            clear hl
            generalize v1 = wa at *
            clear bi bj bh
            go_loopw [10] (fun v wr => ∃ j : Nat, v = .int .i64 (j : Int) ∧ j ≤ j0 ∧ Hid (Prt (leP p) lo hi p d i j dk) ∧ Hid (Rw w0 b c0 n dk wr)) (fun v _ => (intOf v + 1).toNat)
            case atStart => exact ⟨j0, by go_num, Nat.le_refl _, HP, HD2⟩
            case round =>
              obtain ⟨j, rfl, hx, HP, HD⟩ := hrel
              have bi := HP.out.li
              have bj := HP.out.ij
              have bh := HP.out.jh
              have fp : wr.cell? ⟨b, lo, none⟩ = some (.int .u64 (p : Int)) := by rw [← HP.out.piv]; exact HD.out.cell lo (by omega)
              have bl : (0 : Int) ≤ (lo : Int) ∧ (lo : Int) < (n : Int) := by omega
              have b0 : (0 : Int) ≤ (j : Int) := by omega
              by_cases hgo : i ≤ j ∧ (leP p) dk[j]! = false
              · obtain ⟨hij, hf⟩ := hgo
                have hl : decide (i ≤ j) = true := by rw [decide_eq_true_iff]; exact hij
                obtain ⟨y0, hy0⟩ : ∃ y, y = dk[j]! := ⟨_, rfl⟩
                have f0 : wr.cell? ⟨b, j, none⟩ = some (.int .u64 (y0 : Int)) := by rw [hy0]; exact HD.out.cell j (by omega)
                have b1 : (j : Int) < (n : Int) := by omega
                have hlt : p < y0 := by rw [← hy0] at hf; simpa [ltP, leP] using hf
                have HF := Lib.hid hf
                clear hf hy0
                go_wp2
                go_quiet (first | (go_at_call 192; refine Calls.quiet_of_same ((less_any _ _ _).mono (fun e w' h => ⟨h.1, h.2.symm⟩))))
                have HD2 := Lib.hid (HD.out.drewN nq)
                generalize wr.drewN nq = v1 at *
                go_wp2
                go_roundw
                case rel => exact ⟨j - 1, by go_num, by omega, Lib.hid (HP.out.down hij HF.out), HD2⟩
                case measure => simp [intOf] <;> omega
              · have HSTj := Lib.hid (show i ≤ j → (leP p) dk[j]! = true from fun h => by
                  cases e : (leP p) dk[j]! with
                  | false => exact absurd ⟨h, e⟩ hgo
                  | true => rfl)
                clear hgo
                have hcase : (decide (i ≤ j) = false) ∨ (decide (i ≤ j) = true ∧ (j : Int) < (n : Int) ∧ ∃ y0 : Nat, wr.cell? ⟨b, j, none⟩ = some (.int .u64 (y0 : Int)) ∧ (¬ p < y0)) := by
                  by_cases h : i ≤ j
                  · have hf := HSTj.out h
                    exact .inr ⟨by rw [decide_eq_true_iff]; exact h, by omega, _, HD.out.cell j (by omega), by simpa [ltP, leP] using hf⟩
                  · exact .inl (by rw [decide_eq_false_iff_not]; exact h)
                rcases hcase with hl | ⟨hl, b1, y0, f0, hlt⟩
                all_goals
                  go_wp2
                  go_quiet (first | (go_at_call 192; refine Calls.quiet_of_same ((less_any _ _ _).mono (fun e w' h => ⟨h.1, h.2.symm⟩))))
                  have HD2 := Lib.hid (HD.out.drewN nq)
                  generalize wr.drewN nq = v1 at *
                  clear HD fp
                  by_cases hji : j < i
                  · have hgt : decide (j < i) = true := by rw [decide_eq_true_iff]; exact hji
                    go_wp2
                    go_ret
                    refine ⟨i, dk, rfl, ?_, HD2.out⟩
                    have hq := HP.out
                    rw [HPP.out] at hq
                    rw [show i - 1 = j by omega]
                    exact hq
                  · have hgt : decide (j < i) = false := by rw [decide_eq_false_iff_not]; exact hji
                    have HSWP := Lib.hid (HP.out.swap (by omega) (HSTi.out (by omega)) (HSTj.out (by omega)))
                    have hlt2 := HSWP.out.1
                    have ne1 : ¬ i = j := by omega
                    have ne2 : ¬ j = i := by omega
                    obtain ⟨ya, hya⟩ : ∃ y, y = dk[i]! := ⟨_, rfl⟩
                    obtain ⟨yb, hyb⟩ : ∃ y, y = dk[j]! := ⟨_, rfl⟩
                    have fa : v1.cell? ⟨b, i, none⟩ = some (.int .u64 (ya : Int)) := by rw [hya]; exact HD2.out.cell i (by omega)
                    have fb : v1.cell? ⟨b, j, none⟩ = some (.int .u64 (yb : Int)) := by rw [hyb]; exact HD2.out.cell j (by omega)
                    have ga := HD2.out.free i
                    have gb := HD2.out.free j
                    have ba : (0 : Int) ≤ (i : Int) ∧ (i : Int) < (n : Int) := by omega
                    have bb' : (0 : Int) ≤ (j : Int) ∧ (j : Int) < (n : Int) := by omega
                    have HSW := Lib.hid (show Rw w0 b c0 n (swp dk i j) ((v1.drew.setCell ⟨b, i, none⟩ (.int .u64 (yb : Int))).setCell ⟨b, j, none⟩ (.int .u64 (ya : Int))) by
                      have h := HD2.out.drew.swap i j (by omega) (by omega)
                      rw [← hya, ← hyb] at h
                      exact h)
                    have HYY := Lib.hid (And.intro hya hyb)
                    clear hya hyb
                    clear HYY
                    go_wp2
                    go_region
                    go_wp2
                    go_roundw
                    case rel => exact ⟨i + 1, j - 1, _, by go_num, by go_num, Lib.hid HSWP.out.2, HSW⟩
                    case measure => simp [intOf] <;> omega
  · have ne1 : ¬ pv = lo := fun h => hsame h.symm
    have ne2 : ¬ lo = pv := hsame
    clear HYY hsame
    go_enter Tryz.func193, Tryz.ntmps193
    go_wp2
    go_region
    go_wp2
    go_loopw [9, 10] (fun vi vj wr => ∃ (i0 j0 : Nat) (dk : Array Nat), vi = .int .i64 (i0 : Int) ∧ vj = .int .i64 (j0 : Int) ∧ Hid (Prt (leP p) lo hi p d i0 j0 dk) ∧ Hid (Rw w0 b c0 n dk wr)) (fun vi vj _ => (intOf vj + 1 - intOf vi).toNat)
    case atStart => exact ⟨lo + 1, hi - 1, _, by go_num, by go_num, HP0, HSW⟩
    case round =>
      obtain ⟨i0, j0, dk, rfl, rfl, HP, HD⟩ := hrel
      have bi0 := HP.out.li
      have bj0 := HP.out.ij
      have bh0 := HP.out.jh
      go_wp2
      generalize wr = wa at *
      go_loopw [9] (fun v wr => ∃ i : Nat, v = .int .i64 (i : Int) ∧ i0 ≤ i ∧ Hid (Prt (leP p) lo hi p d i j0 dk) ∧ Hid (Rw w0 b c0 n dk wr)) (fun v _ => hi + 1 - (intOf v).toNat)
      case atStart => exact ⟨i0, by go_num, Nat.le_refl _, HP, HD⟩
      case round =>
        obtain ⟨i, rfl, hx, HP, HD⟩ := hrel
        have bi := HP.out.li
        have bj := HP.out.ij
        have bh := HP.out.jh
        have fp : wr.cell? ⟨b, lo, none⟩ = some (.int .u64 (p : Int)) := by rw [← HP.out.piv]; exact HD.out.cell lo (by omega)
        have bl : (0 : Int) ≤ (lo : Int) ∧ (lo : Int) < (n : Int) := by omega
        have b0 : (0 : Int) ≤ (i : Int) := by omega
        by_cases hgo : i ≤ j0 ∧ (leP p) dk[i]! = true
        · obtain ⟨hij, hf⟩ := hgo
          have hl : decide (i ≤ j0) = true := by rw [decide_eq_true_iff]; exact hij
          obtain ⟨y0, hy0⟩ : ∃ y, y = dk[i]! := ⟨_, rfl⟩
          have f0 : wr.cell? ⟨b, i, none⟩ = some (.int .u64 (y0 : Int)) := by rw [hy0]; exact HD.out.cell i (by omega)
          have b1 : (i : Int) < (n : Int) := by omega
          have hlt : ¬ p < y0 := by rw [← hy0] at hf; simpa [ltP, leP] using hf
          have HF := Lib.hid hf
          clear hf hy0
          go_wp2
          go_quiet (first | (go_at_call 192; refine Calls.quiet_of_same ((less_any _ _ _).mono (fun e w' h => ⟨h.1, h.2.symm⟩))))
          have HD2 := Lib.hid (HD.out.drewN nq)
          generalize wr.drewN nq = v1 at *
          go_wp2
          go_roundw
          case rel => exact ⟨i + 1, by go_num, by omega, Lib.hid (HP.out.up hij HF.out), HD2⟩
          case measure => simp [intOf] <;> omega
        · have HSTi := Lib.hid (show i ≤ j0 → (leP p) dk[i]! = false from fun h => by
            cases e : (leP p) dk[i]! with
            | true => exact absurd ⟨h, e⟩ hgo
            | false => rfl)
          clear hgo
          have hcase : (decide (i ≤ j0) = false) ∨ (decide (i ≤ j0) = true ∧ (i : Int) < (n : Int) ∧ ∃ y0 : Nat, wr.cell? ⟨b, i, none⟩ = some (.int .u64 (y0 : Int)) ∧ (p < y0)) := by
            by_cases h : i ≤ j0
            · have hf := HSTi.out h
              exact .inr ⟨by rw [decide_eq_true_iff]; exact h, by omega, _, HD.out.cell i (by omega), by simpa [ltP, leP] using hf⟩
            · exact .inl (by rw [decide_eq_false_iff_not]; exact h)
          rcases hcase with hl | ⟨hl, b1, y0, f0, hlt⟩
          all_goals
            go_wp2
            go_quiet (first | (go_at_call 192; refine Calls.quiet_of_same ((less_any _ _ _).mono (fun e w' h => ⟨h.1, h.2.symm⟩))))
            have HD2 := Lib.hid (HD.out.drewN nq)
            generalize wr.drewN nq = v1 at *
            clear HD fp
            go_wp2
            clear hl
            generalize v1 = wa at *
            clear bi bj bh
            go_loopw [10] (fun v wr => ∃ j : Nat, v = .int .i64 (j : Int) ∧ j ≤ j0 ∧ Hid (Prt (leP p) lo hi p d i j dk) ∧ Hid (Rw w0 b c0 n dk wr)) (fun v _ => (intOf v + 1).toNat)
            case atStart => exact ⟨j0, by go_num, Nat.le_refl _, HP, HD2⟩
            case round =>
              obtain ⟨j, rfl, hx, HP, HD⟩ := hrel
              have bi := HP.out.li
              have bj := HP.out.ij
              have bh := HP.out.jh
              have fp : wr.cell? ⟨b, lo, none⟩ = some (.int .u64 (p : Int)) := by rw [← HP.out.piv]; exact HD.out.cell lo (by omega)
              have bl : (0 : Int) ≤ (lo : Int) ∧ (lo : Int) < (n : Int) := by omega
              have b0 : (0 : Int) ≤ (j : Int) := by omega
              by_cases hgo : i ≤ j ∧ (leP p) dk[j]! = false
              · obtain ⟨hij, hf⟩ := hgo
                have hl : decide (i ≤ j) = true := by rw [decide_eq_true_iff]; exact hij
                obtain ⟨y0, hy0⟩ : ∃ y, y = dk[j]! := ⟨_, rfl⟩
                have f0 : wr.cell? ⟨b, j, none⟩ = some (.int .u64 (y0 : Int)) := by rw [hy0]; exact HD.out.cell j (by omega)
                have b1 : (j : Int) < (n : Int) := by omega
                have hlt : p < y0 := by rw [← hy0] at hf; simpa [ltP, leP] using hf
                have HF := Lib.hid hf
                clear hf hy0
                go_wp2
                go_quiet (first | (go_at_call 192; refine Calls.quiet_of_same ((less_any _ _ _).mono (fun e w' h => ⟨h.1, h.2.symm⟩))))
                have HD2 := Lib.hid (HD.out.drewN nq)
                generalize wr.drewN nq = v1 at *
                go_wp2
                go_roundw
                case rel => exact ⟨j - 1, by go_num, by omega, Lib.hid (HP.out.down hij HF.out), HD2⟩
                case measure => simp [intOf] <;> omega
              · have HSTj := Lib.hid (show i ≤ j → (leP p) dk[j]! = true from fun h => by
                  cases e : (leP p) dk[j]! with
                  | false => exact absurd ⟨h, e⟩ hgo
                  | true => rfl)
                clear hgo
                have hcase : (decide (i ≤ j) = false) ∨ (decide (i ≤ j) = true ∧ (j : Int) < (n : Int) ∧ ∃ y0 : Nat, wr.cell? ⟨b, j, none⟩ = some (.int .u64 (y0 : Int)) ∧ (¬ p < y0)) := by
                  by_cases h : i ≤ j
                  · have hf := HSTj.out h
                    exact .inr ⟨by rw [decide_eq_true_iff]; exact h, by omega, _, HD.out.cell j (by omega), by simpa [ltP, leP] using hf⟩
                  · exact .inl (by rw [decide_eq_false_iff_not]; exact h)
                rcases hcase with hl | ⟨hl, b1, y0, f0, hlt⟩
                all_goals
                  go_wp2
                  go_quiet (first | (go_at_call 192; refine Calls.quiet_of_same ((less_any _ _ _).mono (fun e w' h => ⟨h.1, h.2.symm⟩))))
                  have HD2 := Lib.hid (HD.out.drewN nq)
                  generalize wr.drewN nq = v1 at *
                  clear HD fp
                  by_cases hji : j < i
                  · have hgt : decide (j < i) = true := by rw [decide_eq_true_iff]; exact hji
                    go_wp2
                    go_ret
                    refine ⟨i, dk, rfl, ?_, HD2.out⟩
                    have hq := HP.out
                    rw [HPP.out] at hq
                    rw [show i - 1 = j by omega]
                    exact hq
                  · have hgt : decide (j < i) = false := by rw [decide_eq_false_iff_not]; exact hji
                    have HSWP := Lib.hid (HP.out.swap (by omega) (HSTi.out (by omega)) (HSTj.out (by omega)))
                    have hlt2 := HSWP.out.1
                    have ne1 : ¬ i = j := by omega
                    have ne2 : ¬ j = i := by omega
                    obtain ⟨ya, hya⟩ : ∃ y, y = dk[i]! := ⟨_, rfl⟩
                    obtain ⟨yb, hyb⟩ : ∃ y, y = dk[j]! := ⟨_, rfl⟩
                    have fa : v1.cell? ⟨b, i, none⟩ = some (.int .u64 (ya : Int)) := by rw [hya]; exact HD2.out.cell i (by omega)
                    have fb : v1.cell? ⟨b, j, none⟩ = some (.int .u64 (yb : Int)) := by rw [hyb]; exact HD2.out.cell j (by omega)
                    have ga := HD2.out.free i
                    have gb := HD2.out.free j
                    have ba : (0 : Int) ≤ (i : Int) ∧ (i : Int) < (n : Int) := by omega
                    have bb' : (0 : Int) ≤ (j : Int) ∧ (j : Int) < (n : Int) := by omega
                    have HSW := Lib.hid (show Rw w0 b c0 n (swp dk i j) ((v1.drew.setCell ⟨b, i, none⟩ (.int .u64 (yb : Int))).setCell ⟨b, j, none⟩ (.int .u64 (ya : Int))) by
                      have h := HD2.out.drew.swap i j (by omega) (by omega)
                      rw [← hya, ← hyb] at h
                      exact h)
                    have HYY := Lib.hid (And.intro hya hyb)
                    clear hya hyb
                    clear HYY
                    go_wp2
                    go_region
                    go_wp2
                    go_roundw
                    case rel => exact ⟨i + 1, j - 1, _, by go_num, by go_num, Lib.hid HSWP.out.2, HSW⟩
                    case measure => simp [intOf] <;> omega
end Go.Proofs.YtmnklonoelpidaaGreatDoor
