/- Parting a row by a pivot: the walk of partitionOrdered (tools/genpart.py). -/
import Derived.Test.YtmnklonoelpidaaGreatDoorJ12
import Derived.Deep.Cut
import Derived.Deep.CutRange
import Derived.Deep.CutBlock
namespace Go.Proofs.YtmnklonoelpidaaGreatDoor
open Go.RowKit Go.Sort

/-- what parting answers -/
structure PtR (w0 : World) (b n lo hi : Nat) (c0 : Array Value) (d : Array Nat) (w' : World) (m : Nat) (e' : Array Nat) : Prop where
  mlo : lo ≤ m
  mhi : m < hi
  perm : PermIn lo hi d e'
  left : ∀ t, lo ≤ t → t < m → e'[t]! < e'[m]!
  right : ∀ t, m < t → t < hi → e'[m]! ≤ e'[t]!
  row : Rw w0 b c0 n e' w'
theorem PtR.of {w0 w' : World} {b n lo hi i j p : Nat} {c0 : Array Value} {d dk : Array Nat} (h : Prt (ltP p) lo hi p d i j dk) (hij : j < i) (hr : Rw w0 b c0 n (swp dk j lo) w') : PtR w0 b n lo hi c0 d w' j (swp dk j lo) := by
  obtain ⟨h1, h2, h3, h4, h5⟩ := h.last hij
  exact ⟨h1, h.jh, h2, fun t a b => by have := h4 t a b; rw [h3]; simpa [ltP] using this, fun t a b => by have := h5 t a b; rw [h3]; simpa [ltP] using this, hr⟩
set_option maxRecDepth 100000 in
set_option maxHeartbeats 40000000 in
theorem part_any (w0 : World) (b n cap : Nat) (c0 : Array Value) (hn : n ≤ 100000) (d : Array Nat) (lo hi pv : Nat) (h1 : lo ≤ pv) (h2 : pv < hi) (hh : hi ≤ n) (w : World) (hR : Rw w0 b c0 n d w) :
    Calls Tryz.prog 194 #[.slice (some ⟨b, 0, none⟩) n cap, .int .i64 (lo : Int), .int .i64 (hi : Int), .int .i64 (pv : Int)] w fun e w' => ∃ (m : Nat) (r : Bool) (e' : Array Nat), e = .returned (.tuple #[.int .i64 (m : Int), .bool r]) ∧ PtR w0 b n lo hi c0 d w' m e' := by
  have hsz := hR.size
  have n1 : (n : Int) ≤ 100000 := by omega
  obtain ⟨p, hp⟩ : ∃ p, p = d[pv]! := ⟨_, rfl⟩
  have HP0 := Lib.hid (show Prt (ltP p) lo hi p d (lo + 1) (hi - 1) (swp d lo pv) by rw [hp]; exact Prt.start h1 h2 (by omega))
  have HR := Lib.hid hR
  clear hR
  have HPP := Lib.hid hp
  clear hp
  obtain ⟨J0, hJ0⟩ : ∃ J0, J0 = hi - 1 := ⟨_, rfl⟩
  rw [← hJ0] at HP0
  have eJ : (hi : Int) - 1 = (J0 : Int) := by omega
  have bJ : J0 < hi := by omega
  clear hJ0
  go_enter Tryz.func194, Tryz.ntmps194
  go_upto_region 1 with (fail)
  go_cut [] from 12 (fun wx => Hid (Rw w0 b c0 n (swp d lo pv) wx))
  case first =>
    obtain ⟨ya, hya⟩ : ∃ y, y = d[lo]! := ⟨_, rfl⟩
    obtain ⟨yb, hyb⟩ : ∃ y, y = d[pv]! := ⟨_, rfl⟩
    have fa : w.cell? ⟨b, lo, none⟩ = some (.int .u64 (ya : Int)) := by rw [hya]; exact HR.out.cell lo (by omega)
    have fb : w.cell? ⟨b, pv, none⟩ = some (.int .u64 (yb : Int)) := by rw [hyb]; exact HR.out.cell pv (by omega)
    have ga := HR.out.free lo
    have gb := HR.out.free pv
    have ba : (0 : Int) ≤ (lo : Int) ∧ (lo : Int) < (n : Int) := by omega
    have bb' : (0 : Int) ≤ (pv : Int) ∧ (pv : Int) < (n : Int) := by omega
    have HSW := Lib.hid (show Rw w0 b c0 n (swp d lo pv) ((w.drew.setCell ⟨b, lo, none⟩ (.int .u64 (yb : Int))).setCell ⟨b, pv, none⟩ (.int .u64 (ya : Int))) by
      have h := HR.out.drew.swap lo pv (by omega) (by omega)
      rw [← hya, ← hyb] at h
      exact h)
    have HYY := Lib.hid (And.intro hya hyb)
    clear hya hyb
    by_cases hsame : lo = pv
    · have hyy : ya = yb := by rw [HYY.out.1, HYY.out.2, hsame]
      have HSM := Lib.hid hsame
      clear hsame HYY
      subst hyy
      have fa2 : (w.drew.setCell ⟨b, lo, none⟩ (.int .u64 (ya : Int))).cell? ⟨b, pv, none⟩ = some (.int .u64 (ya : Int)) := by rw [HSM.out]; exact setCell_get fb
      have fa3 : (w.setCell ⟨b, lo, none⟩ (.int .u64 (ya : Int))).cell? ⟨b, pv, none⟩ = some (.int .u64 (ya : Int)) := by rw [HSM.out]; exact setCell_get fb
      have fb2 : (w.drew.setCell ⟨b, pv, none⟩ (.int .u64 (ya : Int))).cell? ⟨b, lo, none⟩ = some (.int .u64 (ya : Int)) := by rw [← HSM.out]; exact setCell_get fa
      go_wp2
      go_region
      go_wp2_with fail
      go_meet
      case rel => exact HSW
    · have ne1 : ¬ pv = lo := fun h => hsame h.symm
      have ne2 : ¬ lo = pv := hsame
      clear HYY hsame
      go_wp2
      go_region
      go_wp2_with fail
      go_meet
      case rel => exact HSW
  generalize swp d lo pv = D1 at *
  clear HR
  have HD0 := hcut
  clear hcut
  go_upto_block 0 with (fail)
  generalize wc = wb at *
  go_cut [10] from 30 (fun s10 wx => ∃ i : Nat, s10 = .int .i64 (i : Int) ∧ lo + 1 ≤ i ∧ Hid (Prt (ltP p) lo hi p d i J0 D1) ∧ Hid (i ≤ J0 → (ltP p) D1[i]! = false) ∧ Hid (Rw w0 b c0 n D1 wx))
  case first =>
    go_wp2
    go_loopw [10] (fun v wr => ∃ i : Nat, v = .int .i64 (i : Int) ∧ lo + 1 ≤ i ∧ Hid (Prt (ltP p) lo hi p d i J0 D1) ∧ Hid (Rw w0 b c0 n D1 wr)) (fun v _ => hi + 1 - (intOf v).toNat)
    case atStart => exact ⟨lo + 1, by go_num, Nat.le_refl _, HP0, HD0⟩
    case round =>
      obtain ⟨i, rfl, hx, HP, HD⟩ := hrel
      have bi := HP.out.li
      have bj := HP.out.ij
      have bh := HP.out.jh
      have fp : wr.cell? ⟨b, lo, none⟩ = some (.int .u64 (p : Int)) := by rw [← HP.out.piv]; exact HD.out.cell lo (by omega)
      have bl : (0 : Int) ≤ (lo : Int) ∧ (lo : Int) < (n : Int) := by omega
      have b0 : (0 : Int) ≤ (i : Int) := by omega
      by_cases hgo : i ≤ J0 ∧ (ltP p) D1[i]! = true
      · obtain ⟨hij, hf⟩ := hgo
        have hl : decide (i ≤ J0) = true := by rw [decide_eq_true_iff]; exact hij
        obtain ⟨y0, hy0⟩ : ∃ y, y = D1[i]! := ⟨_, rfl⟩
        have f0 : wr.cell? ⟨b, i, none⟩ = some (.int .u64 (y0 : Int)) := by rw [hy0]; exact HD.out.cell i (by omega)
        have b1 : (i : Int) < (n : Int) := by omega
        have hlt : y0 < p := by rw [← hy0] at hf; simpa [ltP] using hf
        have HF := Lib.hid hf
        clear hf hy0
        go_wp2
        go_quiet (first | (go_at_call 192; refine Calls.quiet_of_same ((less_any _ _ _).mono (fun e w' h => ⟨h.1, h.2.symm⟩))))
        have HD2 := Lib.hid (HD.out.drewN nq)
        generalize wr.drewN nq = v1 at *
        go_wp2
        go_roundw
        case rel => exact ⟨i + 1, by go_num, by omega, Lib.hid (HP.out.up hij HF.out), HD2⟩
        case measure => simp [intOf] <;> omega
      · have HST := Lib.hid (show i ≤ J0 → (ltP p) D1[i]! = false from fun h => by
          cases e : (ltP p) D1[i]! with
          | true => exact absurd ⟨h, e⟩ hgo
          | false => rfl)
        clear hgo
        have hcase : (decide (i ≤ J0) = false) ∨ (decide (i ≤ J0) = true ∧ (i : Int) < (n : Int) ∧ ∃ y0 : Nat, wr.cell? ⟨b, i, none⟩ = some (.int .u64 (y0 : Int)) ∧ (¬ y0 < p)) := by
          by_cases h : i ≤ J0
          · have hf := HST.out h
            exact .inr ⟨by rw [decide_eq_true_iff]; exact h, by omega, _, HD.out.cell i (by omega), by simpa [ltP] using hf⟩
          · exact .inl (by rw [decide_eq_false_iff_not]; exact h)
        rcases hcase with hl | ⟨hl, b1, y0, f0, hlt⟩
        all_goals
          go_wp2
          go_quiet (first | (go_at_call 192; refine Calls.quiet_of_same ((less_any _ _ _).mono (fun e w' h => ⟨h.1, h.2.symm⟩))))
          have HD2 := Lib.hid (HD.out.drewN nq)
          generalize wr.drewN nq = v1 at *
          clear HD fp
          go_wp2
          go_meet
          case rel => exact ⟨i, rfl, hx, HP, HST, HD2⟩
  obtain ⟨i, rfl, hxi, HPi, HSTi, HDi⟩ := hcut
  go_upto_block 2 with (fail)
  generalize wc = wb2 at *
  clear HD0 HP0
  go_cut [11] from 30 (fun s11 wx => ∃ j : Nat, s11 = .int .i64 (j : Int) ∧ j ≤ J0 ∧ Hid (Prt (ltP p) lo hi p d i j D1) ∧ Hid (i ≤ j → (ltP p) D1[j]! = true) ∧ Hid (Rw w0 b c0 n D1 wx))
  case first =>
    go_wp2
    go_loopw [11] (fun v wr => ∃ j : Nat, v = .int .i64 (j : Int) ∧ j ≤ J0 ∧ Hid (Prt (ltP p) lo hi p d i j D1) ∧ Hid (Rw w0 b c0 n D1 wr)) (fun v _ => (intOf v + 1).toNat)
    case atStart => exact ⟨J0, by go_num, Nat.le_refl _, HPi, HDi⟩
    case round =>
      obtain ⟨j, rfl, hx, HP, HD⟩ := hrel
      have bi := HP.out.li
      have bj := HP.out.ij
      have bh := HP.out.jh
      have fp : wr.cell? ⟨b, lo, none⟩ = some (.int .u64 (p : Int)) := by rw [← HP.out.piv]; exact HD.out.cell lo (by omega)
      have bl : (0 : Int) ≤ (lo : Int) ∧ (lo : Int) < (n : Int) := by omega
      have b0 : (0 : Int) ≤ (j : Int) := by omega
      by_cases hgo : i ≤ j ∧ (ltP p) D1[j]! = false
      · obtain ⟨hij, hf⟩ := hgo
        have hl : decide (i ≤ j) = true := by rw [decide_eq_true_iff]; exact hij
        obtain ⟨y0, hy0⟩ : ∃ y, y = D1[j]! := ⟨_, rfl⟩
        have f0 : wr.cell? ⟨b, j, none⟩ = some (.int .u64 (y0 : Int)) := by rw [hy0]; exact HD.out.cell j (by omega)
        have b1 : (j : Int) < (n : Int) := by omega
        have hlt : ¬ y0 < p := by rw [← hy0] at hf; simpa [ltP] using hf
        have HF := Lib.hid hf
        clear hf hy0
        go_wp2
        go_quiet (first | (go_at_call 192; refine Calls.quiet_of_same ((less_any _ _ _).mono (fun e w' h => ⟨h.1, h.2.symm⟩))))
        have HD2 := Lib.hid (HD.out.drewN nq)
        generalize wr.drewN nq = v1 at *
        go_wp2
        go_roundw
        case rel => exact ⟨j - 1, by go_num, by omega, Lib.hid (HP.out.down hij HF.out), HD2⟩
        case measure => simp [intOf] <;> omega
      · have HST := Lib.hid (show i ≤ j → (ltP p) D1[j]! = true from fun h => by
          cases e : (ltP p) D1[j]! with
          | false => exact absurd ⟨h, e⟩ hgo
          | true => rfl)
        clear hgo
        have hcase : (decide (i ≤ j) = false) ∨ (decide (i ≤ j) = true ∧ (j : Int) < (n : Int) ∧ ∃ y0 : Nat, wr.cell? ⟨b, j, none⟩ = some (.int .u64 (y0 : Int)) ∧ (y0 < p)) := by
          by_cases h : i ≤ j
          · have hf := HST.out h
            exact .inr ⟨by rw [decide_eq_true_iff]; exact h, by omega, _, HD.out.cell j (by omega), by simpa [ltP] using hf⟩
          · exact .inl (by rw [decide_eq_false_iff_not]; exact h)
        rcases hcase with hl | ⟨hl, b1, y0, f0, hlt⟩
        all_goals
          go_wp2
          go_quiet (first | (go_at_call 192; refine Calls.quiet_of_same ((less_any _ _ _).mono (fun e w' h => ⟨h.1, h.2.symm⟩))))
          have HD2 := Lib.hid (HD.out.drewN nq)
          generalize wr.drewN nq = v1 at *
          clear HD fp
          go_wp2
          go_meet
          case rel => exact ⟨j, rfl, hx, HP, HST, HD2⟩
  obtain ⟨j, rfl, hxj, HPj, HSTj, HDj⟩ := hcut
  have bi := HPj.out.li
  have bj := HPj.out.ij
  have bh := HPj.out.jh
  by_cases hji : j < i
  · have hgt : decide (j < i) = true := by rw [decide_eq_true_iff]; exact hji
    obtain ⟨ya, hya⟩ : ∃ y, y = D1[j]! := ⟨_, rfl⟩
    obtain ⟨yb, hyb⟩ : ∃ y, y = D1[lo]! := ⟨_, rfl⟩
    have fa : wc.cell? ⟨b, j, none⟩ = some (.int .u64 (ya : Int)) := by rw [hya]; exact HDj.out.cell j (by omega)
    have fb : wc.cell? ⟨b, lo, none⟩ = some (.int .u64 (yb : Int)) := by rw [hyb]; exact HDj.out.cell lo (by omega)
    have ga := HDj.out.free j
    have gb := HDj.out.free lo
    have ba : (0 : Int) ≤ (j : Int) ∧ (j : Int) < (n : Int) := by omega
    have bb' : (0 : Int) ≤ (lo : Int) ∧ (lo : Int) < (n : Int) := by omega
    have HSW := Lib.hid (show Rw w0 b c0 n (swp D1 j lo) ((wc.drew.setCell ⟨b, j, none⟩ (.int .u64 (yb : Int))).setCell ⟨b, lo, none⟩ (.int .u64 (ya : Int))) by
      have h := HDj.out.drew.swap j lo (by omega) (by omega)
      rw [← hya, ← hyb] at h
      exact h)
    have HYY := Lib.hid (And.intro hya hyb)
    clear hya hyb
    by_cases hsame : j = lo
    · have hyy : ya = yb := by rw [HYY.out.1, HYY.out.2, hsame]
      have HSM := Lib.hid hsame
      clear hsame HYY
      subst hyy
      have fa2 : (wc.drew.setCell ⟨b, j, none⟩ (.int .u64 (ya : Int))).cell? ⟨b, lo, none⟩ = some (.int .u64 (ya : Int)) := by rw [HSM.out]; exact setCell_get fb
      have fa3 : (wc.setCell ⟨b, j, none⟩ (.int .u64 (ya : Int))).cell? ⟨b, lo, none⟩ = some (.int .u64 (ya : Int)) := by rw [HSM.out]; exact setCell_get fb
      have fb2 : (wc.drew.setCell ⟨b, lo, none⟩ (.int .u64 (ya : Int))).cell? ⟨b, j, none⟩ = some (.int .u64 (ya : Int)) := by rw [← HSM.out]; exact setCell_get fa
      go_wp2
      go_region
      go_wp2
      go_ret2
      exact ⟨j, true, _, rfl, PtR.of HPj.out hji HSW.out⟩
    · have ne1 : ¬ lo = j := fun h => hsame h.symm
      have ne2 : ¬ j = lo := hsame
      clear HYY hsame
      go_wp2
      go_region
      go_wp2
      go_ret2
      exact ⟨j, true, _, rfl, PtR.of HPj.out hji HSW.out⟩
  · have hgt : decide (j < i) = false := by rw [decide_eq_false_iff_not]; exact hji
    have HSWP := Lib.hid (HPj.out.swap (by omega) (HSTi.out (by omega)) (HSTj.out (by omega)))
    have hlt2 := HSWP.out.1
    have ne1 : ¬ i = j := by omega
    have ne2 : ¬ j = i := by omega
    obtain ⟨ya, hya⟩ : ∃ y, y = D1[i]! := ⟨_, rfl⟩
    obtain ⟨yb, hyb⟩ : ∃ y, y = D1[j]! := ⟨_, rfl⟩
    have fa : wc.cell? ⟨b, i, none⟩ = some (.int .u64 (ya : Int)) := by rw [hya]; exact HDj.out.cell i (by omega)
    have fb : wc.cell? ⟨b, j, none⟩ = some (.int .u64 (yb : Int)) := by rw [hyb]; exact HDj.out.cell j (by omega)
    have ga := HDj.out.free i
    have gb := HDj.out.free j
    have ba : (0 : Int) ≤ (i : Int) ∧ (i : Int) < (n : Int) := by omega
    have bb' : (0 : Int) ≤ (j : Int) ∧ (j : Int) < (n : Int) := by omega
    have HSW := Lib.hid (show Rw w0 b c0 n (swp D1 i j) ((wc.drew.setCell ⟨b, i, none⟩ (.int .u64 (yb : Int))).setCell ⟨b, j, none⟩ (.int .u64 (ya : Int))) by
      have h := HDj.out.drew.swap i j (by omega) (by omega)
      rw [← hya, ← hyb] at h
      exact h)
    have HYY := Lib.hid (And.intro hya hyb)
    clear hya hyb
    clear HYY
    go_wp2
    go_region
    go_wp2
    go_loopw [10, 11] (fun vi vj wr => ∃ (i0 j0 : Nat) (dk : Array Nat), vi = .int .i64 (i0 : Int) ∧ vj = .int .i64 (j0 : Int) ∧ Hid (Prt (ltP p) lo hi p d i0 j0 dk) ∧ Hid (Rw w0 b c0 n dk wr)) (fun vi vj _ => (intOf vj + 1 - intOf vi).toNat)
    case atStart => exact ⟨i + 1, j - 1, _, by go_num, by go_num, Lib.hid HSWP.out.2, HSW⟩
    case round =>
      clear HPi HPj HSTi HSTj HDi HDj HSW HSWP hgt hji hlt2 ne1 ne2 fa fb ga gb ba bb' hxi hxj
      obtain ⟨i0, j0, dk, rfl, rfl, HP, HD⟩ := hrel
      have bi0 := HP.out.li
      have bj0 := HP.out.ij
      have bh0 := HP.out.jh
      go_upto_block 6 with (fail)
      generalize wr = wa at *
      go_cut [10] from 99 to 152 (fun s10 wx => ∃ i : Nat, s10 = .int .i64 (i : Int) ∧ i0 ≤ i ∧ Hid (Prt (ltP p) lo hi p d i j0 dk) ∧ Hid (i ≤ j0 → (ltP p) dk[i]! = false) ∧ Hid (Rw w0 b c0 n dk wx))
      case first =>
        go_wp2
        go_loopw [10] (fun v wr => ∃ i : Nat, v = .int .i64 (i : Int) ∧ i0 ≤ i ∧ Hid (Prt (ltP p) lo hi p d i j0 dk) ∧ Hid (Rw w0 b c0 n dk wr)) (fun v _ => hi + 1 - (intOf v).toNat)
        case atStart => exact ⟨i0, by go_num, Nat.le_refl _, HP, HD⟩
        case round =>
          obtain ⟨i, rfl, hx, HP, HD⟩ := hrel
          have bi := HP.out.li
          have bj := HP.out.ij
          have bh := HP.out.jh
          have fp : wr.cell? ⟨b, lo, none⟩ = some (.int .u64 (p : Int)) := by rw [← HP.out.piv]; exact HD.out.cell lo (by omega)
          have bl : (0 : Int) ≤ (lo : Int) ∧ (lo : Int) < (n : Int) := by omega
          have b0 : (0 : Int) ≤ (i : Int) := by omega
          by_cases hgo : i ≤ j0 ∧ (ltP p) dk[i]! = true
          · obtain ⟨hij, hf⟩ := hgo
            have hl : decide (i ≤ j0) = true := by rw [decide_eq_true_iff]; exact hij
            obtain ⟨y0, hy0⟩ : ∃ y, y = dk[i]! := ⟨_, rfl⟩
            have f0 : wr.cell? ⟨b, i, none⟩ = some (.int .u64 (y0 : Int)) := by rw [hy0]; exact HD.out.cell i (by omega)
            have b1 : (i : Int) < (n : Int) := by omega
            have hlt : y0 < p := by rw [← hy0] at hf; simpa [ltP] using hf
            have HF := Lib.hid hf
            clear hf hy0
            go_wp2
            go_quiet (first | (go_at_call 192; refine Calls.quiet_of_same ((less_any _ _ _).mono (fun e w' h => ⟨h.1, h.2.symm⟩))))
            have HD2 := Lib.hid (HD.out.drewN nq)
            generalize wr.drewN nq = v1 at *
            go_wp2
            go_roundw
            case rel => exact ⟨i + 1, by go_num, by omega, Lib.hid (HP.out.up hij HF.out), HD2⟩
            case measure => simp [intOf] <;> omega
          · have HST := Lib.hid (show i ≤ j0 → (ltP p) dk[i]! = false from fun h => by
              cases e : (ltP p) dk[i]! with
              | true => exact absurd ⟨h, e⟩ hgo
              | false => rfl)
            clear hgo
            have hcase : (decide (i ≤ j0) = false) ∨ (decide (i ≤ j0) = true ∧ (i : Int) < (n : Int) ∧ ∃ y0 : Nat, wr.cell? ⟨b, i, none⟩ = some (.int .u64 (y0 : Int)) ∧ (¬ y0 < p)) := by
              by_cases h : i ≤ j0
              · have hf := HST.out h
                exact .inr ⟨by rw [decide_eq_true_iff]; exact h, by omega, _, HD.out.cell i (by omega), by simpa [ltP] using hf⟩
              · exact .inl (by rw [decide_eq_false_iff_not]; exact h)
            rcases hcase with hl | ⟨hl, b1, y0, f0, hlt⟩
            all_goals
              go_wp2
              go_quiet (first | (go_at_call 192; refine Calls.quiet_of_same ((less_any _ _ _).mono (fun e w' h => ⟨h.1, h.2.symm⟩))))
              have HD2 := Lib.hid (HD.out.drewN nq)
              generalize wr.drewN nq = v1 at *
              clear HD fp
              go_wp2
              go_meet
              case rel => exact ⟨i, rfl, hx, HP, HST, HD2⟩
      obtain ⟨i, rfl, hxi, HPi, HSTi, HDi⟩ := hcut
      go_upto_block 8 with (fail)
      generalize wc = wa2 at *
      go_cut [11] from 99 to 152 (fun s11 wx => ∃ j : Nat, s11 = .int .i64 (j : Int) ∧ j ≤ j0 ∧ Hid (Prt (ltP p) lo hi p d i j dk) ∧ Hid (i ≤ j → (ltP p) dk[j]! = true) ∧ Hid (Rw w0 b c0 n dk wx))
      case first =>
        go_wp2
        go_loopw [11] (fun v wr => ∃ j : Nat, v = .int .i64 (j : Int) ∧ j ≤ j0 ∧ Hid (Prt (ltP p) lo hi p d i j dk) ∧ Hid (Rw w0 b c0 n dk wr)) (fun v _ => (intOf v + 1).toNat)
        case atStart => exact ⟨j0, by go_num, Nat.le_refl _, HPi, HDi⟩
        case round =>
          obtain ⟨j, rfl, hx, HP, HD⟩ := hrel
          have bi := HP.out.li
          have bj := HP.out.ij
          have bh := HP.out.jh
          have fp : wr.cell? ⟨b, lo, none⟩ = some (.int .u64 (p : Int)) := by rw [← HP.out.piv]; exact HD.out.cell lo (by omega)
          have bl : (0 : Int) ≤ (lo : Int) ∧ (lo : Int) < (n : Int) := by omega
          have b0 : (0 : Int) ≤ (j : Int) := by omega
          by_cases hgo : i ≤ j ∧ (ltP p) dk[j]! = false
          · obtain ⟨hij, hf⟩ := hgo
            have hl : decide (i ≤ j) = true := by rw [decide_eq_true_iff]; exact hij
            obtain ⟨y0, hy0⟩ : ∃ y, y = dk[j]! := ⟨_, rfl⟩
            have f0 : wr.cell? ⟨b, j, none⟩ = some (.int .u64 (y0 : Int)) := by rw [hy0]; exact HD.out.cell j (by omega)
            have b1 : (j : Int) < (n : Int) := by omega
            have hlt : ¬ y0 < p := by rw [← hy0] at hf; simpa [ltP] using hf
            have HF := Lib.hid hf
            clear hf hy0
            go_wp2
            go_quiet (first | (go_at_call 192; refine Calls.quiet_of_same ((less_any _ _ _).mono (fun e w' h => ⟨h.1, h.2.symm⟩))))
            have HD2 := Lib.hid (HD.out.drewN nq)
            generalize wr.drewN nq = v1 at *
            go_wp2
            go_roundw
            case rel => exact ⟨j - 1, by go_num, by omega, Lib.hid (HP.out.down hij HF.out), HD2⟩
            case measure => simp [intOf] <;> omega
          · have HST := Lib.hid (show i ≤ j → (ltP p) dk[j]! = true from fun h => by
              cases e : (ltP p) dk[j]! with
              | false => exact absurd ⟨h, e⟩ hgo
              | true => rfl)
            clear hgo
            have hcase : (decide (i ≤ j) = false) ∨ (decide (i ≤ j) = true ∧ (j : Int) < (n : Int) ∧ ∃ y0 : Nat, wr.cell? ⟨b, j, none⟩ = some (.int .u64 (y0 : Int)) ∧ (y0 < p)) := by
              by_cases h : i ≤ j
              · have hf := HST.out h
                exact .inr ⟨by rw [decide_eq_true_iff]; exact h, by omega, _, HD.out.cell j (by omega), by simpa [ltP] using hf⟩
              · exact .inl (by rw [decide_eq_false_iff_not]; exact h)
            rcases hcase with hl | ⟨hl, b1, y0, f0, hlt⟩
            all_goals
              go_wp2
              go_quiet (first | (go_at_call 192; refine Calls.quiet_of_same ((less_any _ _ _).mono (fun e w' h => ⟨h.1, h.2.symm⟩))))
              have HD2 := Lib.hid (HD.out.drewN nq)
              generalize wr.drewN nq = v1 at *
              clear HD fp
              go_wp2
              go_meet
              case rel => exact ⟨j, rfl, hx, HP, HST, HD2⟩
      obtain ⟨j, rfl, hxj, HPj, HSTj, HDj⟩ := hcut
      have bi := HPj.out.li
      have bj := HPj.out.ij
      have bh := HPj.out.jh
      by_cases hji : j < i
      · have hgt : decide (j < i) = true := by rw [decide_eq_true_iff]; exact hji
        obtain ⟨ya, hya⟩ : ∃ y, y = dk[j]! := ⟨_, rfl⟩
        obtain ⟨yb, hyb⟩ : ∃ y, y = dk[lo]! := ⟨_, rfl⟩
        have fa : wc.cell? ⟨b, j, none⟩ = some (.int .u64 (ya : Int)) := by rw [hya]; exact HDj.out.cell j (by omega)
        have fb : wc.cell? ⟨b, lo, none⟩ = some (.int .u64 (yb : Int)) := by rw [hyb]; exact HDj.out.cell lo (by omega)
        have ga := HDj.out.free j
        have gb := HDj.out.free lo
        have ba : (0 : Int) ≤ (j : Int) ∧ (j : Int) < (n : Int) := by omega
        have bb' : (0 : Int) ≤ (lo : Int) ∧ (lo : Int) < (n : Int) := by omega
        have HSW := Lib.hid (show Rw w0 b c0 n (swp dk j lo) ((wc.drew.setCell ⟨b, j, none⟩ (.int .u64 (yb : Int))).setCell ⟨b, lo, none⟩ (.int .u64 (ya : Int))) by
          have h := HDj.out.drew.swap j lo (by omega) (by omega)
          rw [← hya, ← hyb] at h
          exact h)
        have HYY := Lib.hid (And.intro hya hyb)
        clear hya hyb
        by_cases hsame : j = lo
        · have hyy : ya = yb := by rw [HYY.out.1, HYY.out.2, hsame]
          have HSM := Lib.hid hsame
          clear hsame HYY
          subst hyy
          have fa2 : (wc.drew.setCell ⟨b, j, none⟩ (.int .u64 (ya : Int))).cell? ⟨b, lo, none⟩ = some (.int .u64 (ya : Int)) := by rw [HSM.out]; exact setCell_get fb
          have fa3 : (wc.setCell ⟨b, j, none⟩ (.int .u64 (ya : Int))).cell? ⟨b, lo, none⟩ = some (.int .u64 (ya : Int)) := by rw [HSM.out]; exact setCell_get fb
          have fb2 : (wc.drew.setCell ⟨b, lo, none⟩ (.int .u64 (ya : Int))).cell? ⟨b, j, none⟩ = some (.int .u64 (ya : Int)) := by rw [← HSM.out]; exact setCell_get fa
          go_wp2
          go_region
          go_wp2
          go_ret2
          exact ⟨j, false, _, rfl, PtR.of HPj.out hji HSW.out⟩
        · have ne1 : ¬ lo = j := fun h => hsame h.symm
          have ne2 : ¬ j = lo := hsame
          clear HYY hsame
          go_wp2
          go_region
          go_wp2
          go_ret2
          exact ⟨j, false, _, rfl, PtR.of HPj.out hji HSW.out⟩
      · have hgt : decide (j < i) = false := by rw [decide_eq_false_iff_not]; exact hji
        have HSWP := Lib.hid (HPj.out.swap (by omega) (HSTi.out (by omega)) (HSTj.out (by omega)))
        have hlt2 := HSWP.out.1
        have ne1 : ¬ i = j := by omega
        have ne2 : ¬ j = i := by omega
        obtain ⟨ya, hya⟩ : ∃ y, y = dk[i]! := ⟨_, rfl⟩
        obtain ⟨yb, hyb⟩ : ∃ y, y = dk[j]! := ⟨_, rfl⟩
        have fa : wc.cell? ⟨b, i, none⟩ = some (.int .u64 (ya : Int)) := by rw [hya]; exact HDj.out.cell i (by omega)
        have fb : wc.cell? ⟨b, j, none⟩ = some (.int .u64 (yb : Int)) := by rw [hyb]; exact HDj.out.cell j (by omega)
        have ga := HDj.out.free i
        have gb := HDj.out.free j
        have ba : (0 : Int) ≤ (i : Int) ∧ (i : Int) < (n : Int) := by omega
        have bb' : (0 : Int) ≤ (j : Int) ∧ (j : Int) < (n : Int) := by omega
        have HSW := Lib.hid (show Rw w0 b c0 n (swp dk i j) ((wc.drew.setCell ⟨b, i, none⟩ (.int .u64 (yb : Int))).setCell ⟨b, j, none⟩ (.int .u64 (ya : Int))) by
          have h := HDj.out.drew.swap i j (by omega) (by omega)
          rw [← hya, ← hyb] at h
          exact h)
        have HYY := Lib.hid (And.intro hya hyb)
        clear hya hyb
        clear HYY
        go_wp2
        go_region
        go_wp2
        go_roundw
        case rel => first | exact ⟨i + 1, j - 1, _, by go_num, by go_num, Lib.hid HSWP.out.2, HSW⟩ | ((repeat apply Exists.intro); exact ⟨⟨i + 1, j - 1, _, by go_num, by go_num, Lib.hid HSWP.out.2, HSW⟩, rfl⟩)
        case measure => simp [intOf] <;> omega
end Go.Proofs.YtmnklonoelpidaaGreatDoor
