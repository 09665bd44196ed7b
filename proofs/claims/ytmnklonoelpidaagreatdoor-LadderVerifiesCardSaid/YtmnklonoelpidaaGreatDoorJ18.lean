/- The sort of numbers. -/
import Derived.Test.YtmnklonoelpidaaGreatDoorJ17
import Derived.Test.YtmnklonoelpidaaGreatDoorJ16
import Derived.Deep.Cut
import Derived.Deep.CutRange
namespace Go.Proofs.YtmnklonoelpidaaGreatDoor
open Go.RowKit Go.Sort

theorem heapr_any (w0 : World) (b n cap : Nat) (c0 : Array Value) (hn : n ≤ 100000) (lo hi : Nat) (d : Array Nat) (w : World) (hR : Rw w0 b c0 n d w) (hlo : lo < hi) (hh : hi ≤ n) :
    Calls Tryz.prog 187 #[.slice (some ⟨b, 0, none⟩) n cap, .int .i64 (lo : Int), .int .i64 (hi : Int)] w fun e w' => ∃ e' : Array Nat, e = .returned (.tuple #[]) ∧ PermIn lo hi d e' ∧ Srt lo hi e' ∧ Rw w0 b c0 n e' w' := by
  refine (heap_any w0 b n cap c0 hn lo hi d w hR hlo hh).mono ?_
  rintro e w' ⟨rfl, h⟩
  have hs := heapSort_holds (lt := ltN) swoN d lo hi (by omega) (by have := hR.size; omega)
  exact ⟨_, rfl, hs.1, fun p q h1 h2 h3 => by have := hs.2 p q h1 h2 h3; simp [ltN] at this; omega, h⟩
set_option maxRecDepth 100000 in
set_option maxHeartbeats 8000000 in
theorem pdq_any (w0 : World) (b n cap : Nat) (c0 : Array Value) (hn : n ≤ 100000) : ∀ (M : Nat) (d : Array Nat) (lo hi lim : Nat) (w : World), hi - lo ≤ M → lo ≤ hi → hi ≤ n → lim ≤ 100 → Low lo hi d → Rw w0 b c0 n d w →
    Calls Tryz.prog 185 #[.slice (some ⟨b, 0, none⟩) n cap, .int .i64 (lo : Int), .int .i64 (hi : Int), .int .i64 (lim : Int)] w fun e w' => ∃ e' : Array Nat, e = .returned (.tuple #[]) ∧ PermIn lo hi d e' ∧ Srt lo hi e' ∧ Rw w0 b c0 n e' w' := by
  intro M
  induction M using Nat.strongRecOn with
  | ind M IH =>
  intro d lo hi lim w hM hlo hh hlim hLow hR
  have HIH := Lib.hid IH
  have HPd := Lib.hid (Pd.start hlo (by have := hR.size; omega) hLow)
  have HR := Lib.hid hR
  clear IH hLow hR
  go_enter Tryz.func185, Tryz.ntmps185
  go_wp2
  go_loopw [1, 2, 3, 8, 9] (fun va vb vl vwb vwp wr => ∃ (a c l : Nat) (wb wp : Bool) (dk : Array Nat), va = .int .i64 (a : Int) ∧ vb = .int .i64 (c : Int) ∧ vl = .int .i64 (l : Int) ∧ vwb = .bool wb ∧ vwp = .bool wp ∧ l ≤ 100 ∧ Hid (Pd lo hi d a c dk) ∧ Hid (Rw w0 b c0 n dk wr)) (fun va vb _ _ _ _ => (intOf vb - intOf va).toNat)
  case atStart => exact ⟨lo, hi, lim, true, true, d, rfl, rfl, rfl, rfl, rfl, hlim, HPd, HR⟩
  case round =>
    obtain ⟨a, c, l, wb, wp, dk, rfl, rfl, rfl, rfl, rfl, hl, HP, HD⟩ := hrel
    have q1 := HP.out.la
    have q2 := HP.out.ab
    have q3 := HP.out.bh
    obtain ⟨m, hm⟩ : ∃ m, m = c - a := ⟨_, rfl⟩
    have e1 : (c : Int) - (a : Int) = (m : Int) := by omega
    have ha49 : (a : Int) ≤ 100000 := by omega
    have hc49 : (c : Int) ≤ 100000 := by omega
    have ham : a + m = c := by omega
    clear hm
    by_cases h12 : m ≤ 12
    · have t12 : (m : Int) ≤ 12 := by omega
      have HC := Lib.hid (insr_any w0 b n cap c0 (by omega) dk a c q2 (by omega) wr HD.out)
      go_wp2_with (go_at_call 186; refine HC.out.mono ?_; rintro e w2 ⟨e2, rfl, hp, hs, hr⟩)
      have hd := HP.out.done hp hs
      exact bodyPost_ret (results_none rfl _ _ _) rfl ⟨e2, rfl, hd.1, hd.2, hr⟩
    · have t12 : ¬ (m : Int) ≤ 12 := by omega
      by_cases hl0 : l = 0
      · have tl : ((l : Int) == 0) = true := by rw [hl0]; rfl
        have HC := Lib.hid (heapr_any w0 b n cap c0 (by omega) a c dk wr HD.out (by omega) (by omega))
        clear hl0
        go_wp2_with (go_at_call 187; refine HC.out.mono ?_; rintro e w2 ⟨e2, rfl, hp, hs, hr⟩)
        have hd := HP.out.done hp hs
        exact bodyPost_ret (results_none rfl _ _ _) rfl ⟨e2, rfl, hd.1, hd.2, hr⟩
      · have tl : ((l : Int) == 0) = false := by rw [beq_eq_false_iff_ne]; omega
        go_upto_if 35 with (fail)
        go_cut [3] from 19 to 133 (fun s3 wx => ∃ (l2 : Nat) (d1 : Array Nat), s3 = .int .i64 (l2 : Int) ∧ l2 ≤ 100 ∧ Hid (Pd lo hi d a c d1) ∧ Hid (Rw w0 b c0 n d1 wx))
        case first =>
          cases wb with
          | true =>
            go_wp2
            go_meet
            case rel => exact ⟨l, dk, rfl, hl, HP, HD⟩
          | false =>
            obtain ⟨l1, rfl⟩ : ∃ l1, l = l1 + 1 := ⟨l - 1, by omega⟩
            have el : (((l1 + 1 : Nat) : Int)) - 1 = (l1 : Int) := by omega
            have HC := Lib.hid (break_any w0 b n cap c0 (by omega) dk a c (by omega) (by omega) wr HD.out)
            go_wp2_with (go_at_call 188; refine HC.out.mono ?_; rintro e w2 ⟨e2, rfl, hp, hr⟩; have HP2 := Lib.hid (HP.out.step hp); have HR2 := Lib.hid hr; clear hp hr)
            go_meet
            case rel => exact ⟨l1, e2, by go_num, by omega, HP2, HR2⟩
        obtain ⟨l2, d1, rfl, hl2, HP1, HD1⟩ := hcut
        clear HP HD hl0 tl hl
        have HCp := Lib.hid (pivot_any w0 b n cap c0 (by omega) d1 a c (by omega) (by omega) wc HD1.out)
        go_wp2_with fail
        refine HCp.out.mono ?_
        rintro e w2 ⟨pv, hnt, rfl, p1, p2, hh01, hr2⟩
        have HR2 := Lib.hid hr2
        -- the pivot is chosen
        clear hr2 HCp
        go_upto_if 50 with (fail)
        go_cut [11, 12] from 19 to 133 (fun s11 s12 wx => ∃ (pv2 : Nat) (h2 : Int) (d2 : Array Nat), s11 = .int .i64 (pv2 : Int) ∧ s12 = .int .i64 h2 ∧ (h2 = 0 ∨ h2 = 1) ∧ a ≤ pv2 ∧ pv2 < c ∧ Hid (Pd lo hi d a c d2) ∧ Hid (Rw w0 b c0 n d2 wx))
        case first =>
          rcases hh01 with rfl | rfl | rfl
          · go_wp2
            go_meet
            case rel => exact ⟨pv, 0, d1, rfl, rfl, .inl rfl, p1, p2, HP1, HR2⟩
          · go_wp2
            go_meet
            case rel => exact ⟨pv, 1, d1, rfl, rfl, .inr rfl, p1, p2, HP1, HR2⟩
          · have HCr := Lib.hid (turnr_any w0 b n cap c0 (by omega) d1 a c (by omega) (by omega) w2 HR2.out)
            obtain ⟨c1, hc1⟩ : ∃ x, x = c - 1 := ⟨_, rfl⟩
            obtain ⟨pa, hpa⟩ : ∃ x, x = pv - a := ⟨_, rfl⟩
            obtain ⟨pw, hpw⟩ : ∃ x, x = c1 - pa := ⟨_, rfl⟩
            have r1 : (c : Int) - 1 = (c1 : Int) := by omega
            have r2 : (pv : Int) - (a : Int) = (pa : Int) := by omega
            have r3 : (c1 : Int) - (pa : Int) = (pw : Int) := by omega
            have r4 : a ≤ pw ∧ pw < c := by omega
            clear hc1 hpa hpw
            go_wp2_with (go_at_call 190; refine HCr.out.mono ?_; rintro e w3 ⟨e3, rfl, hp, hr⟩; have HPr := Lib.hid (HP1.out.step hp); have HRr := Lib.hid hr; clear hp hr)
            go_meet
            case rel => exact ⟨pw, 1, e3, rfl, rfl, .inr rfl, r4.1, r4.2, HPr, HRr⟩
        obtain ⟨pv2, h2, d2, rfl, rfl, hh, g1, g2, HP2, HD2⟩ := hcut
        clear HP1 HD1 HR2 hh01 p1 p2
        clear pv
        obtain ⟨pv, hpv⟩ : ∃ x, x = pv2 := ⟨_, rfl⟩
        subst hpv
        have p1 := g1
        have p2 := g2
        clear g1 g2
        go_upto_region 15 with (fail)
        go_cut [68] from 19 to 133 (fun s68 wx => ∃ bb : Bool, s68 = .bool bb ∧ Hid (Rw w0 b c0 n d2 wx))
        case first =>
          rcases hh with rfl | rfl <;> cases wb <;> cases wp
          all_goals
            go_wp2
            go_meet
            case rel => first | exact ⟨true, rfl, HD2⟩ | exact ⟨false, rfl, HD2⟩
        obtain ⟨bb, rfl, HD2'⟩ := hcut
        clear HD2
        have HD2 := HD2'
        clear HD2' hh
        go_upto_if 68 with (fail)
        go_cut [] from 19 to 133 (fun wx => ∃ d3 : Array Nat, Hid (Pd lo hi d a c d3) ∧ Hid (Rw w0 b c0 n d3 wx))
        case first =>
          cases bb with
          | false =>
            go_wp2
            go_meet
            case rel => exact ⟨d2, HP2, HD2⟩
          | true =>
            have HC := Lib.hid (partial_any w0 b n cap c0 (by omega) d2 a c (by omega) (by omega) HP2.out.low _ HD2.out)
            go_wp2_with (go_at_call 191; refine HC.out.mono ?_; rintro e w3 ⟨r0, d3, rfl, hsr, hpp, hr3⟩; cases r0)
            · have HR3 := Lib.hid hr3
              have HPp := Lib.hid (HP2.out.step hpp)
              clear hsr hr3 hpp
              go_meet
              case rel => exact ⟨d3, HPp, HR3⟩
            · have hd := HP2.out.done hpp (by first | exact hsr rfl | exact hsr trivial)
              exact bodyPost_ret (results_none rfl _ _ _) rfl ⟨d3, rfl, hd.1, hd.2, hr3⟩
        obtain ⟨d3, HP3, HD3⟩ := hcut
        clear HP2 HD2
        obtain ⟨q8, hq8⟩ : ∃ q, q = m / 8 := ⟨_, rfl⟩
        have e8 : (m : Int) / 8 = (q8 : Int) := by omega
        clear hq8
        have HCe := Lib.hid (fun w h => parteq_any w0 b n cap c0 (by omega) d3 a c pv p1 p2 (by omega) w h)
        have HCt := Lib.hid (fun w h => part_any w0 b n cap c0 (by omega) d3 a c pv p1 p2 (by omega) w h)
        have bp0 : (0 : Int) ≤ (pv : Int) := by omega
        have bp1 : (pv : Int) < (n : Int) := by omega
        go_upto_region 17 with (fail)
        by_cases heq : 0 < a ∧ ¬ d3[a - 1]! < d3[pv]!
        · obtain ⟨ha0, hnl⟩ := heq
          have ga : decide (0 < a) = true := by rw [decide_eq_true_iff]; exact ha0
          have ga2 : (0 : Int) < (a : Int) := by omega
          obtain ⟨x, hx⟩ : ∃ x, x = a - 1 := ⟨_, rfl⟩
          have ex : IntKind.i64.wrap ((a : Int) - 1) = (x : Int) := by rw [IntWalk.i64_in _ (by omega)]; omega
          rw [← hx] at hnl
          obtain ⟨y1, hy1⟩ : ∃ y, y = d3[x]! := ⟨_, rfl⟩
          obtain ⟨yp, hyp⟩ : ∃ y, y = d3[pv]! := ⟨_, rfl⟩
          have f1 : wc.cell? ⟨b, x, none⟩ = some (.int .u64 (y1 : Int)) := by rw [hy1]; exact HD3.out.cell x (by omega)
          have fp : wc.cell? ⟨b, pv, none⟩ = some (.int .u64 (yp : Int)) := by rw [hyp]; exact HD3.out.cell pv (by omega)
          have bx : (0 : Int) ≤ (x : Int) ∧ (x : Int) < (n : Int) := by omega
          have hlt : ¬ y1 < yp := by rw [hy1, hyp]; exact hnl
          have HNL := Lib.hid (show d3[pv]! ≤ d3[a - 1]! by rw [← hx]; omega)
          clear hy1 hyp hnl hx
          go_quiet (first | (go_at_call 192; refine Calls.quiet_of_same ((less_any _ _ _).mono (fun e w' h => ⟨h.1, h.2.symm⟩))))
          have HRq := Lib.hid (HD3.out.drewN nq)
          generalize wc.drewN nq = v1 at *
          go_wp2_with (go_at_call 193; refine (HCe.out _ HRq.out).mono ?_; rintro e w4 ⟨mm, e', rfl, hP, hr4⟩; have HPe := Lib.hid (HP3.out.eq ha0 HNL.out hP); have HR4 := Lib.hid hr4; clear hP hr4)
          have t1 := HPe.out.1
          have t2 := HPe.out.2.1
          go_roundw
          case rel => first | exact ⟨mm, c, l2, _, _, e', rfl, rfl, rfl, rfl, rfl, hl2, Lib.hid HPe.out.2.2, HR4⟩ | ((repeat apply Exists.intro); exact ⟨⟨mm, c, l2, _, _, e', rfl, rfl, rfl, rfl, rfl, hl2, Lib.hid HPe.out.2.2, HR4⟩, rfl⟩)
          case measure => simp [intOf] <;> omega
        · have hcase : (decide (0 < a) = false) ∨ (decide (0 < a) = true ∧ ∃ x y1 yp : Nat, IntKind.i64.wrap ((a : Int) - 1) = (x : Int) ∧ ((0 : Int) ≤ (x : Int) ∧ (x : Int) < (n : Int)) ∧ wc.cell? ⟨b, x, none⟩ = some (.int .u64 (y1 : Int)) ∧ wc.cell? ⟨b, pv, none⟩ = some (.int .u64 (yp : Int)) ∧ y1 < yp) := by
            by_cases ha0 : 0 < a
            · refine .inr ⟨by rw [decide_eq_true_iff]; exact ha0, a - 1, _, _, by rw [IntWalk.i64_in _ (by omega)]; omega, by omega, HD3.out.cell (a - 1) (by omega), HD3.out.cell pv (by omega), ?_⟩
              rcases Nat.lt_or_ge d3[a - 1]! d3[pv]! with g | g
              · exact g
              · exact absurd ⟨ha0, by omega⟩ heq
            · exact .inl (by rw [decide_eq_false_iff_not]; exact ha0)
          clear heq
          rcases hcase with hz | ⟨hz, x, y1, yp, ex, bx, f1, fp, hlt⟩
          all_goals
            go_quiet (first | (go_at_call 192; refine Calls.quiet_of_same ((less_any _ _ _).mono (fun e w' h => ⟨h.1, h.2.symm⟩))))
            have HRq := Lib.hid (HD3.out.drewN nq)
            generalize wc.drewN nq = v1 at *
            go_wp2_with fail
            refine (HCt.out _ HRq.out).mono ?_
            rintro e w4 ⟨mm, r, e', rfl, hT⟩
            have hm1 := hT.mlo
            have hm2 := hT.mhi
            have HT := Lib.hid hT
            clear hT
            obtain ⟨ll, hll⟩ : ∃ l, l = mm - a := ⟨_, rfl⟩
            obtain ⟨rl, hrl⟩ : ∃ l, l = c - mm := ⟨_, rfl⟩
            have ell : (mm : Int) - (a : Int) = (ll : Int) := by omega
            have erl : (c : Int) - (mm : Int) = (rl : Int) := by omega
            clear hll hrl
            by_cases hlr : ll < rl
            · have hlt2 : decide (ll < rl) = true := by rw [decide_eq_true_iff]; exact hlr
              have hci := HIH.out (mm - a) (by omega) e' a mm l2 w4 (Nat.le_refl _) hm1 (by omega) hl2 (low_left HP3.out.low hm2 (by have := HP3.out.hs; omega) HT.out.perm) HT.out.row
              have HCI := Lib.hid hci
              clear hci
              go_wp2_with (go_at_call 185; refine HCI.out.mono ?_; rintro e w5 ⟨e2, rfl, hp5, hs5, hr5⟩; have HPn := Lib.hid (HP3.out.left hm1 hm2 HT.out.perm HT.out.left HT.out.right hp5 hs5); have HR5 := Lib.hid hr5; clear hp5 hs5 hr5)
              go_roundw
              case rel => first | exact ⟨mm + 1, c, l2, _, r, e2, by go_num, rfl, rfl, rfl, rfl, hl2, HPn, HR5⟩ | ((repeat apply Exists.intro); exact ⟨⟨mm + 1, c, l2, _, r, e2, by go_num, rfl, rfl, rfl, rfl, hl2, HPn, HR5⟩, rfl⟩)
              case measure => simp [intOf] <;> omega
            · have hlt2 : decide (ll < rl) = false := by rw [decide_eq_false_iff_not]; exact hlr
              obtain ⟨m1, hm1e⟩ : ∃ x, x = mm + 1 := ⟨_, rfl⟩
              have e9 : (mm : Int) + 1 = (m1 : Int) := by omega
              have hci := HIH.out (c - (mm + 1)) (by omega) e' (mm + 1) c l2 w4 (Nat.le_refl _) (by omega) (by omega) hl2 (low_right HT.out.right) HT.out.row
              rw [← hm1e] at hci
              have HM1 := Lib.hid hm1e
              clear hm1e
              have HCI := Lib.hid hci
              clear hci
              go_wp2_with (go_at_call 185; refine HCI.out.mono ?_; rintro e w5 ⟨e2, rfl, hp5, hs5, hr5⟩; rw [HM1.out] at hp5 hs5; have HPn := Lib.hid (HP3.out.right hm1 hm2 HT.out.perm HT.out.left HT.out.right hp5 hs5); have HR5 := Lib.hid hr5; clear hp5 hs5 hr5)
              go_roundw
              case rel => first | exact ⟨a, mm, l2, _, r, e2, rfl, rfl, rfl, rfl, rfl, hl2, HPn, HR5⟩ | ((repeat apply Exists.intro); exact ⟨⟨a, mm, l2, _, r, e2, rfl, rfl, rfl, rfl, rfl, hl2, HPn, HR5⟩, rfl⟩)
              case measure => simp [intOf] <;> omega
end Go.Proofs.YtmnklonoelpidaaGreatDoor
