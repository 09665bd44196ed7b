/- A row that is almost in order: a few steps of insertion; a row turned. -/
import Derived.Test.YtmnklonoelpidaaGreatDoorJ15
import Derived.Deep.Cut
import Derived.Deep.CutRange
namespace Go.Proofs.YtmnklonoelpidaaGreatDoor
open Go.RowKit Go.Sort

theorem Srt.of_eq {lo i : Nat} {d e : Array Nat} (h : Srt lo i d) (he : ∀ t, lo ≤ t → t < i → e[t]! = d[t]!) : Srt lo i e := fun p q h1 h2 h3 => by rw [he p h1 (by omega), he q (by omega) h3]; exact h p q h1 h2 h3
theorem Srt.less {lo i k : Nat} {d : Array Nat} (h : Srt lo i d) (hk : k ≤ i) : Srt lo k d := fun p q h1 h2 h3 => h p q h1 h2 (by omega)
theorem swap_right {lo i j : Nat} {d : Array Nat} (h : Srt lo i d) (hj : i ≤ j) (_ : j + 1 < d.size) : Srt lo i (swp d (j + 1) j) := h.of_eq fun t _ ht => swp_other d (j + 1) j t (by omega) (by omega)
theorem low_at {lo hi : Nat} {d : Array Nat} (h : Low lo hi d) (h0 : 1 ≤ lo) (hl : lo < hi) : ¬ d[lo]! < d[lo - 1]! := by
  rcases h with h | h
  · omega
  · have := h lo (Nat.le_refl _) hl
    omega
/-- What comes of it: whether the part is in order now; the same numbers. -/
def Pans (w0 : World) (b n : Nat) (c0 : Array Value) (lo hi : Nat) (d : Array Nat) (e : Ending) (w' : World) : Prop := ∃ (r : Bool) (d' : Array Nat), e = .returned (.bool r) ∧ (r = true → Srt lo hi d') ∧ PermIn lo hi d d' ∧ Rw w0 b c0 n d' w'
set_option maxRecDepth 100000 in
set_option maxHeartbeats 4000000 in
theorem partial_any (w0 : World) (b n cap : Nat) (c0 : Array Value) (hn : n ≤ 100000) (d : Array Nat) (lo hi : Nat) (hlo : lo + 12 < hi) (hh : hi ≤ n) (hL : Low lo hi d) (w : World) (hR : Rw w0 b c0 n d w) :
    Calls Tryz.prog 191 #[.slice (some ⟨b, 0, none⟩) n cap, .int .i64 (lo : Int), .int .i64 (hi : Int)] w fun e w' => Pans w0 b n c0 lo hi d e w' := by
  have HR := Lib.hid hR
  have HLow := Lib.hid hL
  have n1 : (n : Int) ≤ 100000 := by omega
  have HSZ := Lib.hid hR.size
  clear hR hL
  go_enter Tryz.func191, Tryz.ntmps191
  go_wp2
  go_loopw [7, 8] (fun v7 v8 wr => ∃ (i s : Nat) (dk : Array Nat), v7 = .int .i64 (i : Int) ∧ v8 = .int .i64 (s : Int) ∧ s ≤ 5 ∧ lo < i ∧ i ≤ hi ∧ Hid (PermIn lo hi d dk) ∧ Hid (Srt lo i dk) ∧ Hid (Rw w0 b c0 n dk wr)) (fun _ v8 _ => 5 - (intOf v8).toNat)
  case atStart => exact ⟨lo + 1, 0, d, by go_num, rfl, by omega, by omega, by omega, Lib.hid (permIn_refl _ _ _), Lib.hid (Srt.one lo d), HR⟩
  case round =>
    obtain ⟨i, s, dk, rfl, rfl, hs5, hi1, hi2, HP, HS, HD⟩ := hrel
    by_cases hs : s < 5
    · have ls : (s : Int) < 5 := by omega
      go_wp2
      go_loopw [7] (fun v wr2 => ∃ i : Nat, v = .int .i64 (i : Int) ∧ lo < i ∧ i ≤ hi ∧ Hid (Srt lo i dk) ∧ Hid (Rw w0 b c0 n dk wr2)) (fun v _ => hi - (intOf v).toNat)
      case atStart => exact ⟨i, rfl, hi1, hi2, HS, HD⟩
      case round =>
        obtain ⟨i, rfl, hi1, hi2, HS, HD⟩ := hrel
        by_cases hie : i = hi
        · have hl : decide (i < hi) = false := by rw [decide_eq_false_iff_not]; omega
          have he : ((i : Int) == (hi : Int)) = true := by rw [hie]; simp
          have HE := Lib.hid (show Srt lo hi dk from hie ▸ HS.out)
          clear hie
          go_wp2
          go_quiet (fail)
          have HD2 := Lib.hid (HD.out.drewN nq)
          generalize wr.drewN nq = v1 at *
          go_wp2
          go_ret
          exact ⟨true, dk, rfl, fun _ => HE.out, HP.out, HD2.out⟩
        · have hih : i < hi := by omega
          have hl : decide (i < hi) = true := by rw [decide_eq_true_iff]; omega
          have he : ((i : Int) == (hi : Int)) = false := by rw [beq_eq_false_iff_ne]; omega
          obtain ⟨x, hx⟩ : ∃ x, x = i - 1 := ⟨_, rfl⟩
          have e1 : IntKind.i64.wrap ((i : Int) - 1) = (x : Int) := by rw [IntWalk.i64_in _ (by omega)]; omega
          have e1' : (i : Int) - 1 = (x : Int) := by omega
          obtain ⟨y0, hy0⟩ : ∃ y, y = dk[i]! := ⟨_, rfl⟩
          obtain ⟨y1, hy1⟩ : ∃ y, y = dk[x]! := ⟨_, rfl⟩
          have f0 : wr.cell? ⟨b, i, none⟩ = some (.int .u64 (y0 : Int)) := by rw [hy0]; exact HD.out.cell i (by omega)
          have f1 : wr.cell? ⟨b, x, none⟩ = some (.int .u64 (y1 : Int)) := by rw [hy1]; exact HD.out.cell x (by omega)
          have b0 : (0 : Int) ≤ (i : Int) ∧ (i : Int) < (n : Int) := by omega
          have b1 : (0 : Int) ≤ (x : Int) ∧ (x : Int) < (n : Int) := by omega
          have HY0 := Lib.hid hy0
          have HY1 := Lib.hid hy1
          have HX := Lib.hid hx
          clear hy0 hy1 hx hie
          go_wp2
          go_quiet (first | (go_at_call 192; refine Calls.quiet_of_same ((less_any _ _ _).mono (fun e w' h => ⟨h.1, h.2.symm⟩))))
          have HD2 := Lib.hid (HD.out.drewN nq)
          have g0 : (wr.drewN nq).cell? ⟨b, i, none⟩ = some (.int .u64 (y0 : Int)) := f0
          have g1 : (wr.drewN nq).cell? ⟨b, x, none⟩ = some (.int .u64 (y1 : Int)) := f1
          generalize wr.drewN nq = v1 at *
          go_wp2
          · have hlt : ¬ y0 < y1 := by simpa using (‹(!decide (y0 < y1)) = true›)
            go_roundw
            case rel => exact ⟨i + 1, by go_num, by omega, by omega, Lib.hid (HS.out.snoc hi1 (by rw [← HX.out, ← HY0.out, ← HY1.out]; omega)), HD2⟩
            case measure => simp [intOf] <;> omega
          · go_ret
            exact ⟨false, dk, rfl, (fun h => by cases h), HP.out, HD2.out⟩
          · have hlt : y0 < y1 := by simpa using (‹(!decide (y0 < y1)) = false›)
            go_cut [] from 15 to 132 (fun wx => Hid (Rw w0 b c0 n (swp dk i x) wx))
            case first =>
              have fr0 : v1.frozen? ⟨b, i, none⟩ = false := HD2.out.free i
              have fr1 : v1.frozen? ⟨b, x, none⟩ = false := HD2.out.free x
              have ne1 : ¬ i = x := by rw [HX.out]; omega
              have ne2 : ¬ x = i := fun h => ne1 h.symm
              have HSW := Lib.hid (show Rw w0 b c0 n (swp dk i x) ((v1.drew.setCell ⟨b, i, none⟩ (.int .u64 (y1 : Int))).setCell ⟨b, x, none⟩ (.int .u64 (y0 : Int))) by
                have h := HD2.out.drew.swap i x (by omega) (by omega)
                rw [← HY0.out, ← HY1.out] at h
                exact h)
              go_region
              go_wp2_with fail
              go_meet
              case rel => exact HSW
            have HD3 := hcut
            clear hcut
            go_upto_if 61 with (fail)
            go_cut [] from 15 to 132 (fun wx => ∃ d2 : Array Nat, Hid (PermIn lo hi d d2) ∧ Hid (Srt lo i d2) ∧ Hid (Rw w0 b c0 n d2 wx))
            case first =>
              obtain ⟨d1, hd1⟩ : ∃ d1, d1 = swp dk i x := ⟨_, rfl⟩
              have hxi : i = x + 1 := by have := HX.out; omega
              have hdz : dk.size = n := HD2.out.size
              have HP1 := Lib.hid (show PermIn lo hi d d1 by rw [hd1]; exact permIn_trans _ _ _ _ _ HP.out (swp_permIn _ _ _ _ _ (by omega) (by omega) (by omega) (by omega) (by omega)))
              have HS1 := Lib.hid (show Srt lo x d1 by rw [hd1]; exact (HS.out.less (by omega)).of_eq fun t _ ht => swp_other dk i x t (by omega) (by omega))
              rw [← hd1] at HD3
              clear hd1 hdz hxi g0 g1 f0 f1
              by_cases h2 : i < lo + 2
              · have c2 : ¬ (2 : Int) ≤ (i : Int) - (lo : Int) := by omega
                go_wp2
                go_meet
                case rel => exact ⟨d1, HP1, Lib.hid (show Srt lo i d1 by rw [show i = lo + 1 by omega]; exact Srt.one lo d1), HD3⟩
              · have c2 : (2 : Int) ≤ (i : Int) - (lo : Int) := by omega
                go_wp2
                go_loopw [9] (fun vj wr => ∃ (j : Nat) (dj : Array Nat), vj = .int .i64 (j : Int) ∧ lo ≤ j ∧ j ≤ x ∧ Hid (PermIn lo hi d dj) ∧ Hid (Rw w0 b c0 n dj wr) ∧ Hid (SrtBut lo x j dj)) (fun vj _ => (intOf vj).toNat)
                case atStart => exact ⟨x, d1, rfl, by have := HX.out; omega, Nat.le_refl _, HP1, HD3, Lib.hid HS1.out.startBut⟩
                case round =>
                  obtain ⟨j, dj, rfl, hjl, hji, HPj, HJ, HB⟩ := hrel
                  by_cases hj1 : 1 ≤ j
                  · have cj : (1 : Int) ≤ (j : Int) := by omega
                    obtain ⟨xj, hxj⟩ : ∃ xj, xj = j - 1 := ⟨_, rfl⟩
                    have ej1 : IntKind.i64.wrap ((j : Int) - 1) = (xj : Int) := by rw [IntWalk.i64_in _ (by omega)]; omega
                    have ej1' : (j : Int) - 1 = (xj : Int) := by omega
                    obtain ⟨z0, hz0⟩ : ∃ y, y = dj[j]! := ⟨_, rfl⟩
                    obtain ⟨z1, hz1⟩ : ∃ y, y = dj[xj]! := ⟨_, rfl⟩
                    have q0 : wr.cell? ⟨b, j, none⟩ = some (.int .u64 (z0 : Int)) := by rw [hz0]; exact HJ.out.cell j (by omega)
                    have q1 : wr.cell? ⟨b, xj, none⟩ = some (.int .u64 (z1 : Int)) := by rw [hz1]; exact HJ.out.cell xj (by omega)
                    have t0 : (0 : Int) ≤ (j : Int) ∧ (j : Int) < (n : Int) := by omega
                    have t1 : (0 : Int) ≤ (xj : Int) ∧ (xj : Int) < (n : Int) := by omega
                    have HZ0 := Lib.hid hz0
                    have HZ1 := Lib.hid hz1
                    have HXJ := Lib.hid hxj
                    clear hz0 hz1 hxj
                    go_wp2
                    go_quiet (first | (go_at_call 192; refine Calls.quiet_of_same ((less_any _ _ _).mono (fun e w' h => ⟨h.1, h.2.symm⟩))))
                    have HK := Lib.hid (HJ.out.drewN nq)
                    have p0 : (wr.drewN nq).cell? ⟨b, j, none⟩ = some (.int .u64 (z0 : Int)) := q0
                    have p1 : (wr.drewN nq).cell? ⟨b, xj, none⟩ = some (.int .u64 (z1 : Int)) := q1
                    clear q0 q1
                    generalize wr.drewN nq = v3 at *
                    go_wp2
                    · have hz : ¬ z0 < z1 := by simpa using (‹(!decide (z0 < z1)) = true›)
                      go_meet
                      case rel => exact ⟨dj, HPj, Lib.hid (show Srt lo i dj by
                        have h := HB.out.stop (by
                          by_cases hjl2 : j = lo
                          · exact .inl hjl2
                          · exact .inr (by rw [← HXJ.out, ← HZ0.out, ← HZ1.out]; omega))
                        rwa [show x + 1 = i by have := HX.out; omega] at h), HK⟩
                    · have hz : z0 < z1 := by simpa using (‹(!decide (z0 < z1)) = false›)
                      have fz0 : v3.frozen? ⟨b, j, none⟩ = false := HK.out.free j
                      have fz1 : v3.frozen? ⟨b, xj, none⟩ = false := HK.out.free xj
                      have ne1 : ¬ j = xj := by have := HXJ.out; omega
                      have ne2 : ¬ xj = j := fun h => ne1 h.symm
                      have HSW := Lib.hid (show Rw w0 b c0 n (swp dj j xj) ((v3.drew.setCell ⟨b, j, none⟩ (.int .u64 (z1 : Int))).setCell ⟨b, xj, none⟩ (.int .u64 (z0 : Int))) by
                        have h := HK.out.drew.swap j xj (by omega) (by omega)
                        rw [← HZ0.out, ← HZ1.out] at h
                        exact h)
                      have hjl2 : lo < j := by
                        rcases Nat.lt_or_ge lo j with h | h
                        · exact h
                        · exfalso
                          have e : j = lo := by omega
                          have hL := low_at (HLow.out.perm' (by rw [HSZ.out]; exact hh) HPj.out) (by omega) (by omega)
                          rw [← e, ← HXJ.out, ← HZ0.out, ← HZ1.out] at hL
                          exact hL hz
                      go_region
                      go_wp2
                      go_roundw
                      case rel =>
                        have ej : j = xj + 1 := by have := HXJ.out; omega
                        exact ⟨xj, swp dj j xj, by go_num, by omega, by omega, Lib.hid (permIn_trans _ _ _ _ _ HPj.out (swp_permIn _ _ _ _ _ (by omega) (by omega) (by omega) (by omega) (by rw [HJ.out.size]; omega))), HSW,
                          Lib.hid (by
                            subst ej
                            exact HB.out.step (by omega) (by omega) (by rw [HJ.out.size]; have := HX.out; omega) (by rw [← HZ0.out, ← HZ1.out]; exact hz))⟩
                      case measure => simp [intOf] <;> omega
                  · have cj : ¬ (1 : Int) ≤ (j : Int) := by omega
                    go_wp2
                    go_meet
                    case rel => exact ⟨dj, HPj, Lib.hid (show Srt lo i dj by
                      have h := HB.out.stop (.inl (by omega))
                      rwa [show x + 1 = i by have := HX.out; omega] at h), HJ⟩
            obtain ⟨d2, HP2, HS2, HD4⟩ := hcut
            clear g0 g1 f0 f1
            by_cases h3 : hi < i + 2
            · have c3 : ¬ (2 : Int) ≤ (hi : Int) - (i : Int) := by omega
              go_wp2
              go_roundw
              case rel => exact ⟨i, s + 1, d2, rfl, by go_num, by omega, hi1, hi2, HP2, HS2, HD4⟩
              case measure => simp [intOf] <;> omega
            · have c3 : (2 : Int) ≤ (hi : Int) - (i : Int) := by omega
              go_wp2
              go_loopw [10] (fun vj wr => ∃ (j : Nat) (dj : Array Nat), vj = .int .i64 (j : Int) ∧ i + 1 ≤ j ∧ j ≤ hi ∧ Hid (PermIn lo hi d dj) ∧ Hid (Srt lo i dj) ∧ Hid (Rw w0 b c0 n dj wr)) (fun vj _ => hi - (intOf vj).toNat)
              case atStart => exact ⟨i + 1, d2, by go_num, by omega, by omega, HP2, HS2, HD4⟩
              case round =>
                obtain ⟨j, dj, rfl, hjl, hji, HPj, HSj, HJ⟩ := hrel
                by_cases hj1 : j < hi
                · have cj : (j : Int) < (hi : Int) := by omega
                  obtain ⟨xj, hxj⟩ : ∃ xj, xj = j - 1 := ⟨_, rfl⟩
                  have ej1 : IntKind.i64.wrap ((j : Int) - 1) = (xj : Int) := by rw [IntWalk.i64_in _ (by omega)]; omega
                  have ej1' : (j : Int) - 1 = (xj : Int) := by omega
                  obtain ⟨z0, hz0⟩ : ∃ y, y = dj[j]! := ⟨_, rfl⟩
                  obtain ⟨z1, hz1⟩ : ∃ y, y = dj[xj]! := ⟨_, rfl⟩
                  have q0 : wr.cell? ⟨b, j, none⟩ = some (.int .u64 (z0 : Int)) := by rw [hz0]; exact HJ.out.cell j (by omega)
                  have q1 : wr.cell? ⟨b, xj, none⟩ = some (.int .u64 (z1 : Int)) := by rw [hz1]; exact HJ.out.cell xj (by omega)
                  have t0 : (0 : Int) ≤ (j : Int) ∧ (j : Int) < (n : Int) := by omega
                  have t1 : (0 : Int) ≤ (xj : Int) ∧ (xj : Int) < (n : Int) := by omega
                  have HZ0 := Lib.hid hz0
                  have HZ1 := Lib.hid hz1
                  have HXJ := Lib.hid hxj
                  clear hz0 hz1 hxj
                  go_wp2
                  go_quiet (first | (go_at_call 192; refine Calls.quiet_of_same ((less_any _ _ _).mono (fun e w' h => ⟨h.1, h.2.symm⟩))))
                  have HK := Lib.hid (HJ.out.drewN nq)
                  have p0 : (wr.drewN nq).cell? ⟨b, j, none⟩ = some (.int .u64 (z0 : Int)) := q0
                  have p1 : (wr.drewN nq).cell? ⟨b, xj, none⟩ = some (.int .u64 (z1 : Int)) := q1
                  clear q0 q1
                  generalize wr.drewN nq = v3 at *
                  go_wp2
                  · have hz : ¬ z0 < z1 := by simpa using (‹(!decide (z0 < z1)) = true›)
                    go_roundw
                    case rel => exact ⟨i, s + 1, dj, rfl, by go_num, by omega, hi1, hi2, HPj, HSj, HK⟩
                    case measure => simp [intOf] <;> omega
                  · have hz : z0 < z1 := by simpa using (‹(!decide (z0 < z1)) = false›)
                    have fz0 : v3.frozen? ⟨b, j, none⟩ = false := HK.out.free j
                    have fz1 : v3.frozen? ⟨b, xj, none⟩ = false := HK.out.free xj
                    have ne1 : ¬ j = xj := by have := HXJ.out; omega
                    have ne2 : ¬ xj = j := fun h => ne1 h.symm
                    have HSW := Lib.hid (show Rw w0 b c0 n (swp dj j xj) ((v3.drew.setCell ⟨b, j, none⟩ (.int .u64 (z1 : Int))).setCell ⟨b, xj, none⟩ (.int .u64 (z0 : Int))) by
                      have h := HK.out.drew.swap j xj (by omega) (by omega)
                      rw [← HZ0.out, ← HZ1.out] at h
                      exact h)
                    go_region
                    go_wp2
                    go_roundw
                    case rel =>
                      have ej : j = xj + 1 := by have := HXJ.out; omega
                      exact ⟨j + 1, swp dj j xj, by go_num, by omega, by omega, Lib.hid (permIn_trans _ _ _ _ _ HPj.out (swp_permIn _ _ _ _ _ (by omega) (by omega) (by omega) (by omega) (by rw [HJ.out.size]; omega))),
                        Lib.hid (by
                          subst ej
                          exact swap_right HSj.out (by omega) (by rw [HJ.out.size]; omega)), HSW⟩
                    case measure => simp [intOf] <;> omega
                · have cj : ¬ (j : Int) < (hi : Int) := by omega
                  go_wp2
                  go_roundw
                  case rel => exact ⟨i, s + 1, dj, rfl, by go_num, by omega, hi1, hi2, HPj, HSj, HJ⟩
                  case measure => simp [intOf] <;> omega
    · have ls : ¬ (s : Int) < 5 := by omega
      go_wp2
      go_ret
      exact ⟨false, dk, rfl, (fun h => by cases h), HP.out, HD.out⟩
end Go.Proofs.YtmnklonoelpidaaGreatDoor
