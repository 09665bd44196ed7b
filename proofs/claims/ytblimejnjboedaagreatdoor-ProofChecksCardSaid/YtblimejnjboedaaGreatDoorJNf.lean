/- The law's ProofChecks. -/
import Derived.Test.YtblimejnjboedaaGreatDoorJNd
import Derived.Test.YtblimejnjboedaaGreatDoorJNac
import Derived.Test.YtblimejnjboedaaGreatDoorJNt
namespace Go.Proofs.YtblimejnjboedaaGreatDoor
open Go.RowKit Go.Sort

set_option maxRecDepth 100000 in
set_option maxHeartbeats 4000000 in
theorem proofChecks_any (x : TryR) (root : (List UInt8)) (w : World) (hg : Glob w) (hx : TryIn x w) :
    Calls Tryz.prog 3 #[tryV x, .string ⟨root.toArray⟩] w fun e w' => e = .returned (.bool true) ∧ Below w.heap.size w w' := by
  obtain ⟨n, aP, cP, P, aE, cE, E, aR, cR, R⟩ := x
  obtain ⟨hn, hpm, hpc, hp, hem, hel, he, hrm, hrl, hr⟩ := hx
  simp only at hn hpm hpc hp hem hel he hrm hrl hr
  obtain ⟨b, hb⟩ : ∃ b, b = w.heap.size := ⟨_, rfl⟩
  obtain ⟨w1, hw1⟩ : ∃ w1, w1 = w.alloc (.cells #[.int .i64 n, .slice aP P.length cP, .slice aE E.length cE, .slice aR R.length cR] 25) := ⟨_, rfl⟩
  have hb1 : Below w.heap.size w w1 := by rw [hw1]; exact by0 w _
  have hbl : w1.heap[b]? = some (.cells #[.int .i64 n, .slice aP P.length cP, .slice aE E.length cE, .slice aR R.length cR] 25 (0, 0)) := by rw [hw1]; exact alloc_new _ _ hb
  have hS1 : TrS b (.int .i64 n) (.slice aP P.length cP) (.slice aE E.length cE) (.slice aR R.length cR) w1 w1 := ⟨(lit_cell hbl 0).trans rfl, (lit_cell hbl 1).trans rfl, (lit_cell hbl 2).trans rfl, (lit_cell hbl 3).trans rfl, Below.refl _ _⟩
  have hg1 : Glob w1 := hg.below hg.size hb1
  have hp1 := nums_next hp hb1
  have he1 := he.below (Nat.le_refl _) hb1
  have hr1 := hr.below (Nat.le_refl _) hb1
  have HCE := Lib.hid (fun wz (h : Below w1.heap.size w1 wz) => cut11_any aE cE 20 (by decide) E wz hem hel (he1.below (Nat.le_refl _) h))
  have HCR := Lib.hid (fun wz (h : Below w1.heap.size w1 wz) => cut11_any aR cR 60 (by decide) R wz hrm hrl (hr1.below (Nat.le_refl _) h))
  rw [show ((20 : Nat) : Int) = 20 from rfl] at HCE
  rw [show ((60 : Nat) : Int) = 60 from rfl] at HCR
  have hle := cutBy_len E 20 60
  have hlr := cutBy_len R 60 60
  have hse := cutBy_short E 20 60
  have hsr := cutBy_short R 60 60
  generalize cutBy E 20 60 = E2 at *
  generalize cutBy R 60 60 = R2 at *
  obtain ⟨m, hm⟩ : ∃ m, m = min P.length 20 := ⟨_, rfl⟩
  have hmi : min (P.length : Int) 20 = (m : Int) := by omega
  have hml : (P.take 20).length = m := by rw [List.length_take]; omega
  have HRI := Lib.hid (fun ae ar ce cr wz (h : Below w1.heap.size w1 wz) (h1 : Strs ae E2 wz) (h2 : Strs ar R2 wz) (h3 : R2.length ≤ cr) => iroot_any n (P.take 20) E2 R2 aP ae ar cP ce cr wz (nums_next (nums_take hp1 20) h) h1 h2 (by omega) (by omega) h3 (by omega) (fun i h => by have := hse i h; omega) (fun i h => by have := hsr i h; omega))
  rw [hml] at HRI
  have HC1 := Lib.hid (fun (root : (List UInt8)) ae ar ce cr wz (h : Below w1.heap.size w1 wz) (h1 : Strs ae E2 wz) (h2 : Strs ar R2 wz) (h3 : R2.length ≤ cr) => ocheck_any root n hn (P.take 20) E2 R2 aP ae ar cP ce cr wz (hg1.below hg1.size h) (nums_next (nums_take hp1 20) h) h1 h2 (by omega) (by omega) h3 (by omega) (fun i h => by have := hse i h; omega) (fun i h => by have := hsr i h; omega))
  have HC2 := Lib.hid (fun (root : (List UInt8)) ae ar ce cr wz (h : Below w1.heap.size w1 wz) (h1 : Strs ae E2 wz) (h2 : Strs ar R2 wz) (h3 : R2.length ≤ cr) => icheck_any root n (P.take 20) E2 R2 aP ae ar cP ce cr wz (nums_next (nums_take hp1 20) h) h1 h2 (by omega) (by omega) h3 (by omega) (fun i h => by have := hse i h; omega) (fun i h => by have := hsr i h; omega))
  rw [hml] at HC1 HC2
  obtain ⟨d1, hc1⟩ : ∃ c1, c1 = checkV root n (P.take 20) E2 R2 := ⟨_, rfl⟩
  obtain ⟨d2, hc2⟩ : ∃ c2, c2 = checkV (rootV n (P.take 20) E2 R2).1 n (P.take 20) E2 R2 := ⟨_, rfl⟩
  have HCR1 := Lib.hid (HC1.out root)
  have HCI1 := Lib.hid (HC2.out root)
  have HCR2 := Lib.hid (HC1.out (rootV n (P.take 20) E2 R2).1)
  have HCI2 := Lib.hid (HC2.out (rootV n (P.take 20) E2 R2).1)
  rw [← hc1] at HCR1 HCI1
  rw [← hc2] at HCR2 HCI2
  clear HC1 HC2 hc1 hc2
  generalize rootV n (P.take 20) E2 R2 = V at *
  obtain ⟨Z, z⟩ := V
  simp only at HRI HCR2 HCI2
  have HW := Lib.hid (fun wz (h : Below w1.heap.size w1 wz) => works11_any wz (hg1.below hg1.size h))
  have m0 : (0 : Int) ≤ (m : Int) := by omega
  have m1 : (m : Int) ≤ (cP : Int) := by omega
  have m2 : (m : Int) ≤ (P.length : Int) := by omega
  have n0 : (P.length : Int) ≤ 9223372036854775807 := by unfold maxLen at hpm; omega
  have hzz : (d1 == d1) = true := by simp
  have hz2 : (d2 == d2) = true := by simp
  have HW1 := Lib.hid hw1
  have HB := Lib.hid hb
  have HB1 := Lib.hid hb1
  have HS1 := Lib.hid hS1
  have hcl := hS1.2.1
  clear hg hg1 hp hp1 he he1 hr hr1 hn hpm hpc hem hel hrm hrl hw1 hb hb1 hbl hle hlr hse hsr hm hml hS1
  go_enter Tryz.func3, Tryz.ntmps3
  go_upto_region 1 with fail
  rw [← HW1.out, ← HB.out]
  go_upto_region 2 with fail
  have hs0 := HS1.out
  have hs1 := tr_drew hs0
  clear hcl
  go_region_held3 (fun wz => TrS b (.int .i64 n) (.slice aP P.length cP) (.slice aE E.length cE) (.slice aR R.length cR) w1 wz)
    (first | (with_reducible assumption))
    (first
      | (go_at_call 6; with_reducible refine (HCE.out _ (show Below w1.heap.size w1 _ from (by with_reducible assumption : TrS b _ _ _ _ w1 _).2.2.2.2)).mono ?_; rintro e w2 ⟨a2, c2, rfl, hp2, hb2⟩; have hs2 := tr_next (by with_reducible assumption) hb2; have PE := Lib.hid hp2; (try have PR := Lib.hid (PR.out.below hb2)))
      | (go_at_call 6; with_reducible refine (HCR.out _ (show Below w1.heap.size w1 _ from (by with_reducible assumption : TrS b _ _ _ _ w1 _).2.2.2.2)).mono ?_; rintro e w3 ⟨a3, c3, rfl, hp3, hb3⟩; have hs3 := tr_next (by with_reducible assumption) hb3; have PR := Lib.hid hp3; (try have PE := Lib.hid (PE.out.below hb3))))
  have hs4 := (by with_reducible assumption : TrS b (.int .i64 n) (.slice aP P.length cP) (.slice aE E.length cE) (.slice aR R.length cR) w1 w3)
  have HS4 := Lib.hid hs4
  have hcl := hs4.1
  go_upto_region 4 with (go_at_call 7; refine (HRI.out _ _ _ _ _ HS4.out.2.2.2.2 PE.out.strs PR.out.strs PR.out.cap).mono ?_; rintro e w4 ⟨rfl, hb4⟩)
  have HS5 := Lib.hid (tr_next HS4.out hb4)
  have PE5 := Lib.hid (PE.out.strs.below (Nat.le_refl _) hb4)
  have PR5 := Lib.hid (PR.out.strs.below (Nat.le_refl _) hb4)
  have PC5 := Lib.hid PR.out.cap
  have hT0 : TrS b (.int .i64 n) (.slice aP P.length cP) (.slice aE E.length cE) (.slice aR R.length cR) w4 w4 := ⟨HS5.out.1, HS5.out.2.1, HS5.out.2.2.1, HS5.out.2.2.2.1, Below.refl _ _⟩
  have hT1 := tr_drew hT0
  have K1 := Lib.hid (fun wz (h : Below w4.heap.size w4 wz) => HCR1.out _ _ c2 c3 wz (below_next HS5.out.2.2.2.2 h) (PE5.out.below (Nat.le_refl _) h) (PR5.out.below (Nat.le_refl _) h) PC5.out)
  have K2 := Lib.hid (fun wz (h : Below w4.heap.size w4 wz) => HCI1.out _ _ c2 c3 wz (below_next HS5.out.2.2.2.2 h) (PE5.out.below (Nat.le_refl _) h) (PR5.out.below (Nat.le_refl _) h) PC5.out)
  have K3 := Lib.hid (fun wz (h : Below w4.heap.size w4 wz) => HCR2.out _ _ c2 c3 wz (below_next HS5.out.2.2.2.2 h) (PE5.out.below (Nat.le_refl _) h) (PR5.out.below (Nat.le_refl _) h) PC5.out)
  have K4 := Lib.hid (fun wz (h : Below w4.heap.size w4 wz) => HCI2.out _ _ c2 c3 wz (below_next HS5.out.2.2.2.2 h) (PE5.out.below (Nat.le_refl _) h) (PR5.out.below (Nat.le_refl _) h) PC5.out)
  have K5 := Lib.hid (fun wz (h : Below w4.heap.size w4 wz) => HW.out wz (below_next HS5.out.2.2.2.2 h))
  clear hs0 hs1 hcl hb4 hs4 HRI HCR1 HCI1 HCR2 HCI2 HW HCE HCR PE PR
  clear hs2 hs3 hp2 hp3 hb2 hb3
  go_region_held3 (fun wz => TrS b (.int .i64 n) (.slice aP P.length cP) (.slice aE E.length cE) (.slice aR R.length cR) w4 wz)
    (first | (with_reducible assumption))
    (first
      | (go_at_call 8; with_reducible refine (K1.out _ (by with_reducible assumption : TrS b _ _ _ _ w4 _).2.2.2.2).mono ?_; rintro e w5 ⟨rfl, hb5⟩; have hs5 := tr_next (by with_reducible assumption) hb5)
      | (go_at_call 9; with_reducible refine (K2.out _ (by with_reducible assumption : TrS b _ _ _ _ w4 _).2.2.2.2).mono ?_; rintro e w6 ⟨rfl, hb6⟩; have hs6 := tr_next (by with_reducible assumption) hb6)
      | (go_at_call 8; with_reducible refine (K3.out _ (by with_reducible assumption : TrS b _ _ _ _ w4 _).2.2.2.2).mono ?_; rintro e w7 ⟨rfl, hb7⟩; have hs7 := tr_next (by with_reducible assumption) hb7)
      | (go_at_call 9; with_reducible refine (K4.out _ (by with_reducible assumption : TrS b _ _ _ _ w4 _).2.2.2.2).mono ?_; rintro e w8 ⟨rfl, hb8⟩; have hs8 := tr_next (by with_reducible assumption) hb8)
      | (go_at_call 10; with_reducible refine (K5.out _ (by with_reducible assumption : TrS b _ _ _ _ w4 _).2.2.2.2).mono ?_; rintro e w9 ⟨rfl, hb9⟩; have hs9 := tr_next (by with_reducible assumption) hb9))
  all_goals
    have HF := Lib.hid (below_next (below_next HB1.out HS5.out.2.2.2.2) (by with_reducible assumption : TrS b (.int .i64 n) (.slice aP P.length cP) (.slice aE E.length cE) (.slice aR R.length cR) w4 w9).2.2.2.2)
    clear hT0 hT1
    go_wp2
    exact bodyPost_ret (v := .bool true) (by simp [results, Tryz.results3, go_sem]) rfl ⟨rfl, HF.out⟩
end Go.Proofs.YtblimejnjboedaaGreatDoor
