/- The law's ProofRoots. -/
import Derived.Test.YtblimejnjboedaaDoorJNd
import Derived.Test.YtblimejnjboedaaDoorJNa
import Derived.Test.YtblimejnjboedaaDoorJNt
namespace Go.Proofs.YtblimejnjboedaaDoor
open Go.RowKit Go.Sort

set_option maxRecDepth 100000 in
set_option maxHeartbeats 4000000 in
theorem proofRoots_any (x : TryR) (w : World) (hg : Glob w) (hx : TryIn x w) :
    Calls Tryd.prog 3 #[tryV x] w fun e w' => e = .returned (.bool true) ∧ Below w.heap.size w w' := by
  obtain ⟨n, aP, cP, P, aE, cE, E, aR, cR, R⟩ := x
  obtain ⟨hn, hpm, hpc, hp, hem, hel, he, hrm, hrl, hr⟩ := hx
  simp only at hn hpm hpc hp hem hel he hrm hrl hr
  obtain ⟨b, hb⟩ : ∃ b, b = w.heap.size := ⟨_, rfl⟩
  obtain ⟨w1, hw1⟩ : ∃ w1, w1 = w.alloc (.cells #[.int .i64 n, .slice aP P.length cP, .slice aE E.length cE, .slice aR R.length cR] 25) := ⟨_, rfl⟩
  have hb1 : Below w.heap.size w w1 := by rw [hw1]; exact by0 w _
  have hbl : w1.heap[b]? = some (.cells #[.int .i64 n, .slice aP P.length cP, .slice aE E.length cE, .slice aR R.length cR] 25 (0, 0)) := by rw [hw1]; exact alloc_new _ _ hb
  have hS1 : TrS b (.int .i64 n) (.slice aP P.length cP) (.slice aE E.length cE) (.slice aR R.length cR) w1 w1 := ⟨(lit_cell hbl 0).trans rfl, (lit_cell hbl 1).trans rfl, (lit_cell hbl 2).trans rfl, (lit_cell hbl 3).trans rfl, Below.refl _ _⟩
  have hg1 : Glob w1 := hg.below hg.size hb1
  have hp1 := nums_next hp hb1
  have he1 := he.below (Nat.le_refl _) hb1
  have hr1 := hr.below (Nat.le_refl _) hb1
  have HCE := Lib.hid (fun wz (h : Below w1.heap.size w1 wz) => cut11_any aE cE 20 (by decide) E wz hem hel (he1.below (Nat.le_refl _) h))
  have HCR := Lib.hid (fun wz (h : Below w1.heap.size w1 wz) => cut11_any aR cR 60 (by decide) R wz hrm hrl (hr1.below (Nat.le_refl _) h))
  rw [show ((20 : Nat) : Int) = 20 from rfl] at HCE
  rw [show ((60 : Nat) : Int) = 60 from rfl] at HCR
  have hle := cutBy_len E 20 60
  have hlr := cutBy_len R 60 60
  have hse := cutBy_short E 20 60
  have hsr := cutBy_short R 60 60
  generalize cutBy E 20 60 = E2 at *
  generalize cutBy R 60 60 = R2 at *
  obtain ⟨m, hm⟩ : ∃ m, m = min P.length 20 := ⟨_, rfl⟩
  have hmi : min (P.length : Int) 20 = (m : Int) := by omega
  have hml : (P.take 20).length = m := by rw [List.length_take]; omega
  have HRT := Lib.hid (fun ae ar ce cr wz (h : Below w1.heap.size w1 wz) (h1 : Strs ae E2 wz) (h2 : Strs ar R2 wz) (h3 : R2.length ≤ cr) => oroot_any n hn (P.take 20) E2 R2 aP ae ar cP ce cr wz (hg1.below hg1.size h) (nums_next (nums_take hp1 20) h) h1 h2 (by omega) (by omega) h3 (by omega) (fun i h => by have := hse i h; omega) (fun i h => by have := hsr i h; omega))
  have HRI := Lib.hid (fun ae ar ce cr wz (h : Below w1.heap.size w1 wz) (h1 : Strs ae E2 wz) (h2 : Strs ar R2 wz) (h3 : R2.length ≤ cr) => iroot_any n (P.take 20) E2 R2 aP ae ar cP ce cr wz (nums_next (nums_take hp1 20) h) h1 h2 (by omega) (by omega) h3 (by omega) (fun i h => by have := hse i h; omega) (fun i h => by have := hsr i h; omega))
  rw [hml] at HRT HRI
  generalize rootV n (P.take 20) E2 R2 = V at *
  obtain ⟨Z, z⟩ := V
  simp only at HRT HRI
  have HW := Lib.hid (fun wz (h : Below w1.heap.size w1 wz) => works11_any wz (hg1.below hg1.size h))
  have m0 : (0 : Int) ≤ (m : Int) := by omega
  have m1 : (m : Int) ≤ (cP : Int) := by omega
  have m2 : (m : Int) ≤ (P.length : Int) := by omega
  have n0 : (P.length : Int) ≤ 9223372036854775807 := by unfold maxLen at hpm; omega
  have hzz : (Z == Z) = true := by simp
  have hz2 : (z == z) = true := by simp
  have HW1 := Lib.hid hw1
  have HB := Lib.hid hb
  have HB1 := Lib.hid hb1
  have HS1 := Lib.hid hS1
  have hc1 := hS1.2.1
  clear hg hg1 hp hp1 he he1 hr hr1 hn hpm hpc hem hel hrm hrl hw1 hb hb1 hbl hle hlr hse hsr hm hml hS1
  go_enter Tryd.func3, Tryd.ntmps3
  go_upto_region 1 with fail
  rw [← HW1.out, ← HB.out]
  go_upto_region 2 with fail
  have hs0 := HS1.out
  have hs1 := tr_drew hs0
  clear hc1
  go_region_held3 (fun wz => TrS b (.int .i64 n) (.slice aP P.length cP) (.slice aE E.length cE) (.slice aR R.length cR) w1 wz)
    (first | (with_reducible assumption))
    (first
      | (go_at_call 6; with_reducible refine (HCE.out _ (show Below w1.heap.size w1 _ from (by with_reducible assumption : TrS b _ _ _ _ w1 _).2.2.2.2)).mono ?_; rintro e w2 ⟨a2, c2, rfl, hp2, hb2⟩; have hs2 := tr_next (by with_reducible assumption) hb2; have PE := Lib.hid hp2; (try have PR := Lib.hid (PR.out.below hb2)))
      | (go_at_call 6; with_reducible refine (HCR.out _ (show Below w1.heap.size w1 _ from (by with_reducible assumption : TrS b _ _ _ _ w1 _).2.2.2.2)).mono ?_; rintro e w3 ⟨a3, c3, rfl, hp3, hb3⟩; have hs3 := tr_next (by with_reducible assumption) hb3; have PR := Lib.hid hp3; (try have PE := Lib.hid (PE.out.below hb3)))
      | (go_at_call 5; refine (HRT.out _ _ _ _ _ (show Below w1.heap.size w1 _ from (by with_reducible assumption : TrS b _ _ _ _ w1 _).2.2.2.2) PE.out.strs PR.out.strs PR.out.cap).mono ?_; rintro e w4 ⟨rfl, hb4⟩; have hs4 := tr_next (by with_reducible assumption) hb4))
  have HS4 := Lib.hid (by with_reducible assumption : TrS b (.int .i64 n) (.slice aP P.length cP) (.slice aE E.length cE) (.slice aR R.length cR) w1 w4)
  clear hs0 hs1 hs2 hs3 hs4 hp2 hp3 hb2 hb3 hb4 PE PR
  go_wp2
  have ht0 := HS4.out
  have ht1 := tr_drew ht0
  go_region_held3 (fun wz => TrS b (.int .i64 n) (.slice aP P.length cP) (.slice aE E.length cE) (.slice aR R.length cR) w1 wz)
    (first | (with_reducible assumption))
    (first
      | (go_at_call 6; with_reducible refine (HCE.out _ (show Below w1.heap.size w1 _ from (by with_reducible assumption : TrS b _ _ _ _ w1 _).2.2.2.2)).mono ?_; rintro e w5 ⟨a5, c5, rfl, hp5, hb5⟩; have hs5 := tr_next (by with_reducible assumption) hb5; have PE := Lib.hid hp5; (try have PR := Lib.hid (PR.out.below hb5)))
      | (go_at_call 6; with_reducible refine (HCR.out _ (show Below w1.heap.size w1 _ from (by with_reducible assumption : TrS b _ _ _ _ w1 _).2.2.2.2)).mono ?_; rintro e w6 ⟨a6, c6, rfl, hp6, hb6⟩; have hs6 := tr_next (by with_reducible assumption) hb6; have PR := Lib.hid hp6; (try have PE := Lib.hid (PE.out.below hb6)))
      | (go_at_call 7; refine (HRI.out _ _ _ _ _ (show Below w1.heap.size w1 _ from (by with_reducible assumption : TrS b _ _ _ _ w1 _).2.2.2.2) PE.out.strs PR.out.strs PR.out.cap).mono ?_; rintro e w7 ⟨rfl, hb7⟩; have hs7 := tr_next (by with_reducible assumption) hb7))
  have HS7 := Lib.hid (by with_reducible assumption : TrS b (.int .i64 n) (.slice aP P.length cP) (.slice aE E.length cE) (.slice aR R.length cR) w1 w7)
  clear ht0 ht1 hs5 hs6 hs7 hp5 hp6 hb5 hb6 hb7 PE PR
  go_wp2_with (go_at_call 8; refine (HW.out _ HS7.out.2.2.2.2).mono ?_; rintro e w8 ⟨rfl, hb8⟩)
  exact bodyPost_ret (v := .bool true) (by simp [results, Tryd.results3, go_sem]) rfl ⟨rfl, below_next (below_next HB1.out HS7.out.2.2.2.2) hb8⟩
end Go.Proofs.YtblimejnjboedaaDoor
