/- The law's WireBack: its walk. -/
import Derived.Test.YtbkiijndhjmkdaaGreatDoorJKs
namespace Go.Proofs.YtbkiijndhjmkdaaGreatDoor
open Go.RowKit

set_option maxRecDepth 100000 in
set_option maxHeartbeats 4000000 in
theorem back_any (x : CertE) (S : (List UInt8)) (at_ by_ : Nat) (stay : Int) (w : World) (hg : GlobW w) (hgl : 4 ≤ w.heap.size) (hp : CertP x.r) (hM : CertM x w) (hs : CertS x) (hS : S.length ≤ maxLen) (hat : at_ < 65536) (hby : by_ < 256) :
    Calls Tryz.prog 7 #[certV x, .string ⟨S.toArray⟩, .agg #[.int .u16 (at_ : Int), .int .u8 (by_ : Int), .int .i64 stay]] w fun e w' => e = .returned (.bool true) ∧ Below w.heap.size w w' := by
  have HW0 := Lib.hid (show Wk w w from ⟨hg, hgl, Below.refl _ _⟩)
  have HWO := Lib.hid (fun wz (h : Wk w wz) => worksw_any wz h.g h.gl)
  have HC := Lib.hid (fun wz (h : Wk w wz) => cutcert2_any x wz (hM.below h.o) hs)
  have HXC : Hid (x.coins = [] ∨ ∃ b off, x.ca = some ⟨b, off, none⟩ ∧ b < w.heap.size) := Lib.hid (by
    rcases hM.co with h | ⟨b, off, h1, h2, _⟩
    · exact .inl h
    · exact .inr ⟨b, off, h1, h2⟩)
  have HIN := Lib.hid (fun (y : CertE) (hy : y.r = certTo x.r) => certTo_in hp hy)
  have hal := certTo_len x.r
  have HT := Lib.hid (fun wz => turned_any (layCertP (certTo x.r)).1 at_ by_ stay wz (by omega) hat hby)
  have HBK := Lib.hid (fun (hc : (layCertP (certTo x.r)).2 = 0) wz (h : Wk w wz) => rcert_back (certTo_p hp) hc wz h.g (by omega) h.gl)
  have HSH := Lib.hid (cert_shape (certTo x.r))
  have HRD := Lib.hid (fun U (hU : U.length ≤ 1000000) wz (h : Wk w wz) => cert_red U wz h.g hU h.gl)
  obtain ⟨M, hm1, hm2, hm3⟩ := cut5000 S
  have Hm3 := Lib.hid hm3
  have HSL := Lib.hid (show (S.take 5000).length ≤ 1000000 by rw [List.length_take]; omega)
  have HAL := Lib.hid (show (layCertP (certTo x.r)).1.length ≤ 1000000 by omega)
  have m0 : (0 : Int) ≤ (M : Int) := by omega
  have m1 : (M : Int) ≤ (S.length : Int) := by omega
  have m2 : (S.length : Int) ≤ 9223372036854775807 := by unfold maxLen at hS; omega
  have K := Lib.hid (show Wk w ((w.alloc (.cells (certQ x).toArray 60)).alloc (.cells #[.int .u16 (at_ : Int), .int .u8 (by_ : Int), .int .i64 stay] 27)) from (show Wk w w from ⟨hg, hgl, Below.refl _ _⟩).next ((by0 w _).alloc (by simp) _))
  have HX := Lib.hid (show ((w.alloc (.cells (certQ x).toArray 60)).alloc (.cells #[.int .u16 (at_ : Int), .int .u8 (by_ : Int), .int .i64 stay] 27)).heap[w.heap.size]? = some (.cells (certQ x).toArray 60 (0, 0)) from lit_old _ (heap_alloc_new w _))
  have HTB := Lib.hid (show ((w.alloc (.cells (certQ x).toArray 60)).alloc (.cells #[.int .u16 (at_ : Int), .int .u8 (by_ : Int), .int .i64 stay] 27)).heap[w.heap.size + 1]? = some (.cells #[.int .u16 (at_ : Int), .int .u8 (by_ : Int), .int .i64 stay] 27 (0, 0)) from by
    rw [show w.heap.size + 1 = (w.alloc (.cells (certQ x).toArray 60)).heap.size by simp]; exact heap_alloc_new _ _)
  clear hg hgl hp hM hs hS hat hby hal hm2 hm3
  go_enter Tryz.func7, Tryz.ntmps7
  go_upto_region 1 with fail
  change Code.wp _ _ _ _ ((w.alloc (.cells (certQ x).toArray 60)).alloc (.cells #[.int .u16 (at_ : Int), .int .u8 (by_ : Int), .int .i64 stay] 27))
  generalize (w.alloc (.cells (certQ x).toArray 60)).alloc (.cells #[.int .u16 (at_ : Int), .int .u8 (by_ : Int), .int .i64 stay] 27) = w1 at *
  go_upto_region 3 with (go_at_call 17; refine (HWO.out _ K.out).mono ?_; rintro e w2 ⟨rfl, b2⟩; have K := Lib.hid (K.out.next b2); have HX := Lib.hid ((b2.block _ (lit_lt HX.out)).trans HX.out); have HTB := Lib.hid ((b2.block _ (lit_lt HTB.out)).trans HTB.out); clear b2)
  have hx2 := HX.out
  simp only [certQ] at hx2
  have c0 := (lit_cell hx2 0).trans rfl; have c1 := (lit_cell hx2 1).trans rfl; have c2 := (lit_cell hx2 2).trans rfl; have c3 := (lit_cell hx2 3).trans rfl; have c4 := (lit_cell hx2 4).trans rfl; have c5 := (lit_cell hx2 5).trans rfl
  have HZ2 : Hid (w.heap.size + 1 < w2.heap.size) := Lib.hid (lit_lt HTB.out)
  clear hx2
  go_upto_region 4 with (go_at_call 24; refine (HC.out _ K.out).mono ?_; rintro e w3 ⟨⟨y, hy, rfl, hm, hf, hca⟩, b3⟩; have HY := Lib.hid (And.intro hy (And.intro hm (And.intro hf hca))); clear hy hm hf hca; have K := Lib.hid (K.out.next b3); have HX := Lib.hid ((b3.block _ (lit_lt HX.out)).trans HX.out); have HTB := Lib.hid ((b3.block _ (lit_lt HTB.out)).trans HTB.out); clear b3; have hx3 := HX.out; simp only [certQ] at hx3; have d0 := (lit_cell hx3 0).trans rfl; have d1 := (lit_cell hx3 1).trans rfl; have d2 := (lit_cell hx3 2).trans rfl; have d3 := (lit_cell hx3 3).trans rfl; have d4 := (lit_cell hx3 4).trans rfl; have d5 := (lit_cell hx3 5).trans rfl; have g0 := lit_free hx3 0; have g1 := lit_free hx3 1; have g2 := lit_free hx3 2; have g3 := lit_free hx3 3; have g4 := lit_free hx3 4; have g5 := lit_free hx3 5)
  have hx4 := lit_set (k := 5) (.slice y.pa y.pp.length y.pc) (lit_set (k := 4) (.slice y.sa y.sp.length y.sc) (lit_set (k := 3) (.slice y.ca y.coins.length y.cc) (lit_set (k := 2) (.slice y.ra y.rl.length y.rc) (lit_set (k := 1) (.int .u64 (y.signed : Int)) (lit_set (k := 0) (.string ⟨y.root.toArray⟩) (hx3))))))
  have ho4 : Only w.heap.size w3 (((((((w3).setCell ⟨w.heap.size, 0, none⟩ (.string ⟨y.root.toArray⟩)).setCell ⟨w.heap.size, 1, none⟩ (.int .u64 (y.signed : Int))).setCell ⟨w.heap.size, 2, none⟩ (.slice y.ra y.rl.length y.rc)).setCell ⟨w.heap.size, 3, none⟩ (.slice y.ca y.coins.length y.cc)).setCell ⟨w.heap.size, 4, none⟩ (.slice y.sa y.sp.length y.sc)).setCell ⟨w.heap.size, 5, none⟩ (.slice y.pa y.pp.length y.pc)) := ((((((Only.refl w.heap.size w3).trans (Only.set w.heap.size 0 (.string ⟨y.root.toArray⟩) (w3))).trans (Only.set w.heap.size 1 (.int .u64 (y.signed : Int)) ((w3).setCell ⟨w.heap.size, 0, none⟩ (.string ⟨y.root.toArray⟩)))).trans (Only.set w.heap.size 2 (.slice y.ra y.rl.length y.rc) (((w3).setCell ⟨w.heap.size, 0, none⟩ (.string ⟨y.root.toArray⟩)).setCell ⟨w.heap.size, 1, none⟩ (.int .u64 (y.signed : Int))))).trans (Only.set w.heap.size 3 (.slice y.ca y.coins.length y.cc) ((((w3).setCell ⟨w.heap.size, 0, none⟩ (.string ⟨y.root.toArray⟩)).setCell ⟨w.heap.size, 1, none⟩ (.int .u64 (y.signed : Int))).setCell ⟨w.heap.size, 2, none⟩ (.slice y.ra y.rl.length y.rc)))).trans (Only.set w.heap.size 4 (.slice y.sa y.sp.length y.sc) (((((w3).setCell ⟨w.heap.size, 0, none⟩ (.string ⟨y.root.toArray⟩)).setCell ⟨w.heap.size, 1, none⟩ (.int .u64 (y.signed : Int))).setCell ⟨w.heap.size, 2, none⟩ (.slice y.ra y.rl.length y.rc)).setCell ⟨w.heap.size, 3, none⟩ (.slice y.ca y.coins.length y.cc)))).trans (Only.set w.heap.size 5 (.slice y.pa y.pp.length y.pc) ((((((w3).setCell ⟨w.heap.size, 0, none⟩ (.string ⟨y.root.toArray⟩)).setCell ⟨w.heap.size, 1, none⟩ (.int .u64 (y.signed : Int))).setCell ⟨w.heap.size, 2, none⟩ (.slice y.ra y.rl.length y.rc)).setCell ⟨w.heap.size, 3, none⟩ (.slice y.ca y.coins.length y.cc)).setCell ⟨w.heap.size, 4, none⟩ (.slice y.sa y.sp.length y.sc)))
  have hk4 : ∀ q, q ≠ w.heap.size → (((((((w3).setCell ⟨w.heap.size, 0, none⟩ (.string ⟨y.root.toArray⟩)).setCell ⟨w.heap.size, 1, none⟩ (.int .u64 (y.signed : Int))).setCell ⟨w.heap.size, 2, none⟩ (.slice y.ra y.rl.length y.rc)).setCell ⟨w.heap.size, 3, none⟩ (.slice y.ca y.coins.length y.cc)).setCell ⟨w.heap.size, 4, none⟩ (.slice y.sa y.sp.length y.sc)).setCell ⟨w.heap.size, 5, none⟩ (.slice y.pa y.pp.length y.pc)).heap[q]? = w3.heap[q]? := fun q hq => (lit_far _ hq).trans ((lit_far _ hq).trans ((lit_far _ hq).trans ((lit_far _ hq).trans ((lit_far _ hq).trans (lit_far _ hq)))))
  have hs4 : (((((((w3).setCell ⟨w.heap.size, 0, none⟩ (.string ⟨y.root.toArray⟩)).setCell ⟨w.heap.size, 1, none⟩ (.int .u64 (y.signed : Int))).setCell ⟨w.heap.size, 2, none⟩ (.slice y.ra y.rl.length y.rc)).setCell ⟨w.heap.size, 3, none⟩ (.slice y.ca y.coins.length y.cc)).setCell ⟨w.heap.size, 4, none⟩ (.slice y.sa y.sp.length y.sc)).setCell ⟨w.heap.size, 5, none⟩ (.slice y.pa y.pp.length y.pc)).heap.size = w3.heap.size := by simp
  change Code.wp _ _ _ _ (((((((w3).setCell ⟨w.heap.size, 0, none⟩ (.string ⟨y.root.toArray⟩)).setCell ⟨w.heap.size, 1, none⟩ (.int .u64 (y.signed : Int))).setCell ⟨w.heap.size, 2, none⟩ (.slice y.ra y.rl.length y.rc)).setCell ⟨w.heap.size, 3, none⟩ (.slice y.ca y.coins.length y.cc)).setCell ⟨w.heap.size, 4, none⟩ (.slice y.sa y.sp.length y.sc)).setCell ⟨w.heap.size, 5, none⟩ (.slice y.pa y.pp.length y.pc))
  generalize ((((((w3).setCell ⟨w.heap.size, 0, none⟩ (.string ⟨y.root.toArray⟩)).setCell ⟨w.heap.size, 1, none⟩ (.int .u64 (y.signed : Int))).setCell ⟨w.heap.size, 2, none⟩ (.slice y.ra y.rl.length y.rc)).setCell ⟨w.heap.size, 3, none⟩ (.slice y.ca y.coins.length y.cc)).setCell ⟨w.heap.size, 4, none⟩ (.slice y.sa y.sp.length y.sc)).setCell ⟨w.heap.size, 5, none⟩ (.slice y.pa y.pp.length y.pc) = w4 at *
  have X := Lib.hid (show Wb w y #[.int .u16 (at_ : Int), .int .u8 (by_ : Int), .int .i64 stay] w4 from ⟨⟨HW0.out.g.next (K.out.o.trans (ho4.below (Nat.le_refl _) K.out.o.size)), by rw [hs4]; exact K.out.gl, K.out.o.trans (ho4.below (Nat.le_refl _) K.out.o.size)⟩, hx4, (ho4.block _ (lit_lt HTB.out) (by omega)).trans HTB.out, cert_putM HY.out.2.1 HY.out.2.2.1 (by have := HZ2.out; omega) (by
    have h1 : y.coins = (x.coins.take 650) := congrArg (·.coins) HY.out.1
    rcases HXC.out with h | ⟨b, off, h2, h3⟩
    · exact .inl (by rw [h1, h]; rfl)
    · exact .inr ⟨b, off, by rw [HY.out.2.2.2]; exact h2, h3⟩) hk4 (by rw [hs4]; exact Nat.le_refl _)⟩)
  have hyr := HY.out.1
  have HA := Lib.hid (show ∀ wz, Wb w y #[.int .u16 (at_ : Int), .int .u8 (by_ : Int), .int .i64 stay] wz → Calls Tryz.prog 25 #[certV y] wz (fun e w' => e = .returned (.tuple #[.string ⟨(layCertP (certTo x.r)).1.toArray⟩, .int .i64 (layCertP (certTo x.r)).2]) ∧ Below wz.heap.size wz w') from fun wz h => by
    have h1 := wcert_any y wz h.k.g (HIN.out y hyr) h.m
    rw [hyr] at h1
    exact h1)
  have HYL : Hid (CertL y.r) := Lib.hid (by rw [hyr]; exact certTo_l _)
  have HYR := Lib.hid hyr
  generalize certTo x.r = R at *
  generalize hA0 : (layCertP R).1 = A at *
  generalize hc0 : (layCertP R).2 = c at *
  have hsh2 : (c = 0 ∧ A ≠ []) ∨ (A = [] ∧ c = 2) := by
    rcases HSH.out with ⟨h1, h2⟩ | h1
    · exact .inl ⟨h1, h2⟩
    · rw [h1] at hA0 hc0
      exact .inr ⟨hA0.symm, hc0.symm⟩
  have HS2 := Lib.hid hsh2
  clear hsh2 hA0 hc0 hyr HSH HY K HX HTB HC HXC HIN HZ2 hx4 ho4 hs4 hk4 hx3 d0 d1 d2 d3 d4 d5 g0 g1 g2 g3 g4 g5 c0 c1 c2 c3 c4 c5 HWO
  have hx4 := X.out.x
  simp only [certQ] at hx4
  have c0 := (lit_cell hx4 0).trans rfl; have c1 := (lit_cell hx4 1).trans rfl; have c2 := (lit_cell hx4 2).trans rfl; have c3 := (lit_cell hx4 3).trans rfl; have c4 := (lit_cell hx4 4).trans rfl; have c5 := (lit_cell hx4 5).trans rfl
  clear hx4
  go_upto_region 5 with (go_at_call 25; refine (HA.out _ X.out).mono ?_; rintro e w5 ⟨rfl, b5⟩; have X := Lib.hid (X.out.next b5); clear b5)
  clear c0 c1 c2 c3 c4 c5 HA
  have t0 : w5.cell? ⟨w.heap.size + 1, 0, none⟩ = some (.int .u16 (at_ : Int)) := (lit_cell X.out.t 0).trans rfl
  have t1 : w5.cell? ⟨w.heap.size + 1, 1, none⟩ = some (.int .u8 (by_ : Int)) := (lit_cell X.out.t 1).trans rfl
  have t2 : w5.cell? ⟨w.heap.size + 1, 2, none⟩ = some (.int .i64 stay) := (lit_cell X.out.t 2).trans rfl
  have htb : w.heap.size + 1 < w5.heap.size := lit_lt X.out.t
  have HNE := Lib.hid (show w5.heap.size ≠ w.heap.size + 1 by omega)
  go_cut [9] from 17 (fun s9 wx => ∃ (B : Nat) (T : (List UInt8)), s9 = .pointer (some ⟨B, 0, none⟩) ∧ Hid (T.length ≤ 1000000) ∧ Hid (Wb w y #[.int .u16 (at_ : Int), .int .u8 (by_ : Int), .int .i64 stay] wx ∧ wx.heap[B]? = some (.cells #[.string ⟨(S.take 5000).toArray⟩, .string ⟨A.toArray⟩, .string ⟨T.toArray⟩] 32 (0, 0))))
  case first =>
    go_region_held3 (fun w' => w'.cell? ⟨w.heap.size + 1, 0, none⟩ = some (.int .u16 (at_ : Int)) ∧ w'.cell? ⟨w.heap.size + 1, 1, none⟩ = some (.int .u8 (by_ : Int)) ∧ w'.cell? ⟨w.heap.size + 1, 2, none⟩ = some (.int .i64 stay) ∧ w.heap.size + 1 < w'.heap.size)
      (first | (with_reducible assumption) | (with_reducible exact bkD t0 t1 t2 htb) | (with_reducible exact bkE t0 t1 t2 htb) | (with_reducible refine bkA ?_; with_reducible assumption) | (with_reducible refine bkB ?_ b4; with_reducible assumption) | (with_reducible refine bkC ?_ ?_ <;> first | (with_reducible assumption) | omega))
      (first
        | (go_at_call 13; refine (HT.out _).mono ?_; rintro e w6 ⟨T, rfl, hTl, b4⟩; have hSa := bkB (by with_reducible assumption) b4; (try (have hz4 := bkZ b4; have z0 := (lit_cell hz4 0).trans rfl; have z1 := (lit_cell hz4 1).trans rfl; have z2 := (lit_cell hz4 2).trans rfl; have zf0 := lit_free hz4 0; have zf1 := lit_free hz4 1; have zf2 := lit_free hz4 2))))
    all_goals go_wp2
    all_goals go_meet
    all_goals try rw [Hm3.out]
    all_goals
      first
        | exact ⟨_, T, rfl, Lib.hid (Nat.le_trans hTl HAL.out), Lib.hid ⟨X.out.next (bk_endA b4 _).1, (bk_endA b4 _).2⟩⟩
        | exact ⟨_, T, rfl, Lib.hid (Nat.le_trans hTl HAL.out), Lib.hid ⟨X.out.next (bk_endB b4 _ _ _).1, (bk_endB b4 _ _ _).2⟩⟩
  case rest =>
  obtain ⟨B, T, rfl, HTL, X⟩ := hcut
  have HE := Lib.hid (show ∀ k : Nat, k < 3 → ∃ U : (List UInt8), (#[.string ⟨(S.take 5000).toArray⟩, .string ⟨A.toArray⟩, .string ⟨T.toArray⟩] : Array Value)[k]? = some (.string ⟨U.toArray⟩) ∧ U.length ≤ 1000000 from fun k hk => by
    obtain rfl | rfl | rfl : k = 0 ∨ k = 1 ∨ k = 2 := by omega
    · exact ⟨_, rfl, HSL.out⟩
    · exact ⟨_, rfl, HAL.out⟩
    · exact ⟨_, rfl, HTL.out⟩)
  clear t0 t1 t2 htb HNE HSL HAL HTL HT Hm3 hm1 m0 m1 m2
  generalize (#[.string ⟨(S.take 5000).toArray⟩, .string ⟨A.toArray⟩, .string ⟨T.toArray⟩] : Array Value) = AR at *
  have HSC := Lib.hid (fun (ya yb : CertE) wz hr hL ha hb => samecert_any ya yb wz hr hL ha hb)
  go_upto_if 37 with fail
  go_cut [10, 11] from 17 (fun s10 s11 wx => Hid (Wb w y #[.int .u16 (at_ : Int), .int .u8 (by_ : Int), .int .i64 stay] wx ∧ wx.heap[B]? = some (.cells AR 32 (0, 0))))
  case first =>
    rcases HS2.out with ⟨rfl, hne⟩ | ⟨rfl, rfl⟩
    · go_upto_region 7 with fail
      go_upto_region 8 with (go_at_call 27; refine (HBK.out rfl _ X.out.1.k).mono ?_; rintro e w7 ⟨⟨y2, hy2, rfl, hf2⟩, b7⟩; have X := Lib.hid (And.intro (X.out.1.next b7) ((b7.block B (lit_lt X.out.2)).trans X.out.2)); have HM2 := Lib.hid hf2.mem; have HR2 := Lib.hid hy2; clear hf2 hy2 b7)
      change Code.wp _ _ _ _ (w7.alloc (.cells (certQ y2).toArray 60))
      have hb8 := by0 w7 (.cells (certQ y2).toArray 60)
      have hy8 := heap_alloc_new w7 (.cells (certQ y2).toArray 60)
      have X := Lib.hid (And.intro (X.out.1.next hb8) ((hb8.block B (lit_lt X.out.2)).trans X.out.2))
      have HM2 := Lib.hid (HM2.out.below hb8)
      generalize w7.alloc (.cells (certQ y2).toArray 60) = w8 at *
      generalize w7.heap.size = Y at *
      have HSM := Lib.hid (HSC.out y y2 w8 (HYR.out.trans HR2.out.symm) HYL.out X.out.1.m HM2.out)
      have hx8 := X.out.1.x
      simp only [certQ] at hx8 hy8
      have c0 := (lit_cell hx8 0).trans rfl; have c1 := (lit_cell hx8 1).trans rfl; have c2 := (lit_cell hx8 2).trans rfl; have c3 := (lit_cell hx8 3).trans rfl; have c4 := (lit_cell hx8 4).trans rfl; have c5 := (lit_cell hx8 5).trans rfl
      have d0 := (lit_cell hy8 0).trans rfl; have d1 := (lit_cell hy8 1).trans rfl; have d2 := (lit_cell hy8 2).trans rfl; have d3 := (lit_cell hy8 3).trans rfl; have d4 := (lit_cell hy8 4).trans rfl; have d5 := (lit_cell hy8 5).trans rfl
      clear hx8 hy8 hb8
      go_wp2_with (go_at_call 38; refine HSM.out.mono ?_; rintro e w9 ⟨rfl, b9⟩; have X := Lib.hid (And.intro (X.out.1.next b9) ((b9.block B (lit_lt X.out.2)).trans X.out.2)); clear b9)
      go_meet
      exact X
    · go_wp2
      go_meet
      exact X
  case rest =>
  have X := hcut
  clear hcut HBK HS2 HYL HYR
  go_wp2
  go_loopw [12, 13, 14, 15, 16] (fun s12 s13 s14 s15 s16 wr => ∃ k : Nat, k ≤ 3 ∧ s12 = .int .i64 (k : Int) ∧ Hid (Wb w y #[.int .u16 (at_ : Int), .int .u8 (by_ : Int), .int .i64 stay] wr ∧ wr.heap[B]? = some (.cells AR 32 (0, 0)))) (fun s12 _ _ _ _ _ => 3 - (intOf s12).toNat)
  case atStart => exact ⟨0, by omega, rfl, X⟩
  case round =>
    clear X
    obtain ⟨k, hk, rfl, X⟩ := hrel
    by_cases hlt : k < 3
    · obtain ⟨U, hU, hUl⟩ := HE.out k hlt
      have hcell := (lit_cell X.out.2 k).trans hU
      have HP := Lib.hid (HRD.out U hUl wr X.out.1.k)
      have k0 : (0 : Int) ≤ (k : Int) := by omega
      have k1 : (k : Int) < 3 := by omega
      have HU := Lib.hid hU
      clear hU hUl
      go_upto_region 16 with (go_at_call 27; refine HP.out.mono ?_; rintro e w5 ⟨q, v, rfl, HQ⟩)
      change Code.wp _ _ _ _ (w5.alloc (.cells (certQ q).toArray 60))
      have hb8 := by0 w5 (.cells (certQ q).toArray 60)
      have hy8 := heap_alloc_new w5 (.cells (certQ q).toArray 60)
      have hb58 := HQ.out.1
      have X := Lib.hid (And.intro ((X.out.1.next hb58).next hb8) ((hb8.block B (Nat.lt_of_lt_of_le (lit_lt X.out.2) hb58.size)).trans ((hb58.block B (lit_lt X.out.2)).trans X.out.2)))
      have HMQ := Lib.hid (HQ.out.2.1.below hb8)
      have HV := Lib.hid HQ.out.2.2
      generalize w5.alloc (.cells (certQ q).toArray 60) = w8 at *
      generalize w5.heap.size = Y at *
      have HY8 := Lib.hid hy8
      clear hb8 hy8 hb58 HQ hcell HP
      rcases HV.out with ⟨rfl, hpq, hlq⟩ | ⟨⟨g, rfl⟩, rfl⟩
      · have HW1 := Lib.hid (wcert_any q w8 X.out.1.k.g (cert_in_of hpq hlq) HMQ.out)
        rw [hlq] at HW1
        have hy8 := HY8.out
        simp only [certQ] at hy8
        have d0 := (lit_cell hy8 0).trans rfl; have d1 := (lit_cell hy8 1).trans rfl; have d2 := (lit_cell hy8 2).trans rfl; have d3 := (lit_cell hy8 3).trans rfl; have d4 := (lit_cell hy8 4).trans rfl; have d5 := (lit_cell hy8 5).trans rfl
        have HRL := Lib.hid HU.out
        clear hy8 hpq hlq HV HMQ HY8
        go_upto_region 20 with (go_at_call 25; refine HW1.out.mono ?_; rintro e w9 ⟨rfl, b9⟩; have X := Lib.hid (And.intro (X.out.1.next b9) ((b9.block B (lit_lt X.out.2)).trans X.out.2)); have hcell := (lit_cell X.out.2 k).trans HU.out; clear b9)
        go_wp2
        go_roundw
        case rel => exact ⟨k + 1, by omega, by go_num, X⟩
        case measure => simp [intOf]; omega
      · have HSM := Lib.hid (HSC.out zCertE zCertE w8 rfl zCertE_l (zCertE_m _) (zCertE_m _))
        have hy8 := HY8.out
        simp only [certQ] at hy8
        have d0 := (lit_cell hy8 0).trans rfl; have d1 := (lit_cell hy8 1).trans rfl; have d2 := (lit_cell hy8 2).trans rfl; have d3 := (lit_cell hy8 3).trans rfl; have d4 := (lit_cell hy8 4).trans rfl; have d5 := (lit_cell hy8 5).trans rfl
        clear hy8 HV HMQ HY8
        go_wp2_with (go_at_call 38; refine HSM.out.mono ?_; rintro e w9 ⟨rfl, b9⟩; have X := Lib.hid (And.intro (X.out.1.next b9) ((b9.block B (lit_lt X.out.2)).trans X.out.2)); clear b9)
        go_roundw
        case rel => exact ⟨k + 1, by omega, by go_num, X⟩
        case measure => simp [intOf]; omega
    · have k1 : ¬ (k : Int) < 3 := by omega
      clear hlt hk
      go_wp2
      go_ret
      exact ⟨rfl, X.out.1.k.o⟩
end Go.Proofs.YtbkiijndhjmkdaaGreatDoor
