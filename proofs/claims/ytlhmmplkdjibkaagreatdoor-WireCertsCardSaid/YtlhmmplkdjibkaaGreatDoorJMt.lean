/- The law's WireCerts. -/
import Derived.Test.YtlhmmplkdjibkaaGreatDoorJ28
import Derived.Test.YtlhmmplkdjibkaaGreatDoorJ27
import Derived.Test.YtlhmmplkdjibkaaGreatDoorJMs
import Derived.Test.YtlhmmplkdjibkaaGreatDoorJMp
import Derived.Test.YtlhmmplkdjibkaaGreatDoorJZg
namespace Go.Proofs.YtlhmmplkdjibkaaGreatDoor
open Go.RowKit

theorem textsTo_b (L : List (List UInt8)) (k : Nat) : (textsTo L k).length ≤ k ∧ ∀ x ∈ textsTo L k, x.length ≤ 40 := by
  refine ⟨by rw [textsTo, List.length_map, List.length_take]; omega, fun x hx => ?_⟩
  unfold textsTo at hx
  obtain ⟨y, _, rfl⟩ := List.mem_map.1 hx
  rw [List.length_take]; omega
theorem certB_of {x : CertR} {y : CertE} (hy : y.r = certTo x) (hI : CertIn y) : CertB y := by
  have h1 : y.sp = textsTo x.slotProof 20 := congrArg (·.slotProof) hy
  have h2 : y.pp = textsTo x.partProof 20 := congrArg (·.partProof) hy
  have h3 : y.coins = x.coins.take 650 := congrArg (·.coins) hy
  have h4 : y.rl.map (·.r) = (x.reveals.take 8).map revTo := congrArg (·.reveals) hy
  have h5 : y.rl.length ≤ 8 := by
    have := congrArg List.length h4
    simp only [List.length_map, List.length_take] at this
    omega
  refine ⟨by have := (textsTo_b x.slotProof 20).1; rw [h1]; omega, by have := (textsTo_b x.partProof 20).1; rw [h2]; omega, by rw [h3, List.length_take]; omega, by omega, fun z hz => ⟨?_, hI.r.2 z hz⟩⟩
  have hz2 : z.r ∈ (x.reveals.take 8).map revTo := by rw [← h4]; exact List.mem_map.2 ⟨z, hz, rfl⟩
  obtain ⟨r0, _, e⟩ := List.mem_map.1 hz2
  have hi := (hI.r.2 z hz).s.g.i
  rw [← e] at hi ⊢
  have w1 := textsTo_b r0.slot.sig.wots 70
  have w2 := textsTo_b r0.slot.sig.path 20
  exact ⟨hi, Nat.le_trans w1.1 (by decide), Nat.le_trans w2.1 (by decide), fun t ht => Nat.le_trans (w1.2 t ht) (by decide), fun t ht => Nat.le_trans (w2.2 t ht) (by decide)⟩
theorem cert_lens {S : (List UInt8)} {q : CertR} {f : Nat × Nat} (h : RdAns certC.get S zCert q f) : CertL q := by
  unfold RdAns at h
  cases hw : wholeG certC.get S with
  | error e => rw [hw] at h; rw [h.1]; exact zCertE_l
  | ok p =>
    rw [hw] at h
    rw [h.1]
    obtain ⟨hp, hl⟩ := cert_laid hw
    have hm := may_cert hl
    unfold mayCertB at hm
    simp only [Bool.and_eq_true, decide_eq_true_eq, List.all_eq_true] at hm
    obtain ⟨⟨⟨⟨⟨h0, h1⟩, h2⟩, h3⟩, h4⟩, h5⟩ := hm
    have m1 : 10240 ≤ maxLen := by decide
    refine ⟨by omega, by omega, Nat.le_trans ((mayB_iff _ _).1 h2).1 m1, Nat.le_trans ((mayB_iff _ _).1 h1).1 m1, fun r hr => ?_⟩
    have h6 := h5 r hr
    unfold mayRevB maySigB at h6
    simp only [Bool.and_eq_true] at h6
    have w1 := ((mayB_iff _ _).1 h6.2.2).1
    have w2 := ((mayB_iff _ _).1 h6.2.1).1
    exact ⟨by omega, by omega⟩
theorem cert_pr (S : (List UInt8)) (w : World) (hG : GlobW w) (hS : S.length ≤ 1000000) (hgl : 4 ≤ w.heap.size) :
    Calls Tryz.prog 8 #[.string ⟨S.toArray⟩] w fun e w' => ∃ (y : CertE) (v : Value) (f : Nat × Nat), e = .returned (.tuple #[certV y, v]) ∧ Hid (PrAns certC.get S zCert y.r f v w w' ∧ CertM y w') := by
  refine (wreadCert_any S w hG hS hgl).mono fun e w' hA => ?_
  rw [AnsCert] at hA
  rcases hr : wholeG certC.get S with ⟨c, b⟩ | p
  · rw [hr] at hA
    obtain ⟨hc, ⟨v, rfl, hv⟩, hb⟩ := hA
    exact ⟨zCertE, v, (c, b), rfl, Lib.hid ⟨⟨by unfold RdAns; rw [hr]; exact ⟨rfl, rfl, by omega⟩, hv, hb⟩, zCertE_m _⟩⟩
  · rw [hr] at hA
    obtain ⟨⟨x, hx, rfl, hm⟩, hb⟩ := hA
    exact ⟨x, .nilIface, (0, 0), rfl, Lib.hid ⟨⟨by unfold RdAns; rw [hr]; exact ⟨hx, rfl⟩, errV_nil _ _ _, hb⟩, hm.mem⟩⟩
set_option maxRecDepth 100000 in
set_option maxHeartbeats 8000000 in
theorem certs_any (x : CertE) (S : (List UInt8)) (at_ by_ : Nat) (stay : Int) (w : World) (hg : GlobW w) (hgl : 4 ≤ w.heap.size) (hp : CertP x.r) (hM : CertM x w) (hs : CertS x) (hS : S.length ≤ maxLen) (hat : at_ < 65536) (hby : by_ < 256) :
    Calls Tryz.prog 3 #[certV x, .string ⟨S.toArray⟩, .agg #[.int .u16 (at_ : Int), .int .u8 (by_ : Int), .int .i64 stay]] w fun e w' => e = .returned (.bool true) ∧ Below w.heap.size w w' := by
  have HW0 := Lib.hid (show Wk w w from ⟨hg, hgl, Below.refl _ _⟩)
  have HWO := Lib.hid (fun wz (h : Wk w wz) => worksw_any wz h.g h.gl)
  have HC := Lib.hid (fun wz (h : Wk w wz) => cutcert2_any x wz (hM.below h.o) hs)
  have HXC : Hid (x.coins = [] ∨ ∃ b off, x.ca = some ⟨b, off, none⟩ ∧ b < w.heap.size) := Lib.hid (by
    rcases hM.co with h | ⟨b, off, h1, h2, _⟩
    · exact .inl h
    · exact .inr ⟨b, off, h1, h2⟩)
  have HIN := Lib.hid (fun (y : CertE) (hy : y.r = certTo x.r) => certTo_in hp hy)
  have hal := certTo_len x.r
  have HT := Lib.hid (fun wz => turned_any (layCertP (certTo x.r)).1 at_ by_ stay wz (by omega) hat hby)
  have HRD := Lib.hid (fun U (hU : U.length ≤ 60000) wz (h : Wk w wz) => cert_pr U wz h.g (by omega) h.gl)
  obtain ⟨M, hm1, hm2, hm3⟩ := cut5000 S
  have Hm3 := Lib.hid hm3
  have HSL := Lib.hid (show (S.take 5000).length ≤ 60000 by rw [List.length_take]; omega)
  have HAL := Lib.hid (show (layCertP (certTo x.r)).1.length ≤ 60000 by omega)
  have m0 : (0 : Int) ≤ (M : Int) := by omega
  have m1 : (M : Int) ≤ (S.length : Int) := by omega
  have m2 : (S.length : Int) ≤ 9223372036854775807 := by unfold maxLen at hS; omega

  have K := Lib.hid (show Wk w ((w.alloc (.cells (certQ x).toArray 27)).alloc (.cells #[.int .u16 (at_ : Int), .int .u8 (by_ : Int), .int .i64 stay] 30)) from (show Wk w w from ⟨hg, hgl, Below.refl _ _⟩).next ((by0 w _).alloc (by simp) _))
  have HX := Lib.hid (show ((w.alloc (.cells (certQ x).toArray 27)).alloc (.cells #[.int .u16 (at_ : Int), .int .u8 (by_ : Int), .int .i64 stay] 30)).heap[w.heap.size]? = some (.cells (certQ x).toArray 27 (0, 0)) from lit_old _ (heap_alloc_new w _))
  have HTB := Lib.hid (show ((w.alloc (.cells (certQ x).toArray 27)).alloc (.cells #[.int .u16 (at_ : Int), .int .u8 (by_ : Int), .int .i64 stay] 30)).heap[w.heap.size + 1]? = some (.cells #[.int .u16 (at_ : Int), .int .u8 (by_ : Int), .int .i64 stay] 30 (0, 0)) from by
    rw [show w.heap.size + 1 = (w.alloc (.cells (certQ x).toArray 27)).heap.size by simp]; exact heap_alloc_new _ _)
  clear hg hgl hp hM hs hS hat hby hal hm2 hm3
  go_enter Tryz.func3, Tryz.ntmps3
  go_upto_region 1 with fail
  change Code.wp _ _ _ _ ((w.alloc (.cells (certQ x).toArray 27)).alloc (.cells #[.int .u16 (at_ : Int), .int .u8 (by_ : Int), .int .i64 stay] 30))
  generalize (w.alloc (.cells (certQ x).toArray 27)).alloc (.cells #[.int .u16 (at_ : Int), .int .u8 (by_ : Int), .int .i64 stay] 30) = w1 at *
  have hx2 := HX.out
  simp only [certQ] at hx2
  have c0 := (lit_cell hx2 0).trans rfl; have c1 := (lit_cell hx2 1).trans rfl; have c2 := (lit_cell hx2 2).trans rfl; have c3 := (lit_cell hx2 3).trans rfl; have c4 := (lit_cell hx2 4).trans rfl; have c5 := (lit_cell hx2 5).trans rfl
  have HZ2 : Hid (w.heap.size + 1 < w1.heap.size) := Lib.hid (lit_lt HTB.out)
  clear hx2
  go_upto_region 2 with (go_at_call 4; refine (HC.out _ K.out).mono ?_; rintro e w3 ⟨⟨y, hy, rfl, hm, hf, hca⟩, b3⟩; have HY := Lib.hid (And.intro hy (And.intro hm (And.intro hf hca))); clear hy hm hf hca; have K := Lib.hid (K.out.next b3); have HX := Lib.hid ((b3.block _ (lit_lt HX.out)).trans HX.out); have HTB := Lib.hid ((b3.block _ (lit_lt HTB.out)).trans HTB.out); clear b3; have hx3 := HX.out; simp only [certQ] at hx3; have d0 := (lit_cell hx3 0).trans rfl; have d1 := (lit_cell hx3 1).trans rfl; have d2 := (lit_cell hx3 2).trans rfl; have d3 := (lit_cell hx3 3).trans rfl; have d4 := (lit_cell hx3 4).trans rfl; have d5 := (lit_cell hx3 5).trans rfl; have g0 := lit_free hx3 0; have g1 := lit_free hx3 1; have g2 := lit_free hx3 2; have g3 := lit_free hx3 3; have g4 := lit_free hx3 4; have g5 := lit_free hx3 5)
  have hx4 := lit_set (k := 5) (.slice y.pa y.pp.length y.pc) (lit_set (k := 4) (.slice y.sa y.sp.length y.sc) (lit_set (k := 3) (.slice y.ca y.coins.length y.cc) (lit_set (k := 2) (.slice y.ra y.rl.length y.rc) (lit_set (k := 1) (.int .u64 (y.signed : Int)) (lit_set (k := 0) (.string ⟨y.root.toArray⟩) (hx3))))))
  have ho4 : Only w.heap.size w3 (((((((w3).setCell ⟨w.heap.size, 0, none⟩ (.string ⟨y.root.toArray⟩)).setCell ⟨w.heap.size, 1, none⟩ (.int .u64 (y.signed : Int))).setCell ⟨w.heap.size, 2, none⟩ (.slice y.ra y.rl.length y.rc)).setCell ⟨w.heap.size, 3, none⟩ (.slice y.ca y.coins.length y.cc)).setCell ⟨w.heap.size, 4, none⟩ (.slice y.sa y.sp.length y.sc)).setCell ⟨w.heap.size, 5, none⟩ (.slice y.pa y.pp.length y.pc)) := ((((((Only.refl w.heap.size w3).trans (Only.set w.heap.size 0 (.string ⟨y.root.toArray⟩) (w3))).trans (Only.set w.heap.size 1 (.int .u64 (y.signed : Int)) ((w3).setCell ⟨w.heap.size, 0, none⟩ (.string ⟨y.root.toArray⟩)))).trans (Only.set w.heap.size 2 (.slice y.ra y.rl.length y.rc) (((w3).setCell ⟨w.heap.size, 0, none⟩ (.string ⟨y.root.toArray⟩)).setCell ⟨w.heap.size, 1, none⟩ (.int .u64 (y.signed : Int))))).trans (Only.set w.heap.size 3 (.slice y.ca y.coins.length y.cc) ((((w3).setCell ⟨w.heap.size, 0, none⟩ (.string ⟨y.root.toArray⟩)).setCell ⟨w.heap.size, 1, none⟩ (.int .u64 (y.signed : Int))).setCell ⟨w.heap.size, 2, none⟩ (.slice y.ra y.rl.length y.rc)))).trans (Only.set w.heap.size 4 (.slice y.sa y.sp.length y.sc) (((((w3).setCell ⟨w.heap.size, 0, none⟩ (.string ⟨y.root.toArray⟩)).setCell ⟨w.heap.size, 1, none⟩ (.int .u64 (y.signed : Int))).setCell ⟨w.heap.size, 2, none⟩ (.slice y.ra y.rl.length y.rc)).setCell ⟨w.heap.size, 3, none⟩ (.slice y.ca y.coins.length y.cc)))).trans (Only.set w.heap.size 5 (.slice y.pa y.pp.length y.pc) ((((((w3).setCell ⟨w.heap.size, 0, none⟩ (.string ⟨y.root.toArray⟩)).setCell ⟨w.heap.size, 1, none⟩ (.int .u64 (y.signed : Int))).setCell ⟨w.heap.size, 2, none⟩ (.slice y.ra y.rl.length y.rc)).setCell ⟨w.heap.size, 3, none⟩ (.slice y.ca y.coins.length y.cc)).setCell ⟨w.heap.size, 4, none⟩ (.slice y.sa y.sp.length y.sc)))
  have hk4 : ∀ q, q ≠ w.heap.size → (((((((w3).setCell ⟨w.heap.size, 0, none⟩ (.string ⟨y.root.toArray⟩)).setCell ⟨w.heap.size, 1, none⟩ (.int .u64 (y.signed : Int))).setCell ⟨w.heap.size, 2, none⟩ (.slice y.ra y.rl.length y.rc)).setCell ⟨w.heap.size, 3, none⟩ (.slice y.ca y.coins.length y.cc)).setCell ⟨w.heap.size, 4, none⟩ (.slice y.sa y.sp.length y.sc)).setCell ⟨w.heap.size, 5, none⟩ (.slice y.pa y.pp.length y.pc)).heap[q]? = w3.heap[q]? := fun q hq => (lit_far _ hq).trans ((lit_far _ hq).trans ((lit_far _ hq).trans ((lit_far _ hq).trans ((lit_far _ hq).trans (lit_far _ hq)))))
  have hs4 : (((((((w3).setCell ⟨w.heap.size, 0, none⟩ (.string ⟨y.root.toArray⟩)).setCell ⟨w.heap.size, 1, none⟩ (.int .u64 (y.signed : Int))).setCell ⟨w.heap.size, 2, none⟩ (.slice y.ra y.rl.length y.rc)).setCell ⟨w.heap.size, 3, none⟩ (.slice y.ca y.coins.length y.cc)).setCell ⟨w.heap.size, 4, none⟩ (.slice y.sa y.sp.length y.sc)).setCell ⟨w.heap.size, 5, none⟩ (.slice y.pa y.pp.length y.pc)).heap.size = w3.heap.size := by simp
  change Code.wp _ _ _ _ (((((((w3).setCell ⟨w.heap.size, 0, none⟩ (.string ⟨y.root.toArray⟩)).setCell ⟨w.heap.size, 1, none⟩ (.int .u64 (y.signed : Int))).setCell ⟨w.heap.size, 2, none⟩ (.slice y.ra y.rl.length y.rc)).setCell ⟨w.heap.size, 3, none⟩ (.slice y.ca y.coins.length y.cc)).setCell ⟨w.heap.size, 4, none⟩ (.slice y.sa y.sp.length y.sc)).setCell ⟨w.heap.size, 5, none⟩ (.slice y.pa y.pp.length y.pc))
  generalize ((((((w3).setCell ⟨w.heap.size, 0, none⟩ (.string ⟨y.root.toArray⟩)).setCell ⟨w.heap.size, 1, none⟩ (.int .u64 (y.signed : Int))).setCell ⟨w.heap.size, 2, none⟩ (.slice y.ra y.rl.length y.rc)).setCell ⟨w.heap.size, 3, none⟩ (.slice y.ca y.coins.length y.cc)).setCell ⟨w.heap.size, 4, none⟩ (.slice y.sa y.sp.length y.sc)).setCell ⟨w.heap.size, 5, none⟩ (.slice y.pa y.pp.length y.pc) = w4 at *
  have X := Lib.hid (show Wb w y #[.int .u16 (at_ : Int), .int .u8 (by_ : Int), .int .i64 stay] w4 from ⟨⟨HW0.out.g.next (K.out.o.trans (ho4.below (Nat.le_refl _) K.out.o.size)), by rw [hs4]; exact K.out.gl, K.out.o.trans (ho4.below (Nat.le_refl _) K.out.o.size)⟩, hx4, (ho4.block _ (lit_lt HTB.out) (by omega)).trans HTB.out, cert_putM HY.out.2.1 HY.out.2.2.1 (by have := HZ2.out; omega) (by
    have h1 : y.coins = (x.coins.take 650) := congrArg (·.coins) HY.out.1
    rcases HXC.out with h | ⟨b, off, h2, h3⟩
    · exact .inl (by rw [h1, h]; rfl)
    · exact .inr ⟨b, off, by rw [HY.out.2.2.2]; exact h2, h3⟩) hk4 (by rw [hs4]; exact Nat.le_refl _)⟩)
  have hyr := HY.out.1
  have HA := Lib.hid (show ∀ wz, Wb w y #[.int .u16 (at_ : Int), .int .u8 (by_ : Int), .int .i64 stay] wz → Calls Tryz.prog 5 #[certV y] wz (fun e w' => e = .returned (.tuple #[.string ⟨(layCertP (certTo x.r)).1.toArray⟩, .int .i64 (layCertP (certTo x.r)).2]) ∧ Below wz.heap.size wz w') from fun wz h => by
    have h1 := wcert_any y wz h.k.g (HIN.out y hyr) h.m
    rw [hyr] at h1
    exact h1)
  have HRC := Lib.hid (show ∀ wz, Wb w y #[.int .u16 (at_ : Int), .int .u8 (by_ : Int), .int .i64 stay] wz → Calls Tryz.prog 6 #[certV y] wz (fun e w' => e = .returned (.tuple #[.string ⟨(layCertP (certTo x.r)).1.toArray⟩, .int .i64 (layCertP (certTo x.r)).2]) ∧ Below wz.heap.size wz w') from fun wz h => by
    have h1 := rCert_any y wz h.m (certB_of hyr (HIN.out y hyr)) (HIN.out y hyr)
    rw [hyr] at h1
    exact h1)
  generalize certTo x.r = R at *
  generalize (layCertP R).1 = A at *
  generalize (layCertP R).2 = c at *
  clear hyr HY K HX HTB HC HXC HIN HZ2 hx4 ho4 hs4 hk4 hx3 d0 d1 d2 d3 d4 d5 g0 g1 g2 g3 g4 g5 c0 c1 c2 c3 c4 c5
  have hx4 := X.out.x
  simp only [certQ] at hx4
  have c0 := (lit_cell hx4 0).trans rfl; have c1 := (lit_cell hx4 1).trans rfl; have c2 := (lit_cell hx4 2).trans rfl; have c3 := (lit_cell hx4 3).trans rfl; have c4 := (lit_cell hx4 4).trans rfl; have c5 := (lit_cell hx4 5).trans rfl
  clear hx4
  go_upto_region 3 with (go_at_call 5; refine (HA.out _ X.out).mono ?_; rintro e w5 ⟨rfl, b5⟩; have X := Lib.hid (X.out.next b5); clear b5)
  clear c0 c1 c2 c3 c4 c5 HA
  have hx4 := X.out.x
  simp only [certQ] at hx4
  have c0 := (lit_cell hx4 0).trans rfl; have c1 := (lit_cell hx4 1).trans rfl; have c2 := (lit_cell hx4 2).trans rfl; have c3 := (lit_cell hx4 3).trans rfl; have c4 := (lit_cell hx4 4).trans rfl; have c5 := (lit_cell hx4 5).trans rfl
  clear hx4
  go_upto_region 6 with (go_at_call 6; refine (HRC.out _ X.out).mono ?_; rintro e w5 ⟨rfl, b5⟩; have X := Lib.hid (X.out.next b5); clear b5)
  clear c0 c1 c2 c3 c4 c5 HRC
  have t0 : w5.cell? ⟨w.heap.size + 1, 0, none⟩ = some (.int .u16 (at_ : Int)) := (lit_cell X.out.t 0).trans rfl
  have t1 : w5.cell? ⟨w.heap.size + 1, 1, none⟩ = some (.int .u8 (by_ : Int)) := (lit_cell X.out.t 1).trans rfl
  have t2 : w5.cell? ⟨w.heap.size + 1, 2, none⟩ = some (.int .i64 stay) := (lit_cell X.out.t 2).trans rfl
  have htb : w.heap.size + 1 < w5.heap.size := lit_lt X.out.t
  have HNE := Lib.hid (show w5.heap.size ≠ w.heap.size + 1 by omega)
  go_cut [11] from 17 (fun s11 wx => ∃ (B : Nat) (T : (List UInt8)), s11 = .pointer (some ⟨B, 0, none⟩) ∧ Hid (T.length ≤ 60000) ∧ Hid (Wb w y #[.int .u16 (at_ : Int), .int .u8 (by_ : Int), .int .i64 stay] wx ∧ wx.heap[B]? = some (.cells #[.string ⟨(S.take 5000).toArray⟩, .string ⟨A.toArray⟩, .string ⟨T.toArray⟩] 36 (0, 0))))
  case first =>
    go_region_held3 (fun w' => w'.cell? ⟨w.heap.size + 1, 0, none⟩ = some (.int .u16 (at_ : Int)) ∧ w'.cell? ⟨w.heap.size + 1, 1, none⟩ = some (.int .u8 (by_ : Int)) ∧ w'.cell? ⟨w.heap.size + 1, 2, none⟩ = some (.int .i64 stay) ∧ w.heap.size + 1 < w'.heap.size)
      (first | (with_reducible assumption) | (with_reducible exact bkD t0 t1 t2 htb) | (with_reducible exact bkE t0 t1 t2 htb) | (with_reducible refine bkA ?_; with_reducible assumption) | (with_reducible refine bkB ?_ b4; with_reducible assumption) | (with_reducible refine bkC ?_ ?_ <;> first | (with_reducible assumption) | omega))
      (first
        | (go_at_call 7; refine (HT.out _).mono ?_; rintro e w6 ⟨T, rfl, hTl, b4⟩; have hSa := bkB (by with_reducible assumption) b4; (try (have hz4 := bkZ b4; have z0 := (lit_cell hz4 0).trans rfl; have z1 := (lit_cell hz4 1).trans rfl; have z2 := (lit_cell hz4 2).trans rfl; have zf0 := lit_free hz4 0; have zf1 := lit_free hz4 1; have zf2 := lit_free hz4 2))))
    all_goals go_wp2
    all_goals go_meet
    all_goals try rw [Hm3.out]
    all_goals
      first
        | exact ⟨_, T, rfl, Lib.hid (Nat.le_trans hTl HAL.out), Lib.hid ⟨X.out.next (bk_endA b4 _).1, (bk_endA b4 _).2⟩⟩
        | exact ⟨_, T, rfl, Lib.hid (Nat.le_trans hTl HAL.out), Lib.hid ⟨X.out.next (bk_endB b4 _ _ _).1, (bk_endB b4 _ _ _).2⟩⟩
  case rest =>
  obtain ⟨B, T, rfl, HTL, X⟩ := hcut
  have HE := Lib.hid (show ∀ k : Nat, k < 3 → ∃ U : (List UInt8), (#[.string ⟨(S.take 5000).toArray⟩, .string ⟨A.toArray⟩, .string ⟨T.toArray⟩] : Array Value)[k]? = some (.string ⟨U.toArray⟩) ∧ U.length ≤ 60000 from fun k hk => by
    obtain rfl | rfl | rfl : k = 0 ∨ k = 1 ∨ k = 2 := by omega
    · exact ⟨_, rfl, HSL.out⟩
    · exact ⟨_, rfl, HAL.out⟩
    · exact ⟨_, rfl, HTL.out⟩)
  clear t0 t1 t2 htb HNE HSL HAL HTL HT Hm3 hm1 m0 m1 m2
  generalize (#[.string ⟨(S.take 5000).toArray⟩, .string ⟨A.toArray⟩, .string ⟨T.toArray⟩] : Array Value) = AR at *
  go_wp2
  go_loopw [12] (fun i wr => ∃ k : Nat, k ≤ 3 ∧ i = .int .i64 (k : Int) ∧ Hid (Wb w y #[.int .u16 (at_ : Int), .int .u8 (by_ : Int), .int .i64 stay] wr ∧ wr.heap[B]? = some (.cells AR 36 (0, 0))))
    (fun i _ => 3 - (intOf i).toNat)
  case atStart => exact ⟨0, by omega, rfl, X⟩
  case round =>
    obtain ⟨k, hk, rfl, X⟩ := hrel
    by_cases hlt : k < 3
    · obtain ⟨U, hU, hUl⟩ := HE.out k hlt
      have hcell := (lit_cell X.out.2 k).trans hU
      have HP := Lib.hid (HRD.out U hUl wr X.out.1.k)
      have HR := Lib.hid (fun wz => rReadcert_any U wz hUl)
      have k0 : (0 : Int) ≤ (k : Int) := by omega
      have k1 : (k : Int) < 3 := by omega
      have HU := Lib.hid hU
      clear hU hUl
      go_upto_region 11 with (go_at_call 8; refine HP.out.mono ?_; rintro e w5 ⟨q, v, f, rfl, HQ⟩)
      change Code.wp _ _ _ _ (w5.alloc (.cells (certQ q).toArray 27))
      have hb := by0 w5 (.cells (certQ q).toArray 27)
      have hy := heap_alloc_new w5 (.cells (certQ q).toArray 27)
      have hb2 := HQ.out.1.b.trans (hb.mono HQ.out.1.b.size)
      have X := Lib.hid (show Wb w y #[.int .u16 (at_ : Int), .int .u8 (by_ : Int), .int .i64 stay] _ ∧ _ from ⟨X.out.1.next hb2, (hb2.block B (lit_lt X.out.2)).trans X.out.2⟩)
      have V := Lib.hid (HQ.out.1.v.next hb)
      have SY := Lib.hid (HQ.out.2.below hb)
      have RA := Lib.hid HQ.out.1.r
      generalize w5.alloc (.cells (certQ q).toArray 27) = w6 at *
      generalize w5.heap.size = Y at *
      have HY := Lib.hid hy
      clear hb hb2 hy HQ HP hcell
      have hcell := (lit_cell X.out.2 k).trans HU.out
      go_upto_region 12 with (go_at_call 9; refine (HR.out _).mono ?_; rintro e w7 ⟨q2, f2, rfl, RB, b7⟩)
      obtain ⟨hq2, hf2⟩ := RA.out.det RB.out.1
      subst hf2
      obtain ⟨fc, fb⟩ := f2
      change Code.wp _ _ _ _ ((w7.alloc (.cells (certQ q2).toArray 27)).alloc (.cells #[.int .i64 (fc : Int), .int .i64 (fb : Int)] 42))
      have hb : Below w7.heap.size w7 ((w7.alloc (.cells (certQ q2).toArray 27)).alloc (.cells #[.int .i64 (fc : Int), .int .i64 (fb : Int)] 42)) := (by0 w7 _).alloc (by simp) _
      have hz1 : ((w7.alloc (.cells (certQ q2).toArray 27)).alloc (.cells #[.int .i64 (fc : Int), .int .i64 (fb : Int)] 42)).heap[w7.heap.size]? = some (.cells (certQ q2).toArray 27 (0, 0)) := lit_old _ (heap_alloc_new w7 _)
      have hz2 : ((w7.alloc (.cells (certQ q2).toArray 27)).alloc (.cells #[.int .i64 (fc : Int), .int .i64 (fb : Int)] 42)).heap[w7.heap.size + 1]? = some (.cells #[.int .i64 (fc : Int), .int .i64 (fb : Int)] 42 (0, 0)) := by
        rw [show w7.heap.size + 1 = (w7.alloc (.cells (certQ q2).toArray 27)).heap.size by simp]; exact heap_alloc_new _ _
      have hb2 := b7.trans (hb.mono b7.size)
      have X := Lib.hid (show Wb w y #[.int .u16 (at_ : Int), .int .u8 (by_ : Int), .int .i64 stay] _ ∧ _ from ⟨X.out.1.next hb2, (hb2.block B (lit_lt X.out.2)).trans X.out.2⟩)
      have hy := (hb2.block Y (lit_lt HY.out)).trans HY.out
      have SY := Lib.hid (SY.out.below hb2)
      have SZ := Lib.hid (RB.out.2.below hb)
      have hln := cert_lens RA.out
      have HSM := Lib.hid (rsamecert_any q q2 _ hq2.symm hln SY.out SZ.out)
      have HTD := Lib.hid (fun wz (hz : Below _ _ wz) => lawtold_any _ (fc : Int) (fb : Int) (fb : Int) v wz (X.out.1.k.next hz).g.u.e ((V.out.next hb2).next hz) (fun _ => rfl))
      generalize (w7.alloc (.cells (certQ q2).toArray 27)).alloc (.cells #[.int .i64 (fc : Int), .int .i64 (fb : Int)] 42) = w8 at *
      simp only [certQ] at hy hz1
      have y0 := (lit_cell hy 0).trans rfl; have y1 := (lit_cell hy 1).trans rfl; have y2 := (lit_cell hy 2).trans rfl; have y3 := (lit_cell hy 3).trans rfl; have y4 := (lit_cell hy 4).trans rfl; have y5 := (lit_cell hy 5).trans rfl
      have z0 := (lit_cell hz1 0).trans rfl; have z1 := (lit_cell hz1 1).trans rfl; have z2 := (lit_cell hz1 2).trans rfl; have z3 := (lit_cell hz1 3).trans rfl; have z4 := (lit_cell hz1 4).trans rfl; have z5 := (lit_cell hz1 5).trans rfl
      have HG2 := Lib.hid hz2
      clear hb hb2 hy hz1 hz2 b7 HY RA RB V HR HU hcell SY SZ hln hq2
      go_wp2_with (first
        | (go_at_call 10; with_reducible refine HSM.out.mono ?_; rintro e w9 ⟨rfl, b9⟩; have hg9 := (b9.block _ (lit_lt HG2.out)).trans HG2.out; have g0 := (lit_cell hg9 0).trans rfl; have g1 := (lit_cell hg9 1).trans rfl)
        | (go_at_call 11; with_reducible refine (HTD.out _ b9).mono ?_; rintro e w10 ⟨rfl, b10⟩))
      have b11 := b9.trans (b10.mono b9.size)
      have X := Lib.hid (show Wb w y #[.int .u16 (at_ : Int), .int .u8 (by_ : Int), .int .i64 stay] _ ∧ _ from ⟨X.out.1.next b11, (b11.block B (lit_lt X.out.2)).trans X.out.2⟩)
      clear b9 b10 b11
      go_wp2
      go_roundw
      case rel => exact ⟨k + 1, by omega, by go_num, X⟩
      case measure => simp [intOf]; omega
    · have k1 : ¬ (k : Int) < 3 := by omega
      go_wp2_with (go_at_call 12; refine (HWO.out _ X.out.1.k).mono ?_; rintro e w9 ⟨rfl, b9⟩)
      go_ret
      exact ⟨rfl, X.out.1.k.o.trans (b9.mono X.out.1.k.o.size)⟩
end Go.Proofs.YtlhmmplkdjibkaaGreatDoor
