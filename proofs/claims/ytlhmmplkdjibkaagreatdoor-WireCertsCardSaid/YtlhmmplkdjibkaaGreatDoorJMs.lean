/- The reference's ReadCert. -/
import Derived.Test.YtlhmmplkdjibkaaGreatDoorJ21
import Derived.Test.YtlhmmplkdjibkaaGreatDoorJMr
namespace Go.Proofs.YtlhmmplkdjibkaaGreatDoor
open Go.RowKit

theorem CertW.next {lo : Nat} {c : CertE} {w w' : World} (h : CertW lo c w) (hb : Below w.heap.size w w') : CertW lo c w' := h.keep (fun k _ hl => hb.block k hl) hb.size
theorem drew_facts3 {B X Y lo : Nat} {c : CertE} {w wf : World} {a b : Option Obj} (h : CertW lo c wf ∧ Below B w wf ∧ wf.heap[X]? = a ∧ wf.heap[Y]? = b) : CertW lo c wf.drew ∧ Below B w wf.drew ∧ wf.drew.heap[X]? = a ∧ wf.drew.heap[Y]? = b :=
  ⟨h.1.keep (fun _ _ _ => rfl) (Nat.le_refl _), h.2.1.drew, h.2.2.1, h.2.2.2⟩
set_option maxRecDepth 100000 in
set_option maxHeartbeats 4000000 in
theorem rReadcert_any (S : (List UInt8)) (w : World) (hS : S.length ≤ 60000) :
    Calls Tryz.prog 9 #[.string ⟨S.toArray⟩] w fun e w' => ∃ (c : CertE) (f : Nat × Nat), e = .returned (.tuple #[certV c, .agg #[.int .i64 (f.1 : Int), .int .i64 (f.2 : Int)]]) ∧ Hid (RdAns certC.get S zCert c.r f ∧ CertM c w') ∧ Below w.heap.size w w' := by
  have hb0 : Below w.heap.size w ((w.alloc (.cells #[.string ⟨#[]⟩, .int .u64 0, .slice none 0 0, .slice none 0 0, .slice none 0 0, .slice none 0 0] 27)).alloc (.cells #[.int .i64 0, .int .i64 0] 42)) := (by0 w _).alloc (by simp) _
  have hx0 : ((w.alloc (.cells #[.string ⟨#[]⟩, .int .u64 0, .slice none 0 0, .slice none 0 0, .slice none 0 0, .slice none 0 0] 27)).alloc (.cells #[.int .i64 0, .int .i64 0] 42)).heap[w.heap.size]? = some (.cells #[.string ⟨#[]⟩, .int .u64 0, .slice none 0 0, .slice none 0 0, .slice none 0 0, .slice none 0 0] 27 (0, 0)) := lit_old _ (heap_alloc_new w _)
  have hf0 : ((w.alloc (.cells #[.string ⟨#[]⟩, .int .u64 0, .slice none 0 0, .slice none 0 0, .slice none 0 0, .slice none 0 0] 27)).alloc (.cells #[.int .i64 0, .int .i64 0] 42)).heap[w.heap.size + 1]? = some (.cells #[.int .i64 0, .int .i64 0] 42 (0, 0)) := by
    rw [show w.heap.size + 1 = (w.alloc (.cells #[.string ⟨#[]⟩, .int .u64 0, .slice none 0 0, .slice none 0 0, .slice none 0 0, .slice none 0 0] 27)).heap.size by simp]; exact heap_alloc_new _ _
  have hz0 : ((w.alloc (.cells #[.string ⟨#[]⟩, .int .u64 0, .slice none 0 0, .slice none 0 0, .slice none 0 0, .slice none 0 0] 27)).alloc (.cells #[.int .i64 0, .int .i64 0] 42)).heap.size = w.heap.size + 2 := by simp
  have H0 := Lib.hid (And.intro hb0 (And.intro hx0 (And.intro hf0 hz0)))
  have HBG := Lib.hid (fun wz => cbegin_any S wz)
  have HP := Lib.hid (fun cb rb (wz : World) (h : Curs cb rb S (.ok 0) wz) => ccert_any hS h)
  have HEN := Lib.hid (fun cb rb st (wz : World) (h : Curs cb rb S st wz) => cend_any (by omega) h)
  clear hb0 hx0 hf0 hz0 hS
  go_enter Tryz.func9, Tryz.ntmps9
  go_upto_region 1 with fail
  change Code.wp _ _ _ _ ((w.alloc (.cells #[.string ⟨#[]⟩, .int .u64 0, .slice none 0 0, .slice none 0 0, .slice none 0 0, .slice none 0 0] 27)).alloc (.cells #[.int .i64 0, .int .i64 0] 42))
  generalize (w.alloc (.cells #[.string ⟨#[]⟩, .int .u64 0, .slice none 0 0, .slice none 0 0, .slice none 0 0, .slice none 0 0] 27)).alloc (.cells #[.int .i64 0, .int .i64 0] 42) = w1 at *
  go_wp2_with fail
  refine (HBG.out _).mono ?_
  rintro e w2 ⟨cb, rb, rfl, HC⟩
  have R := Lib.hid (show Rr w cb rb S (.ok 0) 27 #[.string ⟨#[]⟩, .int .u64 0, .slice none 0 0, .slice none 0 0, .slice none 0 0, .slice none 0 0] w2 from by
    obtain ⟨h1, h2, h3, h4⟩ := HC.out
    obtain ⟨g1, g2, g3, g4⟩ := H0.out
    exact ⟨h1, g1.trans (h4.mono g1.size), (h4.block _ (lit_lt g2)).trans g2, (h4.block _ (lit_lt g3)).trans g3, ⟨by omega, by omega⟩⟩)
  have HLT := Lib.hid (show cb < w2.heap.size ∧ rb < w2.heap.size ∧ w.heap.size + 1 < w2.heap.size from ⟨R.out.c.lt, R.out.c.rt, lit_lt R.out.f⟩)
  clear HC H0 HBG
  go_upto_region 3 with (go_at_call 30; refine (HP.out _ _ _ R.out.c).mono ?_; rintro e w3 ⟨c, rfl, HL, HQ⟩)
  change Code.wp _ _ _ _ (w3.alloc (.cells #[.string ⟨c.root.toArray⟩, .int .u64 (c.signed : Int), .slice c.ra c.rl.length c.rc, .slice c.ca c.coins.length c.cc, .slice c.sa c.sp.length c.sc, .slice c.pa c.pp.length c.pc] 27))
  have HG := Lib.hid HQ.out.g
  have R3 := Lib.hid (R.out.call HQ.out.o HQ.out.c)
  have HLM := Lib.hid (HL.out.next (by0 w3 (.cells #[.string ⟨c.root.toArray⟩, .int .u64 (c.signed : Int), .slice c.ra c.rl.length c.rc, .slice c.ca c.coins.length c.cc, .slice c.sa c.sp.length c.sc, .slice c.pa c.pp.length c.pc] 27)))
  have R := Lib.hid ((R.out.call HQ.out.o HQ.out.c).next (by0 w3 (.cells #[.string ⟨c.root.toArray⟩, .int .u64 (c.signed : Int), .slice c.ra c.rl.length c.rc, .slice c.ca c.coins.length c.cc, .slice c.sa c.sp.length c.sc, .slice c.pa c.pp.length c.pc] 27)))
  have HX := Lib.hid (heap_alloc_new w3 (.cells #[.string ⟨c.root.toArray⟩, .int .u64 (c.signed : Int), .slice c.ra c.rl.length c.rc, .slice c.ca c.coins.length c.cc, .slice c.sa c.sp.length c.sc, .slice c.pa c.pp.length c.pc] 27))
  have HPL := Lib.hid (show w3.heap.size ≠ cb ∧ w3.heap.size ≠ rb from ⟨Nat.ne_of_gt HQ.out.c.lt, Nat.ne_of_gt HQ.out.c.rt⟩)
  have HP3 := Lib.hid (show w.heap.size + 2 ≤ w3.heap.size from by have h1 := HQ.out.c.lt; have h2 := R3.out.lt; omega)
  generalize w3.alloc (.cells #[.string ⟨c.root.toArray⟩, .int .u64 (c.signed : Int), .slice c.ra c.rl.length c.rc, .slice c.ca c.coins.length c.cc, .slice c.sa c.sp.length c.sc, .slice c.pa c.pp.length c.pc] 27) = w4 at *
  generalize w3.heap.size = P at *
  clear HP HQ HL R3
  have HWR := Lib.hid (show RdLast _ S c.r _ from whole_run S certC.get c.r HG.out (fun f hf => by
    have k := R.out.c.nz f
    rw [hf] at k
    exact k rfl))
  generalize endS (runS S certC.get (.ok 0)) = st at *
  go_upto_region 4 with (go_at_call 31; refine (HEN.out _ _ _ _ R.out.c).mono ?_; rintro e w5 ⟨rfl, ho⟩)
  change Code.wp _ _ _ _ (w5.alloc (.cells #[.int .i64 ((lastS S st).1 : Int), .int .i64 ((lastS S st).2 : Int)] 42))
  have hb := by0 w5 (.cells #[.int .i64 ((lastS S st).1 : Int), .int .i64 ((lastS S st).2 : Int)] 42)
  have hx5 := (ho.block _ (lit_lt HX.out) HPL.out.1 HPL.out.2).trans HX.out
  have HX := Lib.hid ((hb.block _ (lit_lt hx5)).trans hx5)
  have HLP := Lib.hid (lit_lt hx5)
  have HLM := Lib.hid ((HLM.out.keep (fun k hk hl => ho.block k hl (by have := HLT.out.1; omega) (by have := HLT.out.2.1; omega)) ho.size).next hb)
  have HO := Lib.hid (show Below w.heap.size w _ ∧ _ ∧ _ from by
    have h1 := R.out.lt; have h2 := R.out.o
    have hz : Below w.heap.size w w5 := h2.trans ⟨ho.os, ho.tape, ho.output, ho.size, fun k hk => ho.block k (Nat.lt_of_lt_of_le hk h2.size) (by omega) (by omega)⟩
    have hr := (ho.block _ (lit_lt R.out.r) (by omega) (by omega)).trans R.out.r
    have hf := (ho.block _ (lit_lt R.out.f) (by omega) (by omega)).trans R.out.f
    exact ⟨hz.trans (hb.mono hz.size), (hb.block _ (lit_lt hr)).trans hr, (hb.block _ (lit_lt hf)).trans hf⟩)
  have HGF := Lib.hid (heap_alloc_new w5 (.cells #[.int .i64 ((lastS S st).1 : Int), .int .i64 ((lastS S st).2 : Int)] 42))
  clear hx5 ho hb HEN HG R HPL
  generalize w5.alloc (.cells #[.int .i64 ((lastS S st).1 : Int), .int .i64 ((lastS S st).2 : Int)] 42) = w6 at *
  have HPG := Lib.hid (show w.heap.size + 2 ≤ P ∧ w.heap.size + 2 ≤ w5.heap.size from ⟨HP3.out, by have h1 := HLP.out; have h2 := HP3.out; omega⟩)
  generalize w5.heap.size = G at *
  generalize lastS S st = F at *
  obtain ⟨fc, b⟩ := F
  simp only at HGF HWR
  have HNE := Lib.hid (show P ≠ w.heap.size ∧ G ≠ w.heap.size ∧ P ≠ w.heap.size + 1 ∧ G ≠ w.heap.size + 1 from by
    have h1 := HPG.out; omega)
  have n1 := HNE.out.1; have n2 := HNE.out.2.1; have n3 := HNE.out.2.2.1; have n4 := HNE.out.2.2.2
  have n5 := n1.symm; have n6 := n2.symm; have n7 := n3.symm; have n8 := n4.symm
  have g0 := (lit_cell HGF.out 0).trans rfl; have g1 := (lit_cell HGF.out 1).trans rfl
  have y0 := (lit_cell HX.out 0).trans rfl; have x0 := (lit_cell HO.out.2.1 0).trans rfl; have p0 := lit_free HO.out.2.1 0
  have y1 := (lit_cell HX.out 1).trans rfl; have x1 := (lit_cell HO.out.2.1 1).trans rfl; have p1 := lit_free HO.out.2.1 1
  have y2 := (lit_cell HX.out 2).trans rfl; have x2 := (lit_cell HO.out.2.1 2).trans rfl; have p2 := lit_free HO.out.2.1 2
  have y3 := (lit_cell HX.out 3).trans rfl; have x3 := (lit_cell HO.out.2.1 3).trans rfl; have p3 := lit_free HO.out.2.1 3
  have y4 := (lit_cell HX.out 4).trans rfl; have x4 := (lit_cell HO.out.2.1 4).trans rfl; have p4 := lit_free HO.out.2.1 4
  have y5 := (lit_cell HX.out 5).trans rfl; have x5 := (lit_cell HO.out.2.1 5).trans rfl; have p5 := lit_free HO.out.2.1 5
  have t0 := (lit_cell HO.out.2.2 0).trans rfl; have s0 := lit_free HO.out.2.2 0
  have t1 := (lit_cell HO.out.2.2 1).trans rfl; have s1 := lit_free HO.out.2.2 1
  by_cases hc : fc = 0
  · subst hc
    clear HGF HX HNE HPG HLP HP3
    go_upto_region 6 with fail
    go_region
    go_wp2
    clear x0 p0 y0 x1 p1 y1 x2 p2 y2 x3 p3 y3 x4 p4 y4 x5 p5 y5 t0 t1 s0 s1 g0 g1 n1 n2 n3 n4 n5 n6 n7 n8
    have KEY := drew_facts3 (show CertW w2.heap.size c (((((((((w6).setCell ⟨w.heap.size, 0, none⟩ (.string ⟨c.root.toArray⟩)).setCell ⟨w.heap.size, 1, none⟩ (.int .u64 (c.signed : Int))).setCell ⟨w.heap.size, 2, none⟩ (.slice c.ra c.rl.length c.rc)).setCell ⟨w.heap.size, 3, none⟩ (.slice c.ca c.coins.length c.cc)).setCell ⟨w.heap.size, 4, none⟩ (.slice c.sa c.sp.length c.sc)).setCell ⟨w.heap.size, 5, none⟩ (.slice c.pa c.pp.length c.pc)).setCell ⟨w.heap.size + 1, 0, none⟩ (.int .i64 0)).setCell ⟨w.heap.size + 1, 1, none⟩ (.int .i64 (b : Int))) ∧ Below w.heap.size w (((((((((w6).setCell ⟨w.heap.size, 0, none⟩ (.string ⟨c.root.toArray⟩)).setCell ⟨w.heap.size, 1, none⟩ (.int .u64 (c.signed : Int))).setCell ⟨w.heap.size, 2, none⟩ (.slice c.ra c.rl.length c.rc)).setCell ⟨w.heap.size, 3, none⟩ (.slice c.ca c.coins.length c.cc)).setCell ⟨w.heap.size, 4, none⟩ (.slice c.sa c.sp.length c.sc)).setCell ⟨w.heap.size, 5, none⟩ (.slice c.pa c.pp.length c.pc)).setCell ⟨w.heap.size + 1, 0, none⟩ (.int .i64 0)).setCell ⟨w.heap.size + 1, 1, none⟩ (.int .i64 (b : Int))) ∧ (((((((((w6).setCell ⟨w.heap.size, 0, none⟩ (.string ⟨c.root.toArray⟩)).setCell ⟨w.heap.size, 1, none⟩ (.int .u64 (c.signed : Int))).setCell ⟨w.heap.size, 2, none⟩ (.slice c.ra c.rl.length c.rc)).setCell ⟨w.heap.size, 3, none⟩ (.slice c.ca c.coins.length c.cc)).setCell ⟨w.heap.size, 4, none⟩ (.slice c.sa c.sp.length c.sc)).setCell ⟨w.heap.size, 5, none⟩ (.slice c.pa c.pp.length c.pc)).setCell ⟨w.heap.size + 1, 0, none⟩ (.int .i64 0)).setCell ⟨w.heap.size + 1, 1, none⟩ (.int .i64 (b : Int))).heap[w.heap.size]? = some (.cells #[.string ⟨c.root.toArray⟩, .int .u64 (c.signed : Int), .slice c.ra c.rl.length c.rc, .slice c.ca c.coins.length c.cc, .slice c.sa c.sp.length c.sc, .slice c.pa c.pp.length c.pc] 27 (0, 0)) ∧ (((((((((w6).setCell ⟨w.heap.size, 0, none⟩ (.string ⟨c.root.toArray⟩)).setCell ⟨w.heap.size, 1, none⟩ (.int .u64 (c.signed : Int))).setCell ⟨w.heap.size, 2, none⟩ (.slice c.ra c.rl.length c.rc)).setCell ⟨w.heap.size, 3, none⟩ (.slice c.ca c.coins.length c.cc)).setCell ⟨w.heap.size, 4, none⟩ (.slice c.sa c.sp.length c.sc)).setCell ⟨w.heap.size, 5, none⟩ (.slice c.pa c.pp.length c.pc)).setCell ⟨w.heap.size + 1, 0, none⟩ (.int .i64 0)).setCell ⟨w.heap.size + 1, 1, none⟩ (.int .i64 (b : Int))).heap[w.heap.size + 1]? = some (.cells #[.int .i64 0, .int .i64 (b : Int)] 42 (0, 0)) from by
      have hB := HO.out.1
      have hT : Only w.heap.size w6 (((((((w6).setCell ⟨w.heap.size, 0, none⟩ (.string ⟨c.root.toArray⟩)).setCell ⟨w.heap.size, 1, none⟩ (.int .u64 (c.signed : Int))).setCell ⟨w.heap.size, 2, none⟩ (.slice c.ra c.rl.length c.rc)).setCell ⟨w.heap.size, 3, none⟩ (.slice c.ca c.coins.length c.cc)).setCell ⟨w.heap.size, 4, none⟩ (.slice c.sa c.sp.length c.sc)).setCell ⟨w.heap.size, 5, none⟩ (.slice c.pa c.pp.length c.pc)) := (((((Only.set (w.heap.size) 0 (.string ⟨c.root.toArray⟩) _).trans (Only.set (w.heap.size) 1 (.int .u64 (c.signed : Int)) _)).trans (Only.set (w.heap.size) 2 (.slice c.ra c.rl.length c.rc) _)).trans (Only.set (w.heap.size) 3 (.slice c.ca c.coins.length c.cc) _)).trans (Only.set (w.heap.size) 4 (.slice c.sa c.sp.length c.sc) _)).trans (Only.set (w.heap.size) 5 (.slice c.pa c.pp.length c.pc) _)
      have hF : Only (w.heap.size + 1) (((((((w6).setCell ⟨w.heap.size, 0, none⟩ (.string ⟨c.root.toArray⟩)).setCell ⟨w.heap.size, 1, none⟩ (.int .u64 (c.signed : Int))).setCell ⟨w.heap.size, 2, none⟩ (.slice c.ra c.rl.length c.rc)).setCell ⟨w.heap.size, 3, none⟩ (.slice c.ca c.coins.length c.cc)).setCell ⟨w.heap.size, 4, none⟩ (.slice c.sa c.sp.length c.sc)).setCell ⟨w.heap.size, 5, none⟩ (.slice c.pa c.pp.length c.pc)) (((((((((w6).setCell ⟨w.heap.size, 0, none⟩ (.string ⟨c.root.toArray⟩)).setCell ⟨w.heap.size, 1, none⟩ (.int .u64 (c.signed : Int))).setCell ⟨w.heap.size, 2, none⟩ (.slice c.ra c.rl.length c.rc)).setCell ⟨w.heap.size, 3, none⟩ (.slice c.ca c.coins.length c.cc)).setCell ⟨w.heap.size, 4, none⟩ (.slice c.sa c.sp.length c.sc)).setCell ⟨w.heap.size, 5, none⟩ (.slice c.pa c.pp.length c.pc)).setCell ⟨w.heap.size + 1, 0, none⟩ (.int .i64 0)).setCell ⟨w.heap.size + 1, 1, none⟩ (.int .i64 (b : Int))) := (Only.set (w.heap.size + 1) 0 (.int .i64 0) _).trans (Only.set (w.heap.size + 1) 1 (.int .i64 (b : Int)) _)
      have hxT := lit_set (k := 5) (.slice c.pa c.pp.length c.pc) (lit_set (k := 4) (.slice c.sa c.sp.length c.sc) (lit_set (k := 3) (.slice c.ca c.coins.length c.cc) (lit_set (k := 2) (.slice c.ra c.rl.length c.rc) (lit_set (k := 1) (.int .u64 (c.signed : Int)) (lit_set (k := 0) (.string ⟨c.root.toArray⟩) (HO.out.2.1))))))
      have hfT := (hT.block (w.heap.size + 1) (lit_lt HO.out.2.2) (by omega)).trans HO.out.2.2
      have h2 := HLT.out.2.2
      exact ⟨(HLM.out.keep (fun k hk hl => hT.block k hl (by omega)) hT.size).keep (fun k hk hl => hF.block k hl (by omega)) hF.size, hB.trans ((hT.below (Nat.le_refl _) hB.size).trans (hF.below (by omega) (Nat.le_trans hB.size hT.size))), (hF.block _ (lit_lt hxT) (by omega)).trans hxT, lit_set (k := 1) (.int .i64 (b : Int)) (lit_set (k := 0) (.int .i64 0) (hfT))⟩)
    obtain ⟨w7, hw⟩ : ∃ w7, (((((((((w6).setCell ⟨w.heap.size, 0, none⟩ (.string ⟨c.root.toArray⟩)).setCell ⟨w.heap.size, 1, none⟩ (.int .u64 (c.signed : Int))).setCell ⟨w.heap.size, 2, none⟩ (.slice c.ra c.rl.length c.rc)).setCell ⟨w.heap.size, 3, none⟩ (.slice c.ca c.coins.length c.cc)).setCell ⟨w.heap.size, 4, none⟩ (.slice c.sa c.sp.length c.sc)).setCell ⟨w.heap.size, 5, none⟩ (.slice c.pa c.pp.length c.pc)).setCell ⟨w.heap.size + 1, 0, none⟩ (.int .i64 0)).setCell ⟨w.heap.size + 1, 1, none⟩ (.int .i64 (b : Int))).drew = w7 := ⟨_, rfl⟩
    rw [hw] at KEY ⊢
    clear hw
    obtain ⟨k0, k1, k2, k3⟩ := KEY
    have v0 := (lit_cell k2 0).trans rfl
    have v1 := (lit_cell k2 1).trans rfl
    have v2 := (lit_cell k2 2).trans rfl
    have v3 := (lit_cell k2 3).trans rfl
    have v4 := (lit_cell k2 4).trans rfl
    have v5 := (lit_cell k2 5).trans rfl
    have u0 := (lit_cell k3 0).trans rfl; have u1 := (lit_cell k3 1).trans rfl
    refine bodyPost_ret (v := .tuple #[.agg #[.string ⟨c.root.toArray⟩, .int .u64 (c.signed : Int), .slice c.ra c.rl.length c.rc, .slice c.ca c.coins.length c.cc, .slice c.sa c.sp.length c.sc, .slice c.pa c.pp.length c.pc], .agg #[.int .i64 0, .int .i64 (b : Int)]]) (by simp [results, Tryz.results9, go_sem, v0, v1, v2, v3, v4, v5, u0, u1]) rfl ⟨c, (0, b), rfl, Lib.hid ⟨rd_good HWR.out _, k0.certM⟩, k1⟩
  · have hcf : ((fc : Int) == 0) = false := by rw [beq_eq_false_iff_ne]; omega
    have hcf2 : ((fc : Int) != 0) = true := by rw [bne_iff_ne]; omega
    have HC0 := Lib.hid hc
    clear hc HGF HX HNE HPG HLP HP3
    go_upto_region 5 with fail
    go_region
    go_wp2
    clear x0 p0 y0 x1 p1 y1 x2 p2 y2 x3 p3 y3 x4 p4 y4 x5 p5 y5 t0 t1 s0 s1 g0 g1 n1 n2 n3 n4 n5 n6 n7 n8
    have KEY := drew_facts3 (show CertW w2.heap.size c (((((((((w6).setCell ⟨w.heap.size, 0, none⟩ (.string ⟨#[]⟩)).setCell ⟨w.heap.size, 1, none⟩ (.int .u64 0)).setCell ⟨w.heap.size, 2, none⟩ (.slice none 0 0)).setCell ⟨w.heap.size, 3, none⟩ (.slice none 0 0)).setCell ⟨w.heap.size, 4, none⟩ (.slice none 0 0)).setCell ⟨w.heap.size, 5, none⟩ (.slice none 0 0)).setCell ⟨w.heap.size + 1, 0, none⟩ (.int .i64 (fc : Int))).setCell ⟨w.heap.size + 1, 1, none⟩ (.int .i64 (b : Int))) ∧ Below w.heap.size w (((((((((w6).setCell ⟨w.heap.size, 0, none⟩ (.string ⟨#[]⟩)).setCell ⟨w.heap.size, 1, none⟩ (.int .u64 0)).setCell ⟨w.heap.size, 2, none⟩ (.slice none 0 0)).setCell ⟨w.heap.size, 3, none⟩ (.slice none 0 0)).setCell ⟨w.heap.size, 4, none⟩ (.slice none 0 0)).setCell ⟨w.heap.size, 5, none⟩ (.slice none 0 0)).setCell ⟨w.heap.size + 1, 0, none⟩ (.int .i64 (fc : Int))).setCell ⟨w.heap.size + 1, 1, none⟩ (.int .i64 (b : Int))) ∧ (((((((((w6).setCell ⟨w.heap.size, 0, none⟩ (.string ⟨#[]⟩)).setCell ⟨w.heap.size, 1, none⟩ (.int .u64 0)).setCell ⟨w.heap.size, 2, none⟩ (.slice none 0 0)).setCell ⟨w.heap.size, 3, none⟩ (.slice none 0 0)).setCell ⟨w.heap.size, 4, none⟩ (.slice none 0 0)).setCell ⟨w.heap.size, 5, none⟩ (.slice none 0 0)).setCell ⟨w.heap.size + 1, 0, none⟩ (.int .i64 (fc : Int))).setCell ⟨w.heap.size + 1, 1, none⟩ (.int .i64 (b : Int))).heap[w.heap.size]? = some (.cells #[.string ⟨#[]⟩, .int .u64 0, .slice none 0 0, .slice none 0 0, .slice none 0 0, .slice none 0 0] 27 (0, 0)) ∧ (((((((((w6).setCell ⟨w.heap.size, 0, none⟩ (.string ⟨#[]⟩)).setCell ⟨w.heap.size, 1, none⟩ (.int .u64 0)).setCell ⟨w.heap.size, 2, none⟩ (.slice none 0 0)).setCell ⟨w.heap.size, 3, none⟩ (.slice none 0 0)).setCell ⟨w.heap.size, 4, none⟩ (.slice none 0 0)).setCell ⟨w.heap.size, 5, none⟩ (.slice none 0 0)).setCell ⟨w.heap.size + 1, 0, none⟩ (.int .i64 (fc : Int))).setCell ⟨w.heap.size + 1, 1, none⟩ (.int .i64 (b : Int))).heap[w.heap.size + 1]? = some (.cells #[.int .i64 (fc : Int), .int .i64 (b : Int)] 42 (0, 0)) from by
      have hB := HO.out.1
      have hT : Only w.heap.size w6 (((((((w6).setCell ⟨w.heap.size, 0, none⟩ (.string ⟨#[]⟩)).setCell ⟨w.heap.size, 1, none⟩ (.int .u64 0)).setCell ⟨w.heap.size, 2, none⟩ (.slice none 0 0)).setCell ⟨w.heap.size, 3, none⟩ (.slice none 0 0)).setCell ⟨w.heap.size, 4, none⟩ (.slice none 0 0)).setCell ⟨w.heap.size, 5, none⟩ (.slice none 0 0)) := (((((Only.set (w.heap.size) 0 (.string ⟨#[]⟩) _).trans (Only.set (w.heap.size) 1 (.int .u64 0) _)).trans (Only.set (w.heap.size) 2 (.slice none 0 0) _)).trans (Only.set (w.heap.size) 3 (.slice none 0 0) _)).trans (Only.set (w.heap.size) 4 (.slice none 0 0) _)).trans (Only.set (w.heap.size) 5 (.slice none 0 0) _)
      have hF : Only (w.heap.size + 1) (((((((w6).setCell ⟨w.heap.size, 0, none⟩ (.string ⟨#[]⟩)).setCell ⟨w.heap.size, 1, none⟩ (.int .u64 0)).setCell ⟨w.heap.size, 2, none⟩ (.slice none 0 0)).setCell ⟨w.heap.size, 3, none⟩ (.slice none 0 0)).setCell ⟨w.heap.size, 4, none⟩ (.slice none 0 0)).setCell ⟨w.heap.size, 5, none⟩ (.slice none 0 0)) (((((((((w6).setCell ⟨w.heap.size, 0, none⟩ (.string ⟨#[]⟩)).setCell ⟨w.heap.size, 1, none⟩ (.int .u64 0)).setCell ⟨w.heap.size, 2, none⟩ (.slice none 0 0)).setCell ⟨w.heap.size, 3, none⟩ (.slice none 0 0)).setCell ⟨w.heap.size, 4, none⟩ (.slice none 0 0)).setCell ⟨w.heap.size, 5, none⟩ (.slice none 0 0)).setCell ⟨w.heap.size + 1, 0, none⟩ (.int .i64 (fc : Int))).setCell ⟨w.heap.size + 1, 1, none⟩ (.int .i64 (b : Int))) := (Only.set (w.heap.size + 1) 0 (.int .i64 (fc : Int)) _).trans (Only.set (w.heap.size + 1) 1 (.int .i64 (b : Int)) _)
      have hxT := lit_set (k := 5) (.slice none 0 0) (lit_set (k := 4) (.slice none 0 0) (lit_set (k := 3) (.slice none 0 0) (lit_set (k := 2) (.slice none 0 0) (lit_set (k := 1) (.int .u64 0) (lit_set (k := 0) (.string ⟨#[]⟩) (HO.out.2.1))))))
      have hfT := (hT.block (w.heap.size + 1) (lit_lt HO.out.2.2) (by omega)).trans HO.out.2.2
      have h2 := HLT.out.2.2
      exact ⟨(HLM.out.keep (fun k hk hl => hT.block k hl (by omega)) hT.size).keep (fun k hk hl => hF.block k hl (by omega)) hF.size, hB.trans ((hT.below (Nat.le_refl _) hB.size).trans (hF.below (by omega) (Nat.le_trans hB.size hT.size))), (hF.block _ (lit_lt hxT) (by omega)).trans hxT, lit_set (k := 1) (.int .i64 (b : Int)) (lit_set (k := 0) (.int .i64 (fc : Int)) (hfT))⟩)
    obtain ⟨w7, hw⟩ : ∃ w7, (((((((((w6).setCell ⟨w.heap.size, 0, none⟩ (.string ⟨#[]⟩)).setCell ⟨w.heap.size, 1, none⟩ (.int .u64 0)).setCell ⟨w.heap.size, 2, none⟩ (.slice none 0 0)).setCell ⟨w.heap.size, 3, none⟩ (.slice none 0 0)).setCell ⟨w.heap.size, 4, none⟩ (.slice none 0 0)).setCell ⟨w.heap.size, 5, none⟩ (.slice none 0 0)).setCell ⟨w.heap.size + 1, 0, none⟩ (.int .i64 (fc : Int))).setCell ⟨w.heap.size + 1, 1, none⟩ (.int .i64 (b : Int))).drew = w7 := ⟨_, rfl⟩
    rw [hw] at KEY ⊢
    clear hw
    obtain ⟨k0, k1, k2, k3⟩ := KEY
    have v0 := (lit_cell k2 0).trans rfl
    have v1 := (lit_cell k2 1).trans rfl
    have v2 := (lit_cell k2 2).trans rfl
    have v3 := (lit_cell k2 3).trans rfl
    have v4 := (lit_cell k2 4).trans rfl
    have v5 := (lit_cell k2 5).trans rfl
    have u0 := (lit_cell k3 0).trans rfl; have u1 := (lit_cell k3 1).trans rfl
    refine bodyPost_ret (v := .tuple #[.agg #[.string ⟨#[]⟩, .int .u64 0, .slice none 0 0, .slice none 0 0, .slice none 0 0, .slice none 0 0], .agg #[.int .i64 (fc : Int), .int .i64 (b : Int)]]) (by simp [results, Tryz.results9, go_sem, v0, v1, v2, v3, v4, v5, u0, u1]) rfl ⟨zC, (fc, b), rfl, Lib.hid ⟨rd_bad HWR.out HC0.out, (CertW.zero w.heap.size _).certM⟩, k1⟩
end Go.Proofs.YtlhmmplkdjibkaaGreatDoor
