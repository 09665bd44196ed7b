/- The reference's ReadPart, ReadMsg, ReadHeader. -/
import Derived.Test.YtgdhljbcclbfaaaGreatDoorJ34
namespace Go.Proofs.YtgdhljbcclbfaaaGreatDoor
open Go.RowKit

/-- what a reading's walk keeps: the cursor; the results' cells -/
structure Rr (w0 : World) (cb rb : Nat) (S : (List UInt8)) (st : St) (T : TypeId) (z : Array Value) (wz : World) : Prop where
  c : Curs cb rb S st wz
  o : Below w0.heap.size w0 wz
  r : wz.heap[w0.heap.size]? = some (.cells z T (0, 0))
  f : wz.heap[w0.heap.size + 1]? = some (.cells #[.int .i64 0, .int .i64 0] 38 (0, 0))
  lt : w0.heap.size + 2 ≤ cb ∧ w0.heap.size + 2 ≤ rb
theorem Rr.call {w0 wz wa : World} {cb rb : Nat} {S : (List UInt8)} {st st2 : St} {T : TypeId} {z : Array Value} (h : Rr w0 cb rb S st T z wz) (ho : Duo cb rb wz wa) (hc : Curs cb rb S st2 wa) : Rr w0 cb rb S st2 T z wa := by
  have h1 := h.lt
  exact ⟨hc, h.o.trans ⟨ho.os, ho.tape, ho.output, ho.size, fun k hk => ho.block k (Nat.lt_of_lt_of_le hk h.o.size) (by omega) (by omega)⟩, (ho.block _ (lit_lt h.r) (by omega) (by omega)).trans h.r, (ho.block _ (lit_lt h.f) (by omega) (by omega)).trans h.f, h1⟩
theorem drew_facts {B X Y : Nat} {w wf : World} {a b : Option Obj} (h : Below B w wf ∧ wf.heap[X]? = a ∧ wf.heap[Y]? = b) : Below B w wf.drew ∧ wf.drew.heap[X]? = a ∧ wf.drew.heap[Y]? = b := ⟨h.1.drew, h.2.1, h.2.2⟩
/-- what a reading answers -/
def RdAns {ρ : Type} (g : (List UInt8) → Nat → Res ρ) (S : (List UInt8)) (z q : ρ) (f : Nat × Nat) : Prop := match wholeG g S with
  | .error h => q = z ∧ f = h ∧ f.1 ≠ 0
  | .ok p => q = p ∧ f = (0, 0)
def RdLast {ρ : Type} (g : (List UInt8) → Nat → Res ρ) (S : (List UInt8)) (q : ρ) (F : Nat × Nat) : Prop := match wholeG g S with
  | .error f => F = f ∧ f.1 ≠ 0
  | .ok p => p = q ∧ F = (0, 0)
theorem rd_good {ρ : Type} {g : (List UInt8) → Nat → Res ρ} {S : (List UInt8)} {q : ρ} {b : Nat} (h : RdLast g S q (0, b)) (z : ρ) : RdAns g S z q (0, b) := by
  unfold RdLast at h
  unfold RdAns
  cases hw : wholeG g S with
  | error f => rw [hw] at h; obtain ⟨rfl, h⟩ := h; exact absurd rfl h
  | ok p => rw [hw] at h; exact ⟨h.1.symm, h.2⟩
theorem rd_bad {ρ : Type} {g : (List UInt8) → Nat → Res ρ} {S : (List UInt8)} {q z : ρ} {c b : Nat} (h : RdLast g S q (c, b)) (hc : c ≠ 0) : RdAns g S z z (c, b) := by
  unfold RdLast at h
  unfold RdAns
  cases hw : wholeG g S with
  | error f => rw [hw] at h; exact ⟨rfl, h.1, hc⟩
  | ok p => rw [hw] at h; exact absurd (congrArg Prod.fst h.2) hc
theorem Rr.next {w0 wz wa : World} {cb rb : Nat} {S : (List UInt8)} {st : St} {T : TypeId} {z : Array Value} (h : Rr w0 cb rb S st T z wz) (hb : Below wz.heap.size wz wa) : Rr w0 cb rb S st T z wa :=
  ⟨h.c.next hb, h.o.trans (hb.mono h.o.size), (hb.block _ (lit_lt h.r)).trans h.r, (hb.block _ (lit_lt h.f)).trans h.f, h.lt⟩

set_option maxRecDepth 100000 in
set_option maxHeartbeats 2000000 in
theorem rReadpart_any (S : (List UInt8)) (w : World) (hS : S.length ≤ 1000000) :
    Calls Tryz.prog 15 #[.string ⟨S.toArray⟩] w fun e w' => ∃ (q : PartR) (f : Nat × Nat), e = .returned (.tuple #[partV q, .agg #[.int .i64 (f.1 : Int), .int .i64 (f.2 : Int)]]) ∧ Hid (RdAns partC.get S zPart q f) ∧ Below w.heap.size w w' := by
  have hb0 : Below w.heap.size w ((w.alloc (.cells #[.string ⟨#[]⟩, .int .u64 0, .int .u64 0, .int .u64 0, .int .u64 0] 24)).alloc (.cells #[.int .i64 0, .int .i64 0] 38)) := (by0 w _).alloc (by simp) _
  have hx0 : ((w.alloc (.cells #[.string ⟨#[]⟩, .int .u64 0, .int .u64 0, .int .u64 0, .int .u64 0] 24)).alloc (.cells #[.int .i64 0, .int .i64 0] 38)).heap[w.heap.size]? = some (.cells #[.string ⟨#[]⟩, .int .u64 0, .int .u64 0, .int .u64 0, .int .u64 0] 24 (0, 0)) := lit_old _ (heap_alloc_new w _)
  have hf0 : ((w.alloc (.cells #[.string ⟨#[]⟩, .int .u64 0, .int .u64 0, .int .u64 0, .int .u64 0] 24)).alloc (.cells #[.int .i64 0, .int .i64 0] 38)).heap[w.heap.size + 1]? = some (.cells #[.int .i64 0, .int .i64 0] 38 (0, 0)) := by
    rw [show w.heap.size + 1 = (w.alloc (.cells #[.string ⟨#[]⟩, .int .u64 0, .int .u64 0, .int .u64 0, .int .u64 0] 24)).heap.size by simp]; exact heap_alloc_new _ _
  have hz0 : ((w.alloc (.cells #[.string ⟨#[]⟩, .int .u64 0, .int .u64 0, .int .u64 0, .int .u64 0] 24)).alloc (.cells #[.int .i64 0, .int .i64 0] 38)).heap.size = w.heap.size + 2 := by simp
  have H0 := Lib.hid (And.intro hb0 (And.intro hx0 (And.intro hf0 hz0)))
  have HBG := Lib.hid (fun wz => cbegin_any S wz)
  have HP := Lib.hid (fun cb rb (wz : World) (h : Curs cb rb S (.ok 0) wz) => cpart_any hS h)
  have HEN := Lib.hid (fun cb rb st (wz : World) (h : Curs cb rb S st wz) => cend_any hS h)
  clear hb0 hx0 hf0 hz0 hS
  go_enter Tryz.func15, Tryz.ntmps15
  go_upto_region 1 with fail
  change Code.wp _ _ _ _ ((w.alloc (.cells #[.string ⟨#[]⟩, .int .u64 0, .int .u64 0, .int .u64 0, .int .u64 0] 24)).alloc (.cells #[.int .i64 0, .int .i64 0] 38))
  generalize (w.alloc (.cells #[.string ⟨#[]⟩, .int .u64 0, .int .u64 0, .int .u64 0, .int .u64 0] 24)).alloc (.cells #[.int .i64 0, .int .i64 0] 38) = w1 at *
  go_wp2_with fail
  refine (HBG.out _).mono ?_
  rintro e w2 ⟨cb, rb, rfl, HC⟩
  have R := Lib.hid (show Rr w cb rb S (.ok 0) 24 #[.string ⟨#[]⟩, .int .u64 0, .int .u64 0, .int .u64 0, .int .u64 0] w2 from by
    obtain ⟨h1, h2, h3, h4⟩ := HC.out
    obtain ⟨g1, g2, g3, g4⟩ := H0.out
    exact ⟨h1, g1.trans (h4.mono g1.size), (h4.block _ (lit_lt g2)).trans g2, (h4.block _ (lit_lt g3)).trans g3, ⟨by omega, by omega⟩⟩)
  clear HC H0 HBG
  go_upto_region 3 with (go_at_call 47; refine (HP.out _ _ _ R.out.c).mono ?_; rintro e w3 ⟨q, rfl, HQ⟩)
  change Code.wp _ _ _ _ (w3.alloc (.cells #[.string ⟨q.root.toArray⟩, .int .u64 (q.weight : Int), .int .u64 (q.first : Int), .int .u64 (q.life : Int), .int .u64 (q.keys : Int)] 24))
  have HG := Lib.hid HQ.out.g
  have R3 := Lib.hid (R.out.call HQ.out.o HQ.out.c)
  have R := Lib.hid ((R.out.call HQ.out.o HQ.out.c).next (by0 w3 (.cells #[.string ⟨q.root.toArray⟩, .int .u64 (q.weight : Int), .int .u64 (q.first : Int), .int .u64 (q.life : Int), .int .u64 (q.keys : Int)] 24)))
  have HX := Lib.hid (heap_alloc_new w3 (.cells #[.string ⟨q.root.toArray⟩, .int .u64 (q.weight : Int), .int .u64 (q.first : Int), .int .u64 (q.life : Int), .int .u64 (q.keys : Int)] 24))
  have HPL := Lib.hid (show w3.heap.size ≠ cb ∧ w3.heap.size ≠ rb from ⟨Nat.ne_of_gt HQ.out.c.lt, Nat.ne_of_gt HQ.out.c.rt⟩)
  generalize w3.alloc (.cells #[.string ⟨q.root.toArray⟩, .int .u64 (q.weight : Int), .int .u64 (q.first : Int), .int .u64 (q.life : Int), .int .u64 (q.keys : Int)] 24) = w4 at *
  have HP3 := Lib.hid (show w.heap.size + 2 ≤ w3.heap.size from by have h1 := HQ.out.c.lt; have h2 := R3.out.lt; omega)
  generalize w3.heap.size = P at *
  clear HP HQ
  have HWR := Lib.hid (show RdLast _ S q _ from whole_run S partC.get q HG.out (fun f hf => by
    have k := R.out.c.nz f
    rw [hf] at k
    exact k rfl))
  generalize endS (runS S partC.get (.ok 0)) = st at *
  go_upto_region 4 with (go_at_call 48; refine (HEN.out _ _ _ _ R.out.c).mono ?_; rintro e w5 ⟨rfl, ho⟩)
  change Code.wp _ _ _ _ (w5.alloc (.cells #[.int .i64 ((lastS S st).1 : Int), .int .i64 ((lastS S st).2 : Int)] 38))
  have hb := by0 w5 (.cells #[.int .i64 ((lastS S st).1 : Int), .int .i64 ((lastS S st).2 : Int)] 38)
  have hx5 := (ho.block _ (lit_lt HX.out) HPL.out.1 HPL.out.2).trans HX.out
  have HX := Lib.hid ((hb.block _ (lit_lt hx5)).trans hx5)
  have HLP := Lib.hid (lit_lt hx5)
  have HO := Lib.hid (show Below w.heap.size w _ ∧ _ ∧ _ from by
    have h1 := R.out.lt; have h2 := R.out.o
    have hz : Below w.heap.size w w5 := h2.trans ⟨ho.os, ho.tape, ho.output, ho.size, fun k hk => ho.block k (Nat.lt_of_lt_of_le hk h2.size) (by omega) (by omega)⟩
    have hr := (ho.block _ (lit_lt R.out.r) (by omega) (by omega)).trans R.out.r
    have hf := (ho.block _ (lit_lt R.out.f) (by omega) (by omega)).trans R.out.f
    exact ⟨hz.trans (hb.mono hz.size), (hb.block _ (lit_lt hr)).trans hr, (hb.block _ (lit_lt hf)).trans hf⟩)
  have HGF := Lib.hid (heap_alloc_new w5 (.cells #[.int .i64 ((lastS S st).1 : Int), .int .i64 ((lastS S st).2 : Int)] 38))
  clear hx5 ho hb HEN HG R HPL
  generalize w5.alloc (.cells #[.int .i64 ((lastS S st).1 : Int), .int .i64 ((lastS S st).2 : Int)] 38) = w6 at *
  have HPG := Lib.hid (show w.heap.size + 2 ≤ P ∧ w.heap.size + 2 ≤ w5.heap.size from ⟨HP3.out, by have h1 := HLP.out; have h2 := HP3.out; omega⟩)
  generalize w5.heap.size = G at *
  generalize lastS S st = F at *
  obtain ⟨c, b⟩ := F
  simp only at HGF HWR
  have HNE := Lib.hid (show P ≠ w.heap.size ∧ G ≠ w.heap.size ∧ P ≠ w.heap.size + 1 ∧ G ≠ w.heap.size + 1 from by
    have h1 := HPG.out; omega)
  have n1 := HNE.out.1; have n2 := HNE.out.2.1; have n3 := HNE.out.2.2.1; have n4 := HNE.out.2.2.2
  have n5 := n1.symm; have n6 := n2.symm; have n7 := n3.symm; have n8 := n4.symm
  have g0 := (lit_cell HGF.out 0).trans rfl; have g1 := (lit_cell HGF.out 1).trans rfl
  have y0 := (lit_cell HX.out 0).trans rfl
  have y1 := (lit_cell HX.out 1).trans rfl
  have y2 := (lit_cell HX.out 2).trans rfl
  have y3 := (lit_cell HX.out 3).trans rfl
  have y4 := (lit_cell HX.out 4).trans rfl
  have x0 := (lit_cell HO.out.2.1 0).trans rfl; have p0 := lit_free HO.out.2.1 0
  have x1 := (lit_cell HO.out.2.1 1).trans rfl; have p1 := lit_free HO.out.2.1 1
  have x2 := (lit_cell HO.out.2.1 2).trans rfl; have p2 := lit_free HO.out.2.1 2
  have x3 := (lit_cell HO.out.2.1 3).trans rfl; have p3 := lit_free HO.out.2.1 3
  have x4 := (lit_cell HO.out.2.1 4).trans rfl; have p4 := lit_free HO.out.2.1 4
  have t0 := (lit_cell HO.out.2.2 0).trans rfl; have s0 := lit_free HO.out.2.2 0
  have t1 := (lit_cell HO.out.2.2 1).trans rfl; have s1 := lit_free HO.out.2.2 1
  by_cases hc : c = 0
  · subst hc
    clear HGF HX HNE HPG HLP HP3
    go_upto_region 6 with fail
    go_region
    go_wp2
    clear x0 p0 y0 x1 p1 y1 x2 p2 y2 x3 p3 y3 x4 p4 y4 t0 t1 s0 s1 g0 g1 n1 n2 n3 n4 n5 n6 n7 n8
    have KEY := drew_facts (show Below w.heap.size w ((((((((w6).setCell ⟨w.heap.size, 0, none⟩ (.string ⟨q.root.toArray⟩)).setCell ⟨w.heap.size, 1, none⟩ (.int .u64 (q.weight : Int))).setCell ⟨w.heap.size, 2, none⟩ (.int .u64 (q.first : Int))).setCell ⟨w.heap.size, 3, none⟩ (.int .u64 (q.life : Int))).setCell ⟨w.heap.size, 4, none⟩ (.int .u64 (q.keys : Int))).setCell ⟨w.heap.size + 1, 0, none⟩ (.int .i64 0)).setCell ⟨w.heap.size + 1, 1, none⟩ (.int .i64 (b : Int))) ∧ ((((((((w6).setCell ⟨w.heap.size, 0, none⟩ (.string ⟨q.root.toArray⟩)).setCell ⟨w.heap.size, 1, none⟩ (.int .u64 (q.weight : Int))).setCell ⟨w.heap.size, 2, none⟩ (.int .u64 (q.first : Int))).setCell ⟨w.heap.size, 3, none⟩ (.int .u64 (q.life : Int))).setCell ⟨w.heap.size, 4, none⟩ (.int .u64 (q.keys : Int))).setCell ⟨w.heap.size + 1, 0, none⟩ (.int .i64 0)).setCell ⟨w.heap.size + 1, 1, none⟩ (.int .i64 (b : Int))).heap[w.heap.size]? = some (.cells #[.string ⟨q.root.toArray⟩, .int .u64 (q.weight : Int), .int .u64 (q.first : Int), .int .u64 (q.life : Int), .int .u64 (q.keys : Int)] 24 (0, 0)) ∧ ((((((((w6).setCell ⟨w.heap.size, 0, none⟩ (.string ⟨q.root.toArray⟩)).setCell ⟨w.heap.size, 1, none⟩ (.int .u64 (q.weight : Int))).setCell ⟨w.heap.size, 2, none⟩ (.int .u64 (q.first : Int))).setCell ⟨w.heap.size, 3, none⟩ (.int .u64 (q.life : Int))).setCell ⟨w.heap.size, 4, none⟩ (.int .u64 (q.keys : Int))).setCell ⟨w.heap.size + 1, 0, none⟩ (.int .i64 0)).setCell ⟨w.heap.size + 1, 1, none⟩ (.int .i64 (b : Int))).heap[w.heap.size + 1]? = some (.cells #[.int .i64 0, .int .i64 (b : Int)] 38 (0, 0)) from by
      have hB := HO.out.1
      have hT : Only w.heap.size w6 ((((((w6).setCell ⟨w.heap.size, 0, none⟩ (.string ⟨q.root.toArray⟩)).setCell ⟨w.heap.size, 1, none⟩ (.int .u64 (q.weight : Int))).setCell ⟨w.heap.size, 2, none⟩ (.int .u64 (q.first : Int))).setCell ⟨w.heap.size, 3, none⟩ (.int .u64 (q.life : Int))).setCell ⟨w.heap.size, 4, none⟩ (.int .u64 (q.keys : Int))) := ((((Only.set w.heap.size 0 (.string ⟨q.root.toArray⟩) _).trans (Only.set w.heap.size 1 (.int .u64 (q.weight : Int)) _)).trans (Only.set w.heap.size 2 (.int .u64 (q.first : Int)) _)).trans (Only.set w.heap.size 3 (.int .u64 (q.life : Int)) _)).trans (Only.set w.heap.size 4 (.int .u64 (q.keys : Int)) _)
      have hF : Only (w.heap.size + 1) ((((((w6).setCell ⟨w.heap.size, 0, none⟩ (.string ⟨q.root.toArray⟩)).setCell ⟨w.heap.size, 1, none⟩ (.int .u64 (q.weight : Int))).setCell ⟨w.heap.size, 2, none⟩ (.int .u64 (q.first : Int))).setCell ⟨w.heap.size, 3, none⟩ (.int .u64 (q.life : Int))).setCell ⟨w.heap.size, 4, none⟩ (.int .u64 (q.keys : Int))) ((((((((w6).setCell ⟨w.heap.size, 0, none⟩ (.string ⟨q.root.toArray⟩)).setCell ⟨w.heap.size, 1, none⟩ (.int .u64 (q.weight : Int))).setCell ⟨w.heap.size, 2, none⟩ (.int .u64 (q.first : Int))).setCell ⟨w.heap.size, 3, none⟩ (.int .u64 (q.life : Int))).setCell ⟨w.heap.size, 4, none⟩ (.int .u64 (q.keys : Int))).setCell ⟨w.heap.size + 1, 0, none⟩ (.int .i64 0)).setCell ⟨w.heap.size + 1, 1, none⟩ (.int .i64 (b : Int))) := (Only.set (w.heap.size + 1) 0 (.int .i64 0) _).trans (Only.set (w.heap.size + 1) 1 (.int .i64 (b : Int)) _)
      have hxT := lit_set (k := 4) (.int .u64 (q.keys : Int)) (lit_set (k := 3) (.int .u64 (q.life : Int)) (lit_set (k := 2) (.int .u64 (q.first : Int)) (lit_set (k := 1) (.int .u64 (q.weight : Int)) (lit_set (k := 0) (.string ⟨q.root.toArray⟩) (HO.out.2.1)))))
      have hfT := (hT.block (w.heap.size + 1) (lit_lt HO.out.2.2) (by omega)).trans HO.out.2.2
      exact ⟨hB.trans ((hT.below (Nat.le_refl _) hB.size).trans (hF.below (by omega) (Nat.le_trans hB.size hT.size))), (hF.block _ (lit_lt hxT) (by omega)).trans hxT, lit_set (k := 1) (.int .i64 (b : Int)) (lit_set (k := 0) (.int .i64 0) hfT)⟩)
    obtain ⟨w7, hw⟩ : ∃ w7, ((((((((w6).setCell ⟨w.heap.size, 0, none⟩ (.string ⟨q.root.toArray⟩)).setCell ⟨w.heap.size, 1, none⟩ (.int .u64 (q.weight : Int))).setCell ⟨w.heap.size, 2, none⟩ (.int .u64 (q.first : Int))).setCell ⟨w.heap.size, 3, none⟩ (.int .u64 (q.life : Int))).setCell ⟨w.heap.size, 4, none⟩ (.int .u64 (q.keys : Int))).setCell ⟨w.heap.size + 1, 0, none⟩ (.int .i64 0)).setCell ⟨w.heap.size + 1, 1, none⟩ (.int .i64 (b : Int))).drew = w7 := ⟨_, rfl⟩
    rw [hw] at KEY ⊢
    clear hw
    obtain ⟨k1, k2, k3⟩ := KEY
    have v0 := (lit_cell k2 0).trans rfl
    have v1 := (lit_cell k2 1).trans rfl
    have v2 := (lit_cell k2 2).trans rfl
    have v3 := (lit_cell k2 3).trans rfl
    have v4 := (lit_cell k2 4).trans rfl
    have u0 := (lit_cell k3 0).trans rfl
    have u1 := (lit_cell k3 1).trans rfl
    refine bodyPost_ret (v := .tuple #[.agg #[.string ⟨q.root.toArray⟩, .int .u64 (q.weight : Int), .int .u64 (q.first : Int), .int .u64 (q.life : Int), .int .u64 (q.keys : Int)], .agg #[.int .i64 0, .int .i64 (b : Int)]]) (by simp [results, Tryz.results15, go_sem, v0, v1, v2, v3, v4, u0, u1]) rfl ⟨q, (0, b), rfl, Lib.hid (rd_good HWR.out _), k1⟩
  · have hcf : ((c : Int) == 0) = false := by rw [beq_eq_false_iff_ne]; omega
    have hcf2 : ((c : Int) != 0) = true := by rw [bne_iff_ne]; omega
    have HC0 := Lib.hid hc
    clear hc HGF HX HNE HPG HLP HP3
    go_upto_region 5 with fail
    go_region
    go_wp2
    clear x0 p0 y0 x1 p1 y1 x2 p2 y2 x3 p3 y3 x4 p4 y4 t0 t1 s0 s1 g0 g1 n1 n2 n3 n4 n5 n6 n7 n8
    have KEY := drew_facts (show Below w.heap.size w ((((((((w6).setCell ⟨w.heap.size, 0, none⟩ (.string ⟨#[]⟩)).setCell ⟨w.heap.size, 1, none⟩ (.int .u64 0)).setCell ⟨w.heap.size, 2, none⟩ (.int .u64 0)).setCell ⟨w.heap.size, 3, none⟩ (.int .u64 0)).setCell ⟨w.heap.size, 4, none⟩ (.int .u64 0)).setCell ⟨w.heap.size + 1, 0, none⟩ (.int .i64 (c : Int))).setCell ⟨w.heap.size + 1, 1, none⟩ (.int .i64 (b : Int))) ∧ ((((((((w6).setCell ⟨w.heap.size, 0, none⟩ (.string ⟨#[]⟩)).setCell ⟨w.heap.size, 1, none⟩ (.int .u64 0)).setCell ⟨w.heap.size, 2, none⟩ (.int .u64 0)).setCell ⟨w.heap.size, 3, none⟩ (.int .u64 0)).setCell ⟨w.heap.size, 4, none⟩ (.int .u64 0)).setCell ⟨w.heap.size + 1, 0, none⟩ (.int .i64 (c : Int))).setCell ⟨w.heap.size + 1, 1, none⟩ (.int .i64 (b : Int))).heap[w.heap.size]? = some (.cells #[.string ⟨#[]⟩, .int .u64 0, .int .u64 0, .int .u64 0, .int .u64 0] 24 (0, 0)) ∧ ((((((((w6).setCell ⟨w.heap.size, 0, none⟩ (.string ⟨#[]⟩)).setCell ⟨w.heap.size, 1, none⟩ (.int .u64 0)).setCell ⟨w.heap.size, 2, none⟩ (.int .u64 0)).setCell ⟨w.heap.size, 3, none⟩ (.int .u64 0)).setCell ⟨w.heap.size, 4, none⟩ (.int .u64 0)).setCell ⟨w.heap.size + 1, 0, none⟩ (.int .i64 (c : Int))).setCell ⟨w.heap.size + 1, 1, none⟩ (.int .i64 (b : Int))).heap[w.heap.size + 1]? = some (.cells #[.int .i64 (c : Int), .int .i64 (b : Int)] 38 (0, 0)) from by
      have hB := HO.out.1
      have hT : Only w.heap.size w6 ((((((w6).setCell ⟨w.heap.size, 0, none⟩ (.string ⟨#[]⟩)).setCell ⟨w.heap.size, 1, none⟩ (.int .u64 0)).setCell ⟨w.heap.size, 2, none⟩ (.int .u64 0)).setCell ⟨w.heap.size, 3, none⟩ (.int .u64 0)).setCell ⟨w.heap.size, 4, none⟩ (.int .u64 0)) := ((((Only.set w.heap.size 0 (.string ⟨#[]⟩) _).trans (Only.set w.heap.size 1 (.int .u64 0) _)).trans (Only.set w.heap.size 2 (.int .u64 0) _)).trans (Only.set w.heap.size 3 (.int .u64 0) _)).trans (Only.set w.heap.size 4 (.int .u64 0) _)
      have hF : Only (w.heap.size + 1) ((((((w6).setCell ⟨w.heap.size, 0, none⟩ (.string ⟨#[]⟩)).setCell ⟨w.heap.size, 1, none⟩ (.int .u64 0)).setCell ⟨w.heap.size, 2, none⟩ (.int .u64 0)).setCell ⟨w.heap.size, 3, none⟩ (.int .u64 0)).setCell ⟨w.heap.size, 4, none⟩ (.int .u64 0)) ((((((((w6).setCell ⟨w.heap.size, 0, none⟩ (.string ⟨#[]⟩)).setCell ⟨w.heap.size, 1, none⟩ (.int .u64 0)).setCell ⟨w.heap.size, 2, none⟩ (.int .u64 0)).setCell ⟨w.heap.size, 3, none⟩ (.int .u64 0)).setCell ⟨w.heap.size, 4, none⟩ (.int .u64 0)).setCell ⟨w.heap.size + 1, 0, none⟩ (.int .i64 (c : Int))).setCell ⟨w.heap.size + 1, 1, none⟩ (.int .i64 (b : Int))) := (Only.set (w.heap.size + 1) 0 (.int .i64 (c : Int)) _).trans (Only.set (w.heap.size + 1) 1 (.int .i64 (b : Int)) _)
      have hxT := lit_set (k := 4) (.int .u64 0) (lit_set (k := 3) (.int .u64 0) (lit_set (k := 2) (.int .u64 0) (lit_set (k := 1) (.int .u64 0) (lit_set (k := 0) (.string ⟨#[]⟩) (HO.out.2.1)))))
      have hfT := (hT.block (w.heap.size + 1) (lit_lt HO.out.2.2) (by omega)).trans HO.out.2.2
      exact ⟨hB.trans ((hT.below (Nat.le_refl _) hB.size).trans (hF.below (by omega) (Nat.le_trans hB.size hT.size))), (hF.block _ (lit_lt hxT) (by omega)).trans hxT, lit_set (k := 1) (.int .i64 (b : Int)) (lit_set (k := 0) (.int .i64 (c : Int)) hfT)⟩)
    obtain ⟨w7, hw⟩ : ∃ w7, ((((((((w6).setCell ⟨w.heap.size, 0, none⟩ (.string ⟨#[]⟩)).setCell ⟨w.heap.size, 1, none⟩ (.int .u64 0)).setCell ⟨w.heap.size, 2, none⟩ (.int .u64 0)).setCell ⟨w.heap.size, 3, none⟩ (.int .u64 0)).setCell ⟨w.heap.size, 4, none⟩ (.int .u64 0)).setCell ⟨w.heap.size + 1, 0, none⟩ (.int .i64 (c : Int))).setCell ⟨w.heap.size + 1, 1, none⟩ (.int .i64 (b : Int))).drew = w7 := ⟨_, rfl⟩
    rw [hw] at KEY ⊢
    clear hw
    obtain ⟨k1, k2, k3⟩ := KEY
    have v0 := (lit_cell k2 0).trans rfl
    have v1 := (lit_cell k2 1).trans rfl
    have v2 := (lit_cell k2 2).trans rfl
    have v3 := (lit_cell k2 3).trans rfl
    have v4 := (lit_cell k2 4).trans rfl
    have u0 := (lit_cell k3 0).trans rfl
    have u1 := (lit_cell k3 1).trans rfl
    refine bodyPost_ret (v := .tuple #[.agg #[.string ⟨#[]⟩, .int .u64 0, .int .u64 0, .int .u64 0, .int .u64 0], .agg #[.int .i64 (c : Int), .int .i64 (b : Int)]]) (by simp [results, Tryz.results15, go_sem, v0, v1, v2, v3, v4, u0, u1]) rfl ⟨zPart, (c, b), rfl, Lib.hid (rd_bad HWR.out HC0.out), k1⟩
set_option maxRecDepth 100000 in
set_option maxHeartbeats 2000000 in
theorem rReadmsg_any (S : (List UInt8)) (w : World) (hS : S.length ≤ 1000000) :
    Calls Tryz.prog 35 #[.string ⟨S.toArray⟩] w fun e w' => ∃ (q : MsgR) (f : Nat × Nat), e = .returned (.tuple #[msgV q, .agg #[.int .i64 (f.1 : Int), .int .i64 (f.2 : Int)]]) ∧ Hid (RdAns msgC.get S zMsg q f) ∧ Below w.heap.size w w' := by
  have hb0 : Below w.heap.size w ((w.alloc (.cells #[.string ⟨#[]⟩, .string ⟨#[]⟩, .int .u64 0, .int .u64 0, .int .u64 0, .int .u64 0] 70)).alloc (.cells #[.int .i64 0, .int .i64 0] 38)) := (by0 w _).alloc (by simp) _
  have hx0 : ((w.alloc (.cells #[.string ⟨#[]⟩, .string ⟨#[]⟩, .int .u64 0, .int .u64 0, .int .u64 0, .int .u64 0] 70)).alloc (.cells #[.int .i64 0, .int .i64 0] 38)).heap[w.heap.size]? = some (.cells #[.string ⟨#[]⟩, .string ⟨#[]⟩, .int .u64 0, .int .u64 0, .int .u64 0, .int .u64 0] 70 (0, 0)) := lit_old _ (heap_alloc_new w _)
  have hf0 : ((w.alloc (.cells #[.string ⟨#[]⟩, .string ⟨#[]⟩, .int .u64 0, .int .u64 0, .int .u64 0, .int .u64 0] 70)).alloc (.cells #[.int .i64 0, .int .i64 0] 38)).heap[w.heap.size + 1]? = some (.cells #[.int .i64 0, .int .i64 0] 38 (0, 0)) := by
    rw [show w.heap.size + 1 = (w.alloc (.cells #[.string ⟨#[]⟩, .string ⟨#[]⟩, .int .u64 0, .int .u64 0, .int .u64 0, .int .u64 0] 70)).heap.size by simp]; exact heap_alloc_new _ _
  have hz0 : ((w.alloc (.cells #[.string ⟨#[]⟩, .string ⟨#[]⟩, .int .u64 0, .int .u64 0, .int .u64 0, .int .u64 0] 70)).alloc (.cells #[.int .i64 0, .int .i64 0] 38)).heap.size = w.heap.size + 2 := by simp
  have H0 := Lib.hid (And.intro hb0 (And.intro hx0 (And.intro hf0 hz0)))
  have HBG := Lib.hid (fun wz => cbegin_any S wz)
  have HP := Lib.hid (fun cb rb (wz : World) (h : Curs cb rb S (.ok 0) wz) => cmsg_any hS h)
  have HEN := Lib.hid (fun cb rb st (wz : World) (h : Curs cb rb S st wz) => cend_any hS h)
  clear hb0 hx0 hf0 hz0 hS
  go_enter Tryz.func35, Tryz.ntmps35
  go_upto_region 1 with fail
  change Code.wp _ _ _ _ ((w.alloc (.cells #[.string ⟨#[]⟩, .string ⟨#[]⟩, .int .u64 0, .int .u64 0, .int .u64 0, .int .u64 0] 70)).alloc (.cells #[.int .i64 0, .int .i64 0] 38))
  generalize (w.alloc (.cells #[.string ⟨#[]⟩, .string ⟨#[]⟩, .int .u64 0, .int .u64 0, .int .u64 0, .int .u64 0] 70)).alloc (.cells #[.int .i64 0, .int .i64 0] 38) = w1 at *
  go_wp2_with fail
  refine (HBG.out _).mono ?_
  rintro e w2 ⟨cb, rb, rfl, HC⟩
  have R := Lib.hid (show Rr w cb rb S (.ok 0) 70 #[.string ⟨#[]⟩, .string ⟨#[]⟩, .int .u64 0, .int .u64 0, .int .u64 0, .int .u64 0] w2 from by
    obtain ⟨h1, h2, h3, h4⟩ := HC.out
    obtain ⟨g1, g2, g3, g4⟩ := H0.out
    exact ⟨h1, g1.trans (h4.mono g1.size), (h4.block _ (lit_lt g2)).trans g2, (h4.block _ (lit_lt g3)).trans g3, ⟨by omega, by omega⟩⟩)
  clear HC H0 HBG
  go_upto_region 3 with (go_at_call 73; refine (HP.out _ _ _ R.out.c).mono ?_; rintro e w3 ⟨q, rfl, HQ⟩)
  change Code.wp _ _ _ _ (w3.alloc (.cells #[.string ⟨q.headers.toArray⟩, .string ⟨q.parts.toArray⟩, .int .u64 (q.count : Int), .int .u64 (q.proven : Int), .int .u64 (q.first : Int), .int .u64 (q.last : Int)] 70))
  have HG := Lib.hid HQ.out.g
  have R3 := Lib.hid (R.out.call HQ.out.o HQ.out.c)
  have R := Lib.hid ((R.out.call HQ.out.o HQ.out.c).next (by0 w3 (.cells #[.string ⟨q.headers.toArray⟩, .string ⟨q.parts.toArray⟩, .int .u64 (q.count : Int), .int .u64 (q.proven : Int), .int .u64 (q.first : Int), .int .u64 (q.last : Int)] 70)))
  have HX := Lib.hid (heap_alloc_new w3 (.cells #[.string ⟨q.headers.toArray⟩, .string ⟨q.parts.toArray⟩, .int .u64 (q.count : Int), .int .u64 (q.proven : Int), .int .u64 (q.first : Int), .int .u64 (q.last : Int)] 70))
  have HPL := Lib.hid (show w3.heap.size ≠ cb ∧ w3.heap.size ≠ rb from ⟨Nat.ne_of_gt HQ.out.c.lt, Nat.ne_of_gt HQ.out.c.rt⟩)
  generalize w3.alloc (.cells #[.string ⟨q.headers.toArray⟩, .string ⟨q.parts.toArray⟩, .int .u64 (q.count : Int), .int .u64 (q.proven : Int), .int .u64 (q.first : Int), .int .u64 (q.last : Int)] 70) = w4 at *
  have HP3 := Lib.hid (show w.heap.size + 2 ≤ w3.heap.size from by have h1 := HQ.out.c.lt; have h2 := R3.out.lt; omega)
  generalize w3.heap.size = P at *
  clear HP HQ
  have HWR := Lib.hid (show RdLast _ S q _ from whole_run S msgC.get q HG.out (fun f hf => by
    have k := R.out.c.nz f
    rw [hf] at k
    exact k rfl))
  generalize endS (runS S msgC.get (.ok 0)) = st at *
  go_upto_region 4 with (go_at_call 48; refine (HEN.out _ _ _ _ R.out.c).mono ?_; rintro e w5 ⟨rfl, ho⟩)
  change Code.wp _ _ _ _ (w5.alloc (.cells #[.int .i64 ((lastS S st).1 : Int), .int .i64 ((lastS S st).2 : Int)] 38))
  have hb := by0 w5 (.cells #[.int .i64 ((lastS S st).1 : Int), .int .i64 ((lastS S st).2 : Int)] 38)
  have hx5 := (ho.block _ (lit_lt HX.out) HPL.out.1 HPL.out.2).trans HX.out
  have HX := Lib.hid ((hb.block _ (lit_lt hx5)).trans hx5)
  have HLP := Lib.hid (lit_lt hx5)
  have HO := Lib.hid (show Below w.heap.size w _ ∧ _ ∧ _ from by
    have h1 := R.out.lt; have h2 := R.out.o
    have hz : Below w.heap.size w w5 := h2.trans ⟨ho.os, ho.tape, ho.output, ho.size, fun k hk => ho.block k (Nat.lt_of_lt_of_le hk h2.size) (by omega) (by omega)⟩
    have hr := (ho.block _ (lit_lt R.out.r) (by omega) (by omega)).trans R.out.r
    have hf := (ho.block _ (lit_lt R.out.f) (by omega) (by omega)).trans R.out.f
    exact ⟨hz.trans (hb.mono hz.size), (hb.block _ (lit_lt hr)).trans hr, (hb.block _ (lit_lt hf)).trans hf⟩)
  have HGF := Lib.hid (heap_alloc_new w5 (.cells #[.int .i64 ((lastS S st).1 : Int), .int .i64 ((lastS S st).2 : Int)] 38))
  clear hx5 ho hb HEN HG R HPL
  generalize w5.alloc (.cells #[.int .i64 ((lastS S st).1 : Int), .int .i64 ((lastS S st).2 : Int)] 38) = w6 at *
  have HPG := Lib.hid (show w.heap.size + 2 ≤ P ∧ w.heap.size + 2 ≤ w5.heap.size from ⟨HP3.out, by have h1 := HLP.out; have h2 := HP3.out; omega⟩)
  generalize w5.heap.size = G at *
  generalize lastS S st = F at *
  obtain ⟨c, b⟩ := F
  simp only at HGF HWR
  have HNE := Lib.hid (show P ≠ w.heap.size ∧ G ≠ w.heap.size ∧ P ≠ w.heap.size + 1 ∧ G ≠ w.heap.size + 1 from by
    have h1 := HPG.out; omega)
  have n1 := HNE.out.1; have n2 := HNE.out.2.1; have n3 := HNE.out.2.2.1; have n4 := HNE.out.2.2.2
  have n5 := n1.symm; have n6 := n2.symm; have n7 := n3.symm; have n8 := n4.symm
  have g0 := (lit_cell HGF.out 0).trans rfl; have g1 := (lit_cell HGF.out 1).trans rfl
  have y0 := (lit_cell HX.out 0).trans rfl
  have y1 := (lit_cell HX.out 1).trans rfl
  have y2 := (lit_cell HX.out 2).trans rfl
  have y3 := (lit_cell HX.out 3).trans rfl
  have y4 := (lit_cell HX.out 4).trans rfl
  have y5 := (lit_cell HX.out 5).trans rfl
  have x0 := (lit_cell HO.out.2.1 0).trans rfl; have p0 := lit_free HO.out.2.1 0
  have x1 := (lit_cell HO.out.2.1 1).trans rfl; have p1 := lit_free HO.out.2.1 1
  have x2 := (lit_cell HO.out.2.1 2).trans rfl; have p2 := lit_free HO.out.2.1 2
  have x3 := (lit_cell HO.out.2.1 3).trans rfl; have p3 := lit_free HO.out.2.1 3
  have x4 := (lit_cell HO.out.2.1 4).trans rfl; have p4 := lit_free HO.out.2.1 4
  have x5 := (lit_cell HO.out.2.1 5).trans rfl; have p5 := lit_free HO.out.2.1 5
  have t0 := (lit_cell HO.out.2.2 0).trans rfl; have s0 := lit_free HO.out.2.2 0
  have t1 := (lit_cell HO.out.2.2 1).trans rfl; have s1 := lit_free HO.out.2.2 1
  by_cases hc : c = 0
  · subst hc
    clear HGF HX HNE HPG HLP HP3
    go_upto_region 6 with fail
    go_region
    go_wp2
    clear x0 p0 y0 x1 p1 y1 x2 p2 y2 x3 p3 y3 x4 p4 y4 x5 p5 y5 t0 t1 s0 s1 g0 g1 n1 n2 n3 n4 n5 n6 n7 n8
    have KEY := drew_facts (show Below w.heap.size w (((((((((w6).setCell ⟨w.heap.size, 0, none⟩ (.string ⟨q.headers.toArray⟩)).setCell ⟨w.heap.size, 1, none⟩ (.string ⟨q.parts.toArray⟩)).setCell ⟨w.heap.size, 2, none⟩ (.int .u64 (q.count : Int))).setCell ⟨w.heap.size, 3, none⟩ (.int .u64 (q.proven : Int))).setCell ⟨w.heap.size, 4, none⟩ (.int .u64 (q.first : Int))).setCell ⟨w.heap.size, 5, none⟩ (.int .u64 (q.last : Int))).setCell ⟨w.heap.size + 1, 0, none⟩ (.int .i64 0)).setCell ⟨w.heap.size + 1, 1, none⟩ (.int .i64 (b : Int))) ∧ (((((((((w6).setCell ⟨w.heap.size, 0, none⟩ (.string ⟨q.headers.toArray⟩)).setCell ⟨w.heap.size, 1, none⟩ (.string ⟨q.parts.toArray⟩)).setCell ⟨w.heap.size, 2, none⟩ (.int .u64 (q.count : Int))).setCell ⟨w.heap.size, 3, none⟩ (.int .u64 (q.proven : Int))).setCell ⟨w.heap.size, 4, none⟩ (.int .u64 (q.first : Int))).setCell ⟨w.heap.size, 5, none⟩ (.int .u64 (q.last : Int))).setCell ⟨w.heap.size + 1, 0, none⟩ (.int .i64 0)).setCell ⟨w.heap.size + 1, 1, none⟩ (.int .i64 (b : Int))).heap[w.heap.size]? = some (.cells #[.string ⟨q.headers.toArray⟩, .string ⟨q.parts.toArray⟩, .int .u64 (q.count : Int), .int .u64 (q.proven : Int), .int .u64 (q.first : Int), .int .u64 (q.last : Int)] 70 (0, 0)) ∧ (((((((((w6).setCell ⟨w.heap.size, 0, none⟩ (.string ⟨q.headers.toArray⟩)).setCell ⟨w.heap.size, 1, none⟩ (.string ⟨q.parts.toArray⟩)).setCell ⟨w.heap.size, 2, none⟩ (.int .u64 (q.count : Int))).setCell ⟨w.heap.size, 3, none⟩ (.int .u64 (q.proven : Int))).setCell ⟨w.heap.size, 4, none⟩ (.int .u64 (q.first : Int))).setCell ⟨w.heap.size, 5, none⟩ (.int .u64 (q.last : Int))).setCell ⟨w.heap.size + 1, 0, none⟩ (.int .i64 0)).setCell ⟨w.heap.size + 1, 1, none⟩ (.int .i64 (b : Int))).heap[w.heap.size + 1]? = some (.cells #[.int .i64 0, .int .i64 (b : Int)] 38 (0, 0)) from by
      have hB := HO.out.1
      have hT : Only w.heap.size w6 (((((((w6).setCell ⟨w.heap.size, 0, none⟩ (.string ⟨q.headers.toArray⟩)).setCell ⟨w.heap.size, 1, none⟩ (.string ⟨q.parts.toArray⟩)).setCell ⟨w.heap.size, 2, none⟩ (.int .u64 (q.count : Int))).setCell ⟨w.heap.size, 3, none⟩ (.int .u64 (q.proven : Int))).setCell ⟨w.heap.size, 4, none⟩ (.int .u64 (q.first : Int))).setCell ⟨w.heap.size, 5, none⟩ (.int .u64 (q.last : Int))) := (((((Only.set w.heap.size 0 (.string ⟨q.headers.toArray⟩) _).trans (Only.set w.heap.size 1 (.string ⟨q.parts.toArray⟩) _)).trans (Only.set w.heap.size 2 (.int .u64 (q.count : Int)) _)).trans (Only.set w.heap.size 3 (.int .u64 (q.proven : Int)) _)).trans (Only.set w.heap.size 4 (.int .u64 (q.first : Int)) _)).trans (Only.set w.heap.size 5 (.int .u64 (q.last : Int)) _)
      have hF : Only (w.heap.size + 1) (((((((w6).setCell ⟨w.heap.size, 0, none⟩ (.string ⟨q.headers.toArray⟩)).setCell ⟨w.heap.size, 1, none⟩ (.string ⟨q.parts.toArray⟩)).setCell ⟨w.heap.size, 2, none⟩ (.int .u64 (q.count : Int))).setCell ⟨w.heap.size, 3, none⟩ (.int .u64 (q.proven : Int))).setCell ⟨w.heap.size, 4, none⟩ (.int .u64 (q.first : Int))).setCell ⟨w.heap.size, 5, none⟩ (.int .u64 (q.last : Int))) (((((((((w6).setCell ⟨w.heap.size, 0, none⟩ (.string ⟨q.headers.toArray⟩)).setCell ⟨w.heap.size, 1, none⟩ (.string ⟨q.parts.toArray⟩)).setCell ⟨w.heap.size, 2, none⟩ (.int .u64 (q.count : Int))).setCell ⟨w.heap.size, 3, none⟩ (.int .u64 (q.proven : Int))).setCell ⟨w.heap.size, 4, none⟩ (.int .u64 (q.first : Int))).setCell ⟨w.heap.size, 5, none⟩ (.int .u64 (q.last : Int))).setCell ⟨w.heap.size + 1, 0, none⟩ (.int .i64 0)).setCell ⟨w.heap.size + 1, 1, none⟩ (.int .i64 (b : Int))) := (Only.set (w.heap.size + 1) 0 (.int .i64 0) _).trans (Only.set (w.heap.size + 1) 1 (.int .i64 (b : Int)) _)
      have hxT := lit_set (k := 5) (.int .u64 (q.last : Int)) (lit_set (k := 4) (.int .u64 (q.first : Int)) (lit_set (k := 3) (.int .u64 (q.proven : Int)) (lit_set (k := 2) (.int .u64 (q.count : Int)) (lit_set (k := 1) (.string ⟨q.parts.toArray⟩) (lit_set (k := 0) (.string ⟨q.headers.toArray⟩) (HO.out.2.1))))))
      have hfT := (hT.block (w.heap.size + 1) (lit_lt HO.out.2.2) (by omega)).trans HO.out.2.2
      exact ⟨hB.trans ((hT.below (Nat.le_refl _) hB.size).trans (hF.below (by omega) (Nat.le_trans hB.size hT.size))), (hF.block _ (lit_lt hxT) (by omega)).trans hxT, lit_set (k := 1) (.int .i64 (b : Int)) (lit_set (k := 0) (.int .i64 0) hfT)⟩)
    obtain ⟨w7, hw⟩ : ∃ w7, (((((((((w6).setCell ⟨w.heap.size, 0, none⟩ (.string ⟨q.headers.toArray⟩)).setCell ⟨w.heap.size, 1, none⟩ (.string ⟨q.parts.toArray⟩)).setCell ⟨w.heap.size, 2, none⟩ (.int .u64 (q.count : Int))).setCell ⟨w.heap.size, 3, none⟩ (.int .u64 (q.proven : Int))).setCell ⟨w.heap.size, 4, none⟩ (.int .u64 (q.first : Int))).setCell ⟨w.heap.size, 5, none⟩ (.int .u64 (q.last : Int))).setCell ⟨w.heap.size + 1, 0, none⟩ (.int .i64 0)).setCell ⟨w.heap.size + 1, 1, none⟩ (.int .i64 (b : Int))).drew = w7 := ⟨_, rfl⟩
    rw [hw] at KEY ⊢
    clear hw
    obtain ⟨k1, k2, k3⟩ := KEY
    have v0 := (lit_cell k2 0).trans rfl
    have v1 := (lit_cell k2 1).trans rfl
    have v2 := (lit_cell k2 2).trans rfl
    have v3 := (lit_cell k2 3).trans rfl
    have v4 := (lit_cell k2 4).trans rfl
    have v5 := (lit_cell k2 5).trans rfl
    have u0 := (lit_cell k3 0).trans rfl
    have u1 := (lit_cell k3 1).trans rfl
    refine bodyPost_ret (v := .tuple #[.agg #[.string ⟨q.headers.toArray⟩, .string ⟨q.parts.toArray⟩, .int .u64 (q.count : Int), .int .u64 (q.proven : Int), .int .u64 (q.first : Int), .int .u64 (q.last : Int)], .agg #[.int .i64 0, .int .i64 (b : Int)]]) (by simp [results, Tryz.results35, go_sem, v0, v1, v2, v3, v4, v5, u0, u1]) rfl ⟨q, (0, b), rfl, Lib.hid (rd_good HWR.out _), k1⟩
  · have hcf : ((c : Int) == 0) = false := by rw [beq_eq_false_iff_ne]; omega
    have hcf2 : ((c : Int) != 0) = true := by rw [bne_iff_ne]; omega
    have HC0 := Lib.hid hc
    clear hc HGF HX HNE HPG HLP HP3
    go_upto_region 5 with fail
    go_region
    go_wp2
    clear x0 p0 y0 x1 p1 y1 x2 p2 y2 x3 p3 y3 x4 p4 y4 x5 p5 y5 t0 t1 s0 s1 g0 g1 n1 n2 n3 n4 n5 n6 n7 n8
    have KEY := drew_facts (show Below w.heap.size w (((((((((w6).setCell ⟨w.heap.size, 0, none⟩ (.string ⟨#[]⟩)).setCell ⟨w.heap.size, 1, none⟩ (.string ⟨#[]⟩)).setCell ⟨w.heap.size, 2, none⟩ (.int .u64 0)).setCell ⟨w.heap.size, 3, none⟩ (.int .u64 0)).setCell ⟨w.heap.size, 4, none⟩ (.int .u64 0)).setCell ⟨w.heap.size, 5, none⟩ (.int .u64 0)).setCell ⟨w.heap.size + 1, 0, none⟩ (.int .i64 (c : Int))).setCell ⟨w.heap.size + 1, 1, none⟩ (.int .i64 (b : Int))) ∧ (((((((((w6).setCell ⟨w.heap.size, 0, none⟩ (.string ⟨#[]⟩)).setCell ⟨w.heap.size, 1, none⟩ (.string ⟨#[]⟩)).setCell ⟨w.heap.size, 2, none⟩ (.int .u64 0)).setCell ⟨w.heap.size, 3, none⟩ (.int .u64 0)).setCell ⟨w.heap.size, 4, none⟩ (.int .u64 0)).setCell ⟨w.heap.size, 5, none⟩ (.int .u64 0)).setCell ⟨w.heap.size + 1, 0, none⟩ (.int .i64 (c : Int))).setCell ⟨w.heap.size + 1, 1, none⟩ (.int .i64 (b : Int))).heap[w.heap.size]? = some (.cells #[.string ⟨#[]⟩, .string ⟨#[]⟩, .int .u64 0, .int .u64 0, .int .u64 0, .int .u64 0] 70 (0, 0)) ∧ (((((((((w6).setCell ⟨w.heap.size, 0, none⟩ (.string ⟨#[]⟩)).setCell ⟨w.heap.size, 1, none⟩ (.string ⟨#[]⟩)).setCell ⟨w.heap.size, 2, none⟩ (.int .u64 0)).setCell ⟨w.heap.size, 3, none⟩ (.int .u64 0)).setCell ⟨w.heap.size, 4, none⟩ (.int .u64 0)).setCell ⟨w.heap.size, 5, none⟩ (.int .u64 0)).setCell ⟨w.heap.size + 1, 0, none⟩ (.int .i64 (c : Int))).setCell ⟨w.heap.size + 1, 1, none⟩ (.int .i64 (b : Int))).heap[w.heap.size + 1]? = some (.cells #[.int .i64 (c : Int), .int .i64 (b : Int)] 38 (0, 0)) from by
      have hB := HO.out.1
      have hT : Only w.heap.size w6 (((((((w6).setCell ⟨w.heap.size, 0, none⟩ (.string ⟨#[]⟩)).setCell ⟨w.heap.size, 1, none⟩ (.string ⟨#[]⟩)).setCell ⟨w.heap.size, 2, none⟩ (.int .u64 0)).setCell ⟨w.heap.size, 3, none⟩ (.int .u64 0)).setCell ⟨w.heap.size, 4, none⟩ (.int .u64 0)).setCell ⟨w.heap.size, 5, none⟩ (.int .u64 0)) := (((((Only.set w.heap.size 0 (.string ⟨#[]⟩) _).trans (Only.set w.heap.size 1 (.string ⟨#[]⟩) _)).trans (Only.set w.heap.size 2 (.int .u64 0) _)).trans (Only.set w.heap.size 3 (.int .u64 0) _)).trans (Only.set w.heap.size 4 (.int .u64 0) _)).trans (Only.set w.heap.size 5 (.int .u64 0) _)
      have hF : Only (w.heap.size + 1) (((((((w6).setCell ⟨w.heap.size, 0, none⟩ (.string ⟨#[]⟩)).setCell ⟨w.heap.size, 1, none⟩ (.string ⟨#[]⟩)).setCell ⟨w.heap.size, 2, none⟩ (.int .u64 0)).setCell ⟨w.heap.size, 3, none⟩ (.int .u64 0)).setCell ⟨w.heap.size, 4, none⟩ (.int .u64 0)).setCell ⟨w.heap.size, 5, none⟩ (.int .u64 0)) (((((((((w6).setCell ⟨w.heap.size, 0, none⟩ (.string ⟨#[]⟩)).setCell ⟨w.heap.size, 1, none⟩ (.string ⟨#[]⟩)).setCell ⟨w.heap.size, 2, none⟩ (.int .u64 0)).setCell ⟨w.heap.size, 3, none⟩ (.int .u64 0)).setCell ⟨w.heap.size, 4, none⟩ (.int .u64 0)).setCell ⟨w.heap.size, 5, none⟩ (.int .u64 0)).setCell ⟨w.heap.size + 1, 0, none⟩ (.int .i64 (c : Int))).setCell ⟨w.heap.size + 1, 1, none⟩ (.int .i64 (b : Int))) := (Only.set (w.heap.size + 1) 0 (.int .i64 (c : Int)) _).trans (Only.set (w.heap.size + 1) 1 (.int .i64 (b : Int)) _)
      have hxT := lit_set (k := 5) (.int .u64 0) (lit_set (k := 4) (.int .u64 0) (lit_set (k := 3) (.int .u64 0) (lit_set (k := 2) (.int .u64 0) (lit_set (k := 1) (.string ⟨#[]⟩) (lit_set (k := 0) (.string ⟨#[]⟩) (HO.out.2.1))))))
      have hfT := (hT.block (w.heap.size + 1) (lit_lt HO.out.2.2) (by omega)).trans HO.out.2.2
      exact ⟨hB.trans ((hT.below (Nat.le_refl _) hB.size).trans (hF.below (by omega) (Nat.le_trans hB.size hT.size))), (hF.block _ (lit_lt hxT) (by omega)).trans hxT, lit_set (k := 1) (.int .i64 (b : Int)) (lit_set (k := 0) (.int .i64 (c : Int)) hfT)⟩)
    obtain ⟨w7, hw⟩ : ∃ w7, (((((((((w6).setCell ⟨w.heap.size, 0, none⟩ (.string ⟨#[]⟩)).setCell ⟨w.heap.size, 1, none⟩ (.string ⟨#[]⟩)).setCell ⟨w.heap.size, 2, none⟩ (.int .u64 0)).setCell ⟨w.heap.size, 3, none⟩ (.int .u64 0)).setCell ⟨w.heap.size, 4, none⟩ (.int .u64 0)).setCell ⟨w.heap.size, 5, none⟩ (.int .u64 0)).setCell ⟨w.heap.size + 1, 0, none⟩ (.int .i64 (c : Int))).setCell ⟨w.heap.size + 1, 1, none⟩ (.int .i64 (b : Int))).drew = w7 := ⟨_, rfl⟩
    rw [hw] at KEY ⊢
    clear hw
    obtain ⟨k1, k2, k3⟩ := KEY
    have v0 := (lit_cell k2 0).trans rfl
    have v1 := (lit_cell k2 1).trans rfl
    have v2 := (lit_cell k2 2).trans rfl
    have v3 := (lit_cell k2 3).trans rfl
    have v4 := (lit_cell k2 4).trans rfl
    have v5 := (lit_cell k2 5).trans rfl
    have u0 := (lit_cell k3 0).trans rfl
    have u1 := (lit_cell k3 1).trans rfl
    refine bodyPost_ret (v := .tuple #[.agg #[.string ⟨#[]⟩, .string ⟨#[]⟩, .int .u64 0, .int .u64 0, .int .u64 0, .int .u64 0], .agg #[.int .i64 (c : Int), .int .i64 (b : Int)]]) (by simp [results, Tryz.results35, go_sem, v0, v1, v2, v3, v4, v5, u0, u1]) rfl ⟨zMsg, (c, b), rfl, Lib.hid (rd_bad HWR.out HC0.out), k1⟩
set_option maxRecDepth 100000 in
set_option maxHeartbeats 2000000 in
theorem rReadheader_any (S : (List UInt8)) (w : World) (hS : S.length ≤ 1000000) :
    Calls Tryz.prog 37 #[.string ⟨S.toArray⟩] w fun e w' => ∃ (q : HdrR) (f : Nat × Nat), e = .returned (.tuple #[hdrV q, .agg #[.int .i64 (f.1 : Int), .int .i64 (f.2 : Int)]]) ∧ Hid (RdAns hdrC.get S zHdr q f) ∧ Below w.heap.size w w' := by
  have hb0 : Below w.heap.size w ((w.alloc (.cells #[.int .u64 0, .string ⟨#[]⟩, .string ⟨#[]⟩, .string ⟨#[]⟩] 72)).alloc (.cells #[.int .i64 0, .int .i64 0] 38)) := (by0 w _).alloc (by simp) _
  have hx0 : ((w.alloc (.cells #[.int .u64 0, .string ⟨#[]⟩, .string ⟨#[]⟩, .string ⟨#[]⟩] 72)).alloc (.cells #[.int .i64 0, .int .i64 0] 38)).heap[w.heap.size]? = some (.cells #[.int .u64 0, .string ⟨#[]⟩, .string ⟨#[]⟩, .string ⟨#[]⟩] 72 (0, 0)) := lit_old _ (heap_alloc_new w _)
  have hf0 : ((w.alloc (.cells #[.int .u64 0, .string ⟨#[]⟩, .string ⟨#[]⟩, .string ⟨#[]⟩] 72)).alloc (.cells #[.int .i64 0, .int .i64 0] 38)).heap[w.heap.size + 1]? = some (.cells #[.int .i64 0, .int .i64 0] 38 (0, 0)) := by
    rw [show w.heap.size + 1 = (w.alloc (.cells #[.int .u64 0, .string ⟨#[]⟩, .string ⟨#[]⟩, .string ⟨#[]⟩] 72)).heap.size by simp]; exact heap_alloc_new _ _
  have hz0 : ((w.alloc (.cells #[.int .u64 0, .string ⟨#[]⟩, .string ⟨#[]⟩, .string ⟨#[]⟩] 72)).alloc (.cells #[.int .i64 0, .int .i64 0] 38)).heap.size = w.heap.size + 2 := by simp
  have H0 := Lib.hid (And.intro hb0 (And.intro hx0 (And.intro hf0 hz0)))
  have HBG := Lib.hid (fun wz => cbegin_any S wz)
  have HP := Lib.hid (fun cb rb (wz : World) (h : Curs cb rb S (.ok 0) wz) => cheader_any hS h)
  have HEN := Lib.hid (fun cb rb st (wz : World) (h : Curs cb rb S st wz) => cend_any hS h)
  clear hb0 hx0 hf0 hz0 hS
  go_enter Tryz.func37, Tryz.ntmps37
  go_upto_region 1 with fail
  change Code.wp _ _ _ _ ((w.alloc (.cells #[.int .u64 0, .string ⟨#[]⟩, .string ⟨#[]⟩, .string ⟨#[]⟩] 72)).alloc (.cells #[.int .i64 0, .int .i64 0] 38))
  generalize (w.alloc (.cells #[.int .u64 0, .string ⟨#[]⟩, .string ⟨#[]⟩, .string ⟨#[]⟩] 72)).alloc (.cells #[.int .i64 0, .int .i64 0] 38) = w1 at *
  go_wp2_with fail
  refine (HBG.out _).mono ?_
  rintro e w2 ⟨cb, rb, rfl, HC⟩
  have R := Lib.hid (show Rr w cb rb S (.ok 0) 72 #[.int .u64 0, .string ⟨#[]⟩, .string ⟨#[]⟩, .string ⟨#[]⟩] w2 from by
    obtain ⟨h1, h2, h3, h4⟩ := HC.out
    obtain ⟨g1, g2, g3, g4⟩ := H0.out
    exact ⟨h1, g1.trans (h4.mono g1.size), (h4.block _ (lit_lt g2)).trans g2, (h4.block _ (lit_lt g3)).trans g3, ⟨by omega, by omega⟩⟩)
  clear HC H0 HBG
  go_upto_region 3 with (go_at_call 75; refine (HP.out _ _ _ R.out.c).mono ?_; rintro e w3 ⟨q, rfl, HQ⟩)
  change Code.wp _ _ _ _ (w3.alloc (.cells #[.int .u64 (q.round : Int), .string ⟨q.prev.toArray⟩, .string ⟨q.txns.toArray⟩, .string ⟨q.seed.toArray⟩] 72))
  have HG := Lib.hid HQ.out.g
  have R3 := Lib.hid (R.out.call HQ.out.o HQ.out.c)
  have R := Lib.hid ((R.out.call HQ.out.o HQ.out.c).next (by0 w3 (.cells #[.int .u64 (q.round : Int), .string ⟨q.prev.toArray⟩, .string ⟨q.txns.toArray⟩, .string ⟨q.seed.toArray⟩] 72)))
  have HX := Lib.hid (heap_alloc_new w3 (.cells #[.int .u64 (q.round : Int), .string ⟨q.prev.toArray⟩, .string ⟨q.txns.toArray⟩, .string ⟨q.seed.toArray⟩] 72))
  have HPL := Lib.hid (show w3.heap.size ≠ cb ∧ w3.heap.size ≠ rb from ⟨Nat.ne_of_gt HQ.out.c.lt, Nat.ne_of_gt HQ.out.c.rt⟩)
  generalize w3.alloc (.cells #[.int .u64 (q.round : Int), .string ⟨q.prev.toArray⟩, .string ⟨q.txns.toArray⟩, .string ⟨q.seed.toArray⟩] 72) = w4 at *
  have HP3 := Lib.hid (show w.heap.size + 2 ≤ w3.heap.size from by have h1 := HQ.out.c.lt; have h2 := R3.out.lt; omega)
  generalize w3.heap.size = P at *
  clear HP HQ
  have HWR := Lib.hid (show RdLast _ S q _ from whole_run S hdrC.get q HG.out (fun f hf => by
    have k := R.out.c.nz f
    rw [hf] at k
    exact k rfl))
  generalize endS (runS S hdrC.get (.ok 0)) = st at *
  go_upto_region 4 with (go_at_call 48; refine (HEN.out _ _ _ _ R.out.c).mono ?_; rintro e w5 ⟨rfl, ho⟩)
  change Code.wp _ _ _ _ (w5.alloc (.cells #[.int .i64 ((lastS S st).1 : Int), .int .i64 ((lastS S st).2 : Int)] 38))
  have hb := by0 w5 (.cells #[.int .i64 ((lastS S st).1 : Int), .int .i64 ((lastS S st).2 : Int)] 38)
  have hx5 := (ho.block _ (lit_lt HX.out) HPL.out.1 HPL.out.2).trans HX.out
  have HX := Lib.hid ((hb.block _ (lit_lt hx5)).trans hx5)
  have HLP := Lib.hid (lit_lt hx5)
  have HO := Lib.hid (show Below w.heap.size w _ ∧ _ ∧ _ from by
    have h1 := R.out.lt; have h2 := R.out.o
    have hz : Below w.heap.size w w5 := h2.trans ⟨ho.os, ho.tape, ho.output, ho.size, fun k hk => ho.block k (Nat.lt_of_lt_of_le hk h2.size) (by omega) (by omega)⟩
    have hr := (ho.block _ (lit_lt R.out.r) (by omega) (by omega)).trans R.out.r
    have hf := (ho.block _ (lit_lt R.out.f) (by omega) (by omega)).trans R.out.f
    exact ⟨hz.trans (hb.mono hz.size), (hb.block _ (lit_lt hr)).trans hr, (hb.block _ (lit_lt hf)).trans hf⟩)
  have HGF := Lib.hid (heap_alloc_new w5 (.cells #[.int .i64 ((lastS S st).1 : Int), .int .i64 ((lastS S st).2 : Int)] 38))
  clear hx5 ho hb HEN HG R HPL
  generalize w5.alloc (.cells #[.int .i64 ((lastS S st).1 : Int), .int .i64 ((lastS S st).2 : Int)] 38) = w6 at *
  have HPG := Lib.hid (show w.heap.size + 2 ≤ P ∧ w.heap.size + 2 ≤ w5.heap.size from ⟨HP3.out, by have h1 := HLP.out; have h2 := HP3.out; omega⟩)
  generalize w5.heap.size = G at *
  generalize lastS S st = F at *
  obtain ⟨c, b⟩ := F
  simp only at HGF HWR
  have HNE := Lib.hid (show P ≠ w.heap.size ∧ G ≠ w.heap.size ∧ P ≠ w.heap.size + 1 ∧ G ≠ w.heap.size + 1 from by
    have h1 := HPG.out; omega)
  have n1 := HNE.out.1; have n2 := HNE.out.2.1; have n3 := HNE.out.2.2.1; have n4 := HNE.out.2.2.2
  have n5 := n1.symm; have n6 := n2.symm; have n7 := n3.symm; have n8 := n4.symm
  have g0 := (lit_cell HGF.out 0).trans rfl; have g1 := (lit_cell HGF.out 1).trans rfl
  have y0 := (lit_cell HX.out 0).trans rfl
  have y1 := (lit_cell HX.out 1).trans rfl
  have y2 := (lit_cell HX.out 2).trans rfl
  have y3 := (lit_cell HX.out 3).trans rfl
  have x0 := (lit_cell HO.out.2.1 0).trans rfl; have p0 := lit_free HO.out.2.1 0
  have x1 := (lit_cell HO.out.2.1 1).trans rfl; have p1 := lit_free HO.out.2.1 1
  have x2 := (lit_cell HO.out.2.1 2).trans rfl; have p2 := lit_free HO.out.2.1 2
  have x3 := (lit_cell HO.out.2.1 3).trans rfl; have p3 := lit_free HO.out.2.1 3
  have t0 := (lit_cell HO.out.2.2 0).trans rfl; have s0 := lit_free HO.out.2.2 0
  have t1 := (lit_cell HO.out.2.2 1).trans rfl; have s1 := lit_free HO.out.2.2 1
  by_cases hc : c = 0
  · subst hc
    clear HGF HX HNE HPG HLP HP3
    go_upto_region 6 with fail
    go_region
    go_wp2
    clear x0 p0 y0 x1 p1 y1 x2 p2 y2 x3 p3 y3 t0 t1 s0 s1 g0 g1 n1 n2 n3 n4 n5 n6 n7 n8
    have KEY := drew_facts (show Below w.heap.size w (((((((w6).setCell ⟨w.heap.size, 0, none⟩ (.int .u64 (q.round : Int))).setCell ⟨w.heap.size, 1, none⟩ (.string ⟨q.prev.toArray⟩)).setCell ⟨w.heap.size, 2, none⟩ (.string ⟨q.txns.toArray⟩)).setCell ⟨w.heap.size, 3, none⟩ (.string ⟨q.seed.toArray⟩)).setCell ⟨w.heap.size + 1, 0, none⟩ (.int .i64 0)).setCell ⟨w.heap.size + 1, 1, none⟩ (.int .i64 (b : Int))) ∧ (((((((w6).setCell ⟨w.heap.size, 0, none⟩ (.int .u64 (q.round : Int))).setCell ⟨w.heap.size, 1, none⟩ (.string ⟨q.prev.toArray⟩)).setCell ⟨w.heap.size, 2, none⟩ (.string ⟨q.txns.toArray⟩)).setCell ⟨w.heap.size, 3, none⟩ (.string ⟨q.seed.toArray⟩)).setCell ⟨w.heap.size + 1, 0, none⟩ (.int .i64 0)).setCell ⟨w.heap.size + 1, 1, none⟩ (.int .i64 (b : Int))).heap[w.heap.size]? = some (.cells #[.int .u64 (q.round : Int), .string ⟨q.prev.toArray⟩, .string ⟨q.txns.toArray⟩, .string ⟨q.seed.toArray⟩] 72 (0, 0)) ∧ (((((((w6).setCell ⟨w.heap.size, 0, none⟩ (.int .u64 (q.round : Int))).setCell ⟨w.heap.size, 1, none⟩ (.string ⟨q.prev.toArray⟩)).setCell ⟨w.heap.size, 2, none⟩ (.string ⟨q.txns.toArray⟩)).setCell ⟨w.heap.size, 3, none⟩ (.string ⟨q.seed.toArray⟩)).setCell ⟨w.heap.size + 1, 0, none⟩ (.int .i64 0)).setCell ⟨w.heap.size + 1, 1, none⟩ (.int .i64 (b : Int))).heap[w.heap.size + 1]? = some (.cells #[.int .i64 0, .int .i64 (b : Int)] 38 (0, 0)) from by
      have hB := HO.out.1
      have hT : Only w.heap.size w6 (((((w6).setCell ⟨w.heap.size, 0, none⟩ (.int .u64 (q.round : Int))).setCell ⟨w.heap.size, 1, none⟩ (.string ⟨q.prev.toArray⟩)).setCell ⟨w.heap.size, 2, none⟩ (.string ⟨q.txns.toArray⟩)).setCell ⟨w.heap.size, 3, none⟩ (.string ⟨q.seed.toArray⟩)) := (((Only.set w.heap.size 0 (.int .u64 (q.round : Int)) _).trans (Only.set w.heap.size 1 (.string ⟨q.prev.toArray⟩) _)).trans (Only.set w.heap.size 2 (.string ⟨q.txns.toArray⟩) _)).trans (Only.set w.heap.size 3 (.string ⟨q.seed.toArray⟩) _)
      have hF : Only (w.heap.size + 1) (((((w6).setCell ⟨w.heap.size, 0, none⟩ (.int .u64 (q.round : Int))).setCell ⟨w.heap.size, 1, none⟩ (.string ⟨q.prev.toArray⟩)).setCell ⟨w.heap.size, 2, none⟩ (.string ⟨q.txns.toArray⟩)).setCell ⟨w.heap.size, 3, none⟩ (.string ⟨q.seed.toArray⟩)) (((((((w6).setCell ⟨w.heap.size, 0, none⟩ (.int .u64 (q.round : Int))).setCell ⟨w.heap.size, 1, none⟩ (.string ⟨q.prev.toArray⟩)).setCell ⟨w.heap.size, 2, none⟩ (.string ⟨q.txns.toArray⟩)).setCell ⟨w.heap.size, 3, none⟩ (.string ⟨q.seed.toArray⟩)).setCell ⟨w.heap.size + 1, 0, none⟩ (.int .i64 0)).setCell ⟨w.heap.size + 1, 1, none⟩ (.int .i64 (b : Int))) := (Only.set (w.heap.size + 1) 0 (.int .i64 0) _).trans (Only.set (w.heap.size + 1) 1 (.int .i64 (b : Int)) _)
      have hxT := lit_set (k := 3) (.string ⟨q.seed.toArray⟩) (lit_set (k := 2) (.string ⟨q.txns.toArray⟩) (lit_set (k := 1) (.string ⟨q.prev.toArray⟩) (lit_set (k := 0) (.int .u64 (q.round : Int)) (HO.out.2.1))))
      have hfT := (hT.block (w.heap.size + 1) (lit_lt HO.out.2.2) (by omega)).trans HO.out.2.2
      exact ⟨hB.trans ((hT.below (Nat.le_refl _) hB.size).trans (hF.below (by omega) (Nat.le_trans hB.size hT.size))), (hF.block _ (lit_lt hxT) (by omega)).trans hxT, lit_set (k := 1) (.int .i64 (b : Int)) (lit_set (k := 0) (.int .i64 0) hfT)⟩)
    obtain ⟨w7, hw⟩ : ∃ w7, (((((((w6).setCell ⟨w.heap.size, 0, none⟩ (.int .u64 (q.round : Int))).setCell ⟨w.heap.size, 1, none⟩ (.string ⟨q.prev.toArray⟩)).setCell ⟨w.heap.size, 2, none⟩ (.string ⟨q.txns.toArray⟩)).setCell ⟨w.heap.size, 3, none⟩ (.string ⟨q.seed.toArray⟩)).setCell ⟨w.heap.size + 1, 0, none⟩ (.int .i64 0)).setCell ⟨w.heap.size + 1, 1, none⟩ (.int .i64 (b : Int))).drew = w7 := ⟨_, rfl⟩
    rw [hw] at KEY ⊢
    clear hw
    obtain ⟨k1, k2, k3⟩ := KEY
    have v0 := (lit_cell k2 0).trans rfl
    have v1 := (lit_cell k2 1).trans rfl
    have v2 := (lit_cell k2 2).trans rfl
    have v3 := (lit_cell k2 3).trans rfl
    have u0 := (lit_cell k3 0).trans rfl
    have u1 := (lit_cell k3 1).trans rfl
    refine bodyPost_ret (v := .tuple #[.agg #[.int .u64 (q.round : Int), .string ⟨q.prev.toArray⟩, .string ⟨q.txns.toArray⟩, .string ⟨q.seed.toArray⟩], .agg #[.int .i64 0, .int .i64 (b : Int)]]) (by simp [results, Tryz.results37, go_sem, v0, v1, v2, v3, u0, u1]) rfl ⟨q, (0, b), rfl, Lib.hid (rd_good HWR.out _), k1⟩
  · have hcf : ((c : Int) == 0) = false := by rw [beq_eq_false_iff_ne]; omega
    have hcf2 : ((c : Int) != 0) = true := by rw [bne_iff_ne]; omega
    have HC0 := Lib.hid hc
    clear hc HGF HX HNE HPG HLP HP3
    go_upto_region 5 with fail
    go_region
    go_wp2
    clear x0 p0 y0 x1 p1 y1 x2 p2 y2 x3 p3 y3 t0 t1 s0 s1 g0 g1 n1 n2 n3 n4 n5 n6 n7 n8
    have KEY := drew_facts (show Below w.heap.size w (((((((w6).setCell ⟨w.heap.size, 0, none⟩ (.int .u64 0)).setCell ⟨w.heap.size, 1, none⟩ (.string ⟨#[]⟩)).setCell ⟨w.heap.size, 2, none⟩ (.string ⟨#[]⟩)).setCell ⟨w.heap.size, 3, none⟩ (.string ⟨#[]⟩)).setCell ⟨w.heap.size + 1, 0, none⟩ (.int .i64 (c : Int))).setCell ⟨w.heap.size + 1, 1, none⟩ (.int .i64 (b : Int))) ∧ (((((((w6).setCell ⟨w.heap.size, 0, none⟩ (.int .u64 0)).setCell ⟨w.heap.size, 1, none⟩ (.string ⟨#[]⟩)).setCell ⟨w.heap.size, 2, none⟩ (.string ⟨#[]⟩)).setCell ⟨w.heap.size, 3, none⟩ (.string ⟨#[]⟩)).setCell ⟨w.heap.size + 1, 0, none⟩ (.int .i64 (c : Int))).setCell ⟨w.heap.size + 1, 1, none⟩ (.int .i64 (b : Int))).heap[w.heap.size]? = some (.cells #[.int .u64 0, .string ⟨#[]⟩, .string ⟨#[]⟩, .string ⟨#[]⟩] 72 (0, 0)) ∧ (((((((w6).setCell ⟨w.heap.size, 0, none⟩ (.int .u64 0)).setCell ⟨w.heap.size, 1, none⟩ (.string ⟨#[]⟩)).setCell ⟨w.heap.size, 2, none⟩ (.string ⟨#[]⟩)).setCell ⟨w.heap.size, 3, none⟩ (.string ⟨#[]⟩)).setCell ⟨w.heap.size + 1, 0, none⟩ (.int .i64 (c : Int))).setCell ⟨w.heap.size + 1, 1, none⟩ (.int .i64 (b : Int))).heap[w.heap.size + 1]? = some (.cells #[.int .i64 (c : Int), .int .i64 (b : Int)] 38 (0, 0)) from by
      have hB := HO.out.1
      have hT : Only w.heap.size w6 (((((w6).setCell ⟨w.heap.size, 0, none⟩ (.int .u64 0)).setCell ⟨w.heap.size, 1, none⟩ (.string ⟨#[]⟩)).setCell ⟨w.heap.size, 2, none⟩ (.string ⟨#[]⟩)).setCell ⟨w.heap.size, 3, none⟩ (.string ⟨#[]⟩)) := (((Only.set w.heap.size 0 (.int .u64 0) _).trans (Only.set w.heap.size 1 (.string ⟨#[]⟩) _)).trans (Only.set w.heap.size 2 (.string ⟨#[]⟩) _)).trans (Only.set w.heap.size 3 (.string ⟨#[]⟩) _)
      have hF : Only (w.heap.size + 1) (((((w6).setCell ⟨w.heap.size, 0, none⟩ (.int .u64 0)).setCell ⟨w.heap.size, 1, none⟩ (.string ⟨#[]⟩)).setCell ⟨w.heap.size, 2, none⟩ (.string ⟨#[]⟩)).setCell ⟨w.heap.size, 3, none⟩ (.string ⟨#[]⟩)) (((((((w6).setCell ⟨w.heap.size, 0, none⟩ (.int .u64 0)).setCell ⟨w.heap.size, 1, none⟩ (.string ⟨#[]⟩)).setCell ⟨w.heap.size, 2, none⟩ (.string ⟨#[]⟩)).setCell ⟨w.heap.size, 3, none⟩ (.string ⟨#[]⟩)).setCell ⟨w.heap.size + 1, 0, none⟩ (.int .i64 (c : Int))).setCell ⟨w.heap.size + 1, 1, none⟩ (.int .i64 (b : Int))) := (Only.set (w.heap.size + 1) 0 (.int .i64 (c : Int)) _).trans (Only.set (w.heap.size + 1) 1 (.int .i64 (b : Int)) _)
      have hxT := lit_set (k := 3) (.string ⟨#[]⟩) (lit_set (k := 2) (.string ⟨#[]⟩) (lit_set (k := 1) (.string ⟨#[]⟩) (lit_set (k := 0) (.int .u64 0) (HO.out.2.1))))
      have hfT := (hT.block (w.heap.size + 1) (lit_lt HO.out.2.2) (by omega)).trans HO.out.2.2
      exact ⟨hB.trans ((hT.below (Nat.le_refl _) hB.size).trans (hF.below (by omega) (Nat.le_trans hB.size hT.size))), (hF.block _ (lit_lt hxT) (by omega)).trans hxT, lit_set (k := 1) (.int .i64 (b : Int)) (lit_set (k := 0) (.int .i64 (c : Int)) hfT)⟩)
    obtain ⟨w7, hw⟩ : ∃ w7, (((((((w6).setCell ⟨w.heap.size, 0, none⟩ (.int .u64 0)).setCell ⟨w.heap.size, 1, none⟩ (.string ⟨#[]⟩)).setCell ⟨w.heap.size, 2, none⟩ (.string ⟨#[]⟩)).setCell ⟨w.heap.size, 3, none⟩ (.string ⟨#[]⟩)).setCell ⟨w.heap.size + 1, 0, none⟩ (.int .i64 (c : Int))).setCell ⟨w.heap.size + 1, 1, none⟩ (.int .i64 (b : Int))).drew = w7 := ⟨_, rfl⟩
    rw [hw] at KEY ⊢
    clear hw
    obtain ⟨k1, k2, k3⟩ := KEY
    have v0 := (lit_cell k2 0).trans rfl
    have v1 := (lit_cell k2 1).trans rfl
    have v2 := (lit_cell k2 2).trans rfl
    have v3 := (lit_cell k2 3).trans rfl
    have u0 := (lit_cell k3 0).trans rfl
    have u1 := (lit_cell k3 1).trans rfl
    refine bodyPost_ret (v := .tuple #[.agg #[.int .u64 0, .string ⟨#[]⟩, .string ⟨#[]⟩, .string ⟨#[]⟩], .agg #[.int .i64 (c : Int), .int .i64 (b : Int)]]) (by simp [results, Tryz.results37, go_sem, v0, v1, v2, v3, u0, u1]) rfl ⟨zHdr, (c, b), rfl, Lib.hid (rd_bad HWR.out HC0.out), k1⟩
end Go.Proofs.YtgdhljbcclbfaaaGreatDoor
