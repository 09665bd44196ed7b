/- read[Slot]. -/
import Derived.Test.YtbkiijndhjmkdaaGreatDoorJ25
namespace Go.Proofs.YtbkiijndhjmkdaaGreatDoor
open Go.RowKit

/-- a list that was made behind lo -/
def Fresh (lo : Nat) (ao : Option Addr) (L : List (List UInt8)) (w : World) : Prop := L = [] ∨ ∃ b, ao = some ⟨b, 0, none⟩ ∧ lo ≤ b ∧ b < w.heap.size ∧ ∀ i (h : i < L.length), w.cell? ⟨b, i, none⟩ = some (.string ⟨(L[i]).toArray⟩)
theorem OwnS.fresh {B rb t lo cp : Nat} {ao : Option Addr} {L : List (List UInt8)} {w w' : World} (h : OwnS B rb t ao cp L w) (hl : lo ≤ B) (hk : ∀ k, k < w.heap.size → B ≤ k → k ≠ t → k ≠ rb → w'.heap[k]? = w.heap[k]?) (hs : w.heap.size ≤ w'.heap.size) : Fresh lo ao L w' := by
  rcases h with h | ⟨b, _, h1, h2, h3, h4, h5, h6⟩
  · exact .inl h.1
  · exact .inr ⟨b, h1, by omega, by omega, fun i hi => (World.cell?_of_block (a := ⟨b, i, none⟩) (hk b h5 h2 h4 h3)).trans (h6 i hi)⟩

/-- what read answers -/
def AnsSlot (S : (List UInt8)) (w : World) (e : Ending) (w' : World) : Prop := match wholeG slotC.get S with
  | .ok p => (∃ x : SlotE, x.r = p ∧ e = .returned (.tuple #[slotV x, .nilIface]) ∧ Fresh w.heap.size x.wa p.sig.wots w' ∧ Fresh w.heap.size x.pa p.sig.path w') ∧ Below w.heap.size w w'
  | .error (c, b) => c ≠ 0 ∧ (∃ v, e = .returned (.tuple #[.agg #[.int .u64 0, .bool false, .int .u64 0, .slice none 0 0, .slice none 0 0], v]) ∧ ErrV w.heap.size c b v w') ∧ Below w.heap.size w w'
set_option maxRecDepth 100000 in
set_option maxHeartbeats 4000000 in
theorem freadSlot_any (S : (List UInt8)) (w : World) (hG : GlobW w) (hS : S.length ≤ 1000000) (hgl : 4 ≤ w.heap.size) :
    Calls Tryz.prog 55 #[.string ⟨S.toArray⟩, .func (.func 52) #[] #[]] w (AnsSlot S w) := by
  have hmf : ∀ (fn : Fn) (first cap : Array Value) (w : World), (Instr.makeFunc fn first cap).run Tryz.prog w = .ok (.func fn first cap) w := fun _ _ _ _ => rfl
  have hb0 : Below w.heap.size w ((w.alloc (.cells #[.int .u64 0, .bool false, .int .u64 0, .slice none 0 0, .slice none 0 0] 48)).alloc (.cells #[.nilIface] 34)) := (by0 w _).alloc (by simp) _
  have hz0 : ((w.alloc (.cells #[.int .u64 0, .bool false, .int .u64 0, .slice none 0 0, .slice none 0 0] 48)).alloc (.cells #[.nilIface] 34)).heap.size = w.heap.size + 1 + 1 := by simp
  have hx0 : ((w.alloc (.cells #[.int .u64 0, .bool false, .int .u64 0, .slice none 0 0, .slice none 0 0] 48)).alloc (.cells #[.nilIface] 34)).heap[w.heap.size]? = some (.cells #[.int .u64 0, .bool false, .int .u64 0, .slice none 0 0, .slice none 0 0] 48 (0, 0)) := lit_old _ (heap_alloc_new w _)
  have he0 : ((w.alloc (.cells #[.int .u64 0, .bool false, .int .u64 0, .slice none 0 0, .slice none 0 0] 48)).alloc (.cells #[.nilIface] 34)).heap[w.heap.size + 1]? = some (.cells #[.nilIface] 34 (0, 0)) := by
    rw [show w.heap.size + 1 = (w.alloc (.cells #[.int .u64 0, .bool false, .int .u64 0, .slice none 0 0, .slice none 0 0] 48)).heap.size by simp]; exact heap_alloc_new _ _
  have HB0 := Lib.hid hb0
  have HZ0 := Lib.hid hz0
  have HX0 := Lib.hid hx0
  have HE0 := Lib.hid he0
  have HG := Lib.hid hG
  have HSL := Lib.hid hS
  have HGL := Lib.hid hgl
  have HU := Lib.hid (reader_c.new S 10240 _ (hG.u.next hb0) hS (by decide) (by decide))
  clear hb0 hz0 hx0 he0 hG hS hgl
  go_enter_defers Tryz.func55, Tryz.ntmps55
  go_upto_region 2 with fail
  generalize (w.alloc (.cells #[.int .u64 0, .bool false, .int .u64 0, .slice none 0 0, .slice none 0 0] 48)).alloc (.cells #[.nilIface] 34) = w1 at *
  go_upto_region 3 with (go_at_call 86; refine HU.out.mono ?_; rintro e w2 ⟨rb, hrb, rfl, hr2, hb2⟩)
  have hz0 := HZ0.out
  have hb02 : Below w.heap.size w w2 := HB0.out.trans (hb2.mono (by omega))
  have hx2 := (hb2.block w.heap.size (by omega)).trans HX0.out
  have he2 := (hb2.block (w.heap.size + 1) (by omega)).trans HE0.out
  have hrl : rb < w2.heap.size := lit_lt hr2.r
  have hN : (w2.alloc (.cells #[.pointer (some ⟨rb, 0, none⟩)] 158)).drew.heap[w2.heap.size]? = some (.cells #[.pointer (some ⟨rb, 0, none⟩)] 158 (0, 0)) := heap_alloc_new w2 _
  have hb23 : Below w2.heap.size w2 (w2.alloc (.cells #[.pointer (some ⟨rb, 0, none⟩)] 158)).drew := (by0 w2 _).drew
  have HS3 : Hid (w2.heap.size < (w2.alloc (.cells #[.pointer (some ⟨rb, 0, none⟩)] 158)).drew.heap.size) := Lib.hid (by show _ < (w2.alloc _).heap.size; rw [World.size_alloc]; omega)
  refine wp_cel (X := .pointer (some ⟨w.heap.size, 0, none⟩)) (Y := .pointer (some ⟨w.heap.size + 1, 0, none⟩)) (D := [{ target := .fn (.func 107) #[.pointer (some ⟨w.heap.size, 0, none⟩), .pointer (some ⟨w.heap.size + 1, 0, none⟩)], args := #[] }]) ?_
  refine wp_region_held_drew (S := fun w' => w'.heap[w2.heap.size]? = some (.cells #[.pointer (some ⟨rb, 0, none⟩)] 158 (0, 0))) (by kernel_rfl) hN (fun hH => ?_)
  generalize (w2.alloc (.cells #[.pointer (some ⟨rb, 0, none⟩)] 158)).drew = w3 at *
  have HR := Lib.hid (slot_mk w3.heap.size w.heap.size 0 w3 (Nat.le_refl _))
  have HB03 := Lib.hid (hb02.trans (hb23.mono hb02.size))
  have HX3 := Lib.hid ((hb23.block w.heap.size (lit_lt hx2)).trans hx2)
  have HE3 := Lib.hid ((hb23.block (w.heap.size + 1) (lit_lt he2)).trans he2)
  have HR3 : Hid (RQ rb S 0 10240 w3) := Lib.hid ⟨(hb23.block rb hrl).trans hr2.r, hr2.m⟩
  have HRL : Hid (w.heap.size + 1 + 1 ≤ rb ∧ rb < w2.heap.size) := Lib.hid (by omega)
  clear hb02 hx2 he2 hb23 hN hr2 hb2 hrl
  refine wpAnyH_take (i := 0) (oi := ⟨some 12, .load 158 (.tmp 6), _, _, _, none⟩) (v := .agg #[.pointer (some ⟨rb, 0, none⟩)]) rfl (by kernel_rfl) (by kernel_rfl) (by kernel_rfl) (Cel.put (by decide)) (Or.inl ⟨by rfl, fun w1 hS => by have c0 := (lit_cell hS 0).trans rfl; go_simp⟩) hH ?_
  try simp only [Act.put, List.setIfInBounds_toArray, List.set_cons_succ, List.set_cons_zero]
  refine wpAnyH_take (i := 1) (oi := ⟨some 13, .move (.tmp 1), _, _, _, none⟩) (v := .func (.func 52) #[] #[]) rfl (by kernel_rfl) (by kernel_rfl) (by kernel_rfl) (Cel.put (by decide)) (Or.inl ⟨by rfl, fun _ _ => rfl⟩) hH ?_
  try simp only [Act.put, List.setIfInBounds_toArray, List.set_cons_succ, List.set_cons_zero]
  refine wpAnyH_ready (rs := [2]) (by kernel_rfl) (by simp) (AllReadyH.cons (o := ⟨some 14, .call ⟨.value (.tmp 13), #[.tmp 4], #[_]⟩, _, _, _, none⟩) rfl (fun K hK => ?_) AllReadyH.nil)
  have HK := Lib.hid hK
  clear hK
  go_simp
  refine HR.out.mono ?_
  rintro e w4 ⟨fb, fs, rfl, hK4, hb4⟩
  have hH4 := (hb4.block w2.heap.size (lit_lt hH)).trans hH
  obtain ⟨xs, hfs, hxn, hxg, hxf, hxfin⟩ := slot_rd (B := w.heap.size + 1 + 1) (S := S) (rb := rb) hK4 (by have := HRL.out; have := HS3.out; omega) (by have := HRL.out; omega) HSL.out ⟨by have := HRL.out; have := HGL.out; omega, HGL.out⟩ (by have := lit_lt HX3.out; have := hb4.size; omega)
  have HB04 := Lib.hid (HB03.out.trans (hb4.mono HB03.out.size))
  have HX4 := Lib.hid ((hb4.block w.heap.size (lit_lt HX3.out)).trans HX3.out)
  have HE4 := Lib.hid ((hb4.block (w.heap.size + 1) (lit_lt HE3.out)).trans HE3.out)
  have HR4 : Hid (RQ rb S 0 10240 w4) := Lib.hid ⟨(hb4.block rb (by have := HRL.out; have := HS3.out; omega)).trans HR3.out.r, HR3.out.m⟩
  have hflds := slot_flds
  have hGU4 := HG.out.u.next HB04.out
  have hrow := wrow_any w4 rb w.heap.size fb 0 3 S (RpSlot (w.heap.size + 1 + 1) rb w.heap.size) (fun p u u' h ho => h.next (by have := HRL.out; omega) (Duo.only ho)) xs hxf zSlot (by rw [hxg]; exact slot_flds) 0 w4 (by have := HRL.out; have := HGL.out; omega) HSL.out (by rw [hxn]; decide) (by rw [← hfs]; exact hK4.r.row) (lit_lt hK4.r) (by have := hK4.l; have := HRL.out; have := HS3.out; omega) (by have := lit_lt HX4.out; exact this) ⟨Duo.refl _ _ _, hGU4, ⟨⟨by have := lit_lt HE4.out; omega, by have := lit_lt HR4.out.r; omega⟩, none, 0, none, 0, HX4.out, .inl ⟨rfl, rfl, rfl⟩, .inl ⟨rfl, rfl, rfl⟩⟩, HR4.out, Nat.zero_le _⟩
  rw [hxg, mapG_congr slot_flds hxfin, hxn, List.drop_zero] at hrow
  have HGU4 := Lib.hid hGU4
  have HROW := Lib.hid hrow
  clear hrow hfs hxn hxg hxf hxfin hK4 hb4 hflds hGU4
  refine HK.out.out _ _ hH4 (fun _ => ?_)
  clear HK K
  try simp only [Act.put, List.setIfInBounds_toArray, List.set_cons_succ, List.set_cons_zero]
  refine wpAnyH_ready (rs := [3]) (by kernel_rfl) (by simp) (AllReadyH.cons (o := ⟨some 15, .call ⟨.value (.func 87), #[.tmp 12, .tmp 14], #[158, 95]⟩, _, _, _, none⟩) rfl (fun K hK => ?_) AllReadyH.nil)
  have HK := Lib.hid hK
  clear hK
  go_simp
  refine HROW.out.mono ?_
  intro e w5 h5
  change Read rb w.heap.size S (RpSlot (w.heap.size + 1 + 1) rb w.heap.size) 0 w4.heap.size w4 (slotC.get S 0) e w5 at h5
  cases hres : slotC.get S 0 with
  | error f =>
    rw [hres] at h5
    obtain ⟨hc, ⟨g, hg, rfl, hf0, hf1⟩, hd, q, _, wa, wc, pa, pc, hq, _, _⟩ := h5
    refine ⟨⟨rfl, rfl, rfl⟩, fun tm hm4 hm5 => ?_⟩
    have hrb := HRL.out
    have hE5 := (hd.block (w.heap.size + 1) (lit_lt HE4.out) (by omega) (by omega)).trans HE4.out
    have hgl5 := World.block_lt_of_cell? _ _ hf0
    have hg4 := lit_lt HE4.out
    refine leaves_cons (f := 107) (args := #[.pointer (some ⟨w.heap.size, 0, none⟩), .pointer (some ⟨w.heap.size + 1, 0, none⟩)]) (by simp) (by simp [go_sem]) ?_
    refine (readSlot1_catch g w.heap.size (w.heap.size + 1) _ _ _ _ _ .nilIface [] w5 (HGU4.out.duo hd (by have := HGL.out; omega) HGL.out).e hgl5 (by omega) hq hE5).mono ?_
    rintro e u' w'' ⟨rfl, rfl, hC⟩
    have z0 := (lit_cell hC.x 0).trans rfl; have z1 := (lit_cell hC.x 1).trans rfl; have z2 := (lit_cell hC.x 2).trans rfl; have z3 := (lit_cell hC.x 3).trans rfl; have z4 := (lit_cell hC.x 4).trans rfl
    have y0 := (lit_cell hC.e 0).trans rfl
    refine ⟨.tuple #[.agg #[.int .u64 0, .bool false, .int .u64 0, .slice none 0 0, .slice none 0 0], .iface 106 (.pointer (some ⟨g, 0, none⟩))], by simp [results, Tryz.results55, go_sem, hm4, hm5, z0, z1, z2, z3, z4, y0], ?_⟩
    have hgb : ∀ o, w''.cell? ⟨g, o, none⟩ = w5.cell? ⟨g, o, none⟩ := fun o => World.cell?_of_block (a := ⟨g, o, none⟩) (hC.d.block g hgl5 (by omega) (by omega))
    rw [AnsSlot, wholeG, hres]
    exact ⟨hc, ⟨_, rfl, by rw [ErrV, if_neg (by omega)]; exact ⟨g, by omega, rfl, (hgb 0).trans hf0, (hgb 1).trans hf1⟩⟩, below_duo (below_duo HB04.out hd (by omega) (Nat.le_refl _)) hC.d (Nat.le_refl _) (by omega)⟩
  | ok q =>
    obtain ⟨q, k⟩ := q
    rw [hres] at h5
    obtain ⟨rfl, hq, hR5, hk, hd⟩ := h5
    obtain ⟨_, wa, wc, pa, pc, hq, hO1, hO2⟩ := hq
    have HO1 := Lib.hid hO1
    have HO2 := Lib.hid hO2
    clear hO1 hO2
    have hrb := HRL.out
    have hg4 := lit_lt HE4.out
    have hH5 := (hd.block w2.heap.size (lit_lt hH4) (by omega) (by omega)).trans hH4
    refine HK.out.out _ _ hH5 (fun _ => ?_)
    clear HK K
    try simp only [Act.put, List.setIfInBounds_toArray, List.set_cons_succ, List.set_cons_zero]
    refine wpAnyH_done (by kernel_rfl) ?_ _
    change Exit.then _ (bodyPostD Tryz.prog Tryz.f55 (AnsSlot S w)) Exit.normal _ _
    have hGU5 := HGU4.out.duo hd (by have := HGL.out; omega) HGL.out
    have HB05 := Lib.hid (below_duo HB04.out hd (by omega) (Nat.le_refl _))
    have hE5 := (hd.block (w.heap.size + 1) (lit_lt HE4.out) (by omega) (by omega)).trans HE4.out
    have HF := Lib.hid (reader_c.fin rb S (0 + k) 10240 w5 hR5 hGU5 HSL.out hk)
    have HQ := Lib.hid hq
    have HE5 := Lib.hid hE5
    have HGU5 := Lib.hid hGU5
    have HLT := Lib.hid (show w.heap.size + 1 < w5.heap.size from lit_lt hE5)
    have c0 := (lit_cell hH5 0).trans rfl
    clear hq hR5 hd hrb hg4 hH5 hGU5 hE5 hk hH hH4 hmf
    by_cases hl : 0 + k < S.length
    · have HA : Hid (wholeG slotC.get S = .error (5, k)) := Lib.hid (by rw [wholeG, hres]; exact if_pos (by omega))
      rw [if_pos hl] at HF
      clear hl hres
      go_wp2_with (go_at_call 88; refine HF.out.mono ?_; rintro e w6 ⟨v, rfl, hv, hb6⟩; obtain ⟨g, rfl, g1, hg, hgg, hf0, hf1⟩ := hv.shape (by decide); cases hgg)
      have hX6 := (hb6.block w.heap.size (by have := HLT.out; omega)).trans HQ.out
      have hE6 := (hb6.block (w.heap.size + 1) HLT.out).trans HE5.out
      have hgl5 := World.block_lt_of_cell? _ _ hf0
      have hlt := HLT.out
      refine leaves_cons (f := 107) (args := #[.pointer (some ⟨w.heap.size, 0, none⟩), .pointer (some ⟨w.heap.size + 1, 0, none⟩)]) (by simp) (by simp [go_sem]) ?_
      refine (readSlot1_catch g w.heap.size (w.heap.size + 1) _ _ _ _ _ .nilIface [] w6 (HGU5.out.next hb6).e hgl5 (by omega) hX6 hE6).mono ?_
      rintro e u' w'' ⟨rfl, rfl, hC⟩
      have z0 := (lit_cell hC.x 0).trans rfl; have z1 := (lit_cell hC.x 1).trans rfl; have z2 := (lit_cell hC.x 2).trans rfl; have z3 := (lit_cell hC.x 3).trans rfl; have z4 := (lit_cell hC.x 4).trans rfl
      have y0 := (lit_cell hC.e 0).trans rfl
      refine ⟨.tuple #[.agg #[.int .u64 0, .bool false, .int .u64 0, .slice none 0 0, .slice none 0 0], .iface 106 (.pointer (some ⟨g, 0, none⟩))], by simp [results, Tryz.results55, go_sem, z0, z1, z2, z3, z4, y0], ?_⟩
      have hgb : ∀ o, w''.cell? ⟨g, o, none⟩ = w6.cell? ⟨g, o, none⟩ := fun o => World.cell?_of_block (a := ⟨g, o, none⟩) (hC.d.block g hgl5 (by omega) (by omega))
      rw [AnsSlot, HA.out]
      exact ⟨by decide, ⟨_, rfl, by rw [ErrV, if_neg (by decide)]; exact ⟨g, by omega, rfl, (hgb 0).trans hf0, (hgb 1).trans (hf1.trans (by rw [Nat.zero_add]))⟩⟩, below_duo (HB05.out.trans (hb6.mono (by omega))) hC.d (Nat.le_refl _) (by omega)⟩
    · have HA : Hid (wholeG slotC.get S = .ok q) := Lib.hid (by rw [wholeG, hres]; exact if_neg (by omega))
      rw [if_neg hl] at HF
      clear hl hres
      go_wp2_with (go_at_call 88; refine HF.out.mono ?_; rintro e w6 ⟨v, rfl, hv, hb6⟩; have hnil := hv.nil rfl; subst hnil; have hX6 := (hb6.block w.heap.size (by have := HLT.out; omega)).trans HQ.out; have hE6 := (hb6.block (w.heap.size + 1) HLT.out).trans HE5.out; simp only [slotQ] at hX6; have p0 := (lit_cell hX6 0).trans rfl; have q0 := lit_free hX6 0; have p1 := (lit_cell hX6 1).trans rfl; have q1 := lit_free hX6 1; have p2 := (lit_cell hX6 2).trans rfl; have q2 := lit_free hX6 2; have p3 := (lit_cell hX6 3).trans rfl; have q3 := lit_free hX6 3; have p4 := (lit_cell hX6 4).trans rfl; have q4 := lit_free hX6 4; have y0 := (lit_cell hE6 0).trans rfl; have y1 := lit_free hE6 0)
      have hlt := HLT.out
      have hx7 := lit_set (k := 4) (.slice pa q.sig.path.length pc) (lit_set (k := 3) (.slice wa q.sig.wots.length wc) (lit_set (k := 2) (.int .u64 (q.sig.index : Int)) (lit_set (k := 1) (.bool q.signed) (lit_set (k := 0) (.int .u64 (q.l : Int)) (hX6)))))
      have ho7 : Only w.heap.size w6 ((((((w6).setCell ⟨w.heap.size, 0, none⟩ (.int .u64 (q.l : Int))).setCell ⟨w.heap.size, 1, none⟩ (.bool q.signed)).setCell ⟨w.heap.size, 2, none⟩ (.int .u64 (q.sig.index : Int))).setCell ⟨w.heap.size, 3, none⟩ (.slice wa q.sig.wots.length wc)).setCell ⟨w.heap.size, 4, none⟩ (.slice pa q.sig.path.length pc)) := ((((((Only.refl w.heap.size w6).trans (Only.set w.heap.size 0 (.int .u64 (q.l : Int)) (w6))).trans (Only.set w.heap.size 1 (.bool q.signed) ((w6).setCell ⟨w.heap.size, 0, none⟩ (.int .u64 (q.l : Int))))).trans (Only.set w.heap.size 2 (.int .u64 (q.sig.index : Int)) (((w6).setCell ⟨w.heap.size, 0, none⟩ (.int .u64 (q.l : Int))).setCell ⟨w.heap.size, 1, none⟩ (.bool q.signed)))).trans (Only.set w.heap.size 3 (.slice wa q.sig.wots.length wc) ((((w6).setCell ⟨w.heap.size, 0, none⟩ (.int .u64 (q.l : Int))).setCell ⟨w.heap.size, 1, none⟩ (.bool q.signed)).setCell ⟨w.heap.size, 2, none⟩ (.int .u64 (q.sig.index : Int))))).trans (Only.set w.heap.size 4 (.slice pa q.sig.path.length pc) (((((w6).setCell ⟨w.heap.size, 0, none⟩ (.int .u64 (q.l : Int))).setCell ⟨w.heap.size, 1, none⟩ (.bool q.signed)).setCell ⟨w.heap.size, 2, none⟩ (.int .u64 (q.sig.index : Int))).setCell ⟨w.heap.size, 3, none⟩ (.slice wa q.sig.wots.length wc))))
      have he7 := (ho7.block (w.heap.size + 1) (lit_lt hE6) (by omega)).trans hE6
      have hd7 : Below w.heap.size w ((((((w6).setCell ⟨w.heap.size, 0, none⟩ (.int .u64 (q.l : Int))).setCell ⟨w.heap.size, 1, none⟩ (.bool q.signed)).setCell ⟨w.heap.size, 2, none⟩ (.int .u64 (q.sig.index : Int))).setCell ⟨w.heap.size, 3, none⟩ (.slice wa q.sig.wots.length wc)).setCell ⟨w.heap.size, 4, none⟩ (.slice pa q.sig.path.length pc)) := below_duo (HB05.out.trans (hb6.mono (by omega))) (Duo.only (x := w.heap.size) ho7) (Nat.le_refl _) (Nat.le_refl _)
      generalize (((((w6).setCell ⟨w.heap.size, 0, none⟩ (.int .u64 (q.l : Int))).setCell ⟨w.heap.size, 1, none⟩ (.bool q.signed)).setCell ⟨w.heap.size, 2, none⟩ (.int .u64 (q.sig.index : Int))).setCell ⟨w.heap.size, 3, none⟩ (.slice wa q.sig.wots.length wc)).setCell ⟨w.heap.size, 4, none⟩ (.slice pa q.sig.path.length pc) = w7 at *
      have hx8 := (lit_far (w := w7) (b := w.heap.size + 1) (c := w.heap.size) (k := 0) .nilIface (by omega)).trans hx7
      have he8 := lit_set (k := 0) .nilIface he7
      have hk8 : ∀ k, k < w6.heap.size → k ≠ w.heap.size → k ≠ w.heap.size + 1 → (w7.setCell ⟨w.heap.size + 1, 0, none⟩ .nilIface).heap[k]? = w6.heap[k]? := fun k hk h1 h2 => (lit_far _ h2).trans (ho7.block k hk h1)
      have hs8 : w6.heap.size ≤ (w7.setCell ⟨w.heap.size + 1, 0, none⟩ .nilIface).heap.size := by simp; exact ho7.size
      have hb8 : Below w.heap.size w (w7.setCell ⟨w.heap.size + 1, 0, none⟩ .nilIface) := hd7.setCell (by simp) _
      generalize w7.setCell ⟨w.heap.size + 1, 0, none⟩ .nilIface = w8 at *
      refine leaves_cons (f := 107) (args := #[.pointer (some ⟨w.heap.size, 0, none⟩), .pointer (some ⟨w.heap.size + 1, 0, none⟩)]) (by simp) (by simp [go_sem]) ?_
      refine (readSlot1_idle w.heap.size (w.heap.size + 1) w8).mono ?_
      rintro e u' w'' ⟨rfl, rfl, rfl⟩
      have z0 := (lit_cell hx8 0).trans rfl; have z1 := (lit_cell hx8 1).trans rfl; have z2 := (lit_cell hx8 2).trans rfl; have z3 := (lit_cell hx8 3).trans rfl; have z4 := (lit_cell hx8 4).trans rfl
      have z := (lit_cell he8 0).trans rfl
      refine ⟨.tuple #[slotV ⟨q, wa, wc, pa, pc⟩, .nilIface], by simp [results, Tryz.results55, go_sem, z0, z1, z2, z3, z4, z], ?_⟩
      rw [AnsSlot, HA.out]
      have hs6 := hb6.size
      exact ⟨⟨⟨q, wa, wc, pa, pc⟩, rfl, rfl, HO1.out.fresh (by omega) (fun k hk hB ht _ => (hk8 k (by omega) ht (by omega)).trans (hb6.block k hk)) (by omega), HO2.out.fresh (by omega) (fun k hk hB ht _ => (hk8 k (by omega) ht (by omega)).trans (hb6.block k hk)) (by omega)⟩, hb8⟩
end Go.Proofs.YtbkiijndhjmkdaaGreatDoor
/- ReadSlot of the program. -/
namespace Go.Proofs.YtbkiijndhjmkdaaGreatDoor
open Go.RowKit

theorem Fresh.keep {lo lo' : Nat} {ao : Option Addr} {L : List (List UInt8)} {w w' : World} (h : Fresh lo ao L w) (hl : lo' ≤ lo) (hk : ∀ k, lo ≤ k → w'.heap[k]? = w.heap[k]?) (hs : w.heap.size ≤ w'.heap.size) : Fresh lo' ao L w' := by
  rcases h with h | ⟨b, h1, h2, h3, h4⟩
  · exact .inl h
  · exact .inr ⟨b, h1, by omega, by omega, fun i hi => (World.cell?_of_block (a := ⟨b, i, none⟩) (hk b h2)).trans (h4 i hi)⟩
theorem AnsSlot.open {S : (List UInt8)} {w1 w2 : World} {e : Ending} (h : AnsSlot S w1 e w2) : Below w1.heap.size w1 w2 ∧ ∃ (x : SlotE) (v : Value), e = .returned (.tuple #[slotV x, v]) ∧ ∀ w w'' : World, w.heap.size ≤ w1.heap.size → (∀ k, w1.heap.size ≤ k → w''.heap[k]? = w2.heap[k]?) → w2.heap.size ≤ w''.heap.size → Below w.heap.size w w'' → AnsSlot S w (.returned (.tuple #[slotV x, v])) w'' := by
  rw [AnsSlot] at h
  rcases hr : wholeG slotC.get S with ⟨c, b⟩ | q
  · rw [hr] at h
    obtain ⟨hc, ⟨v, rfl, hv⟩, hb⟩ := h
    refine ⟨hb, ⟨zSlot, none, 0, none, 0⟩, v, rfl, fun w w'' hl hk _ hb2 => ?_⟩
    rw [AnsSlot, hr]
    refine ⟨hc, ⟨v, rfl, ?_⟩, hb2⟩
    unfold ErrV at *
    rw [if_neg (by omega)] at *
    obtain ⟨g, h0, h1, h2, h3⟩ := hv
    have hg : ∀ o, w''.cell? ⟨g, o, none⟩ = w2.cell? ⟨g, o, none⟩ := fun o => World.cell?_of_block (a := ⟨g, o, none⟩) (hk g h0)
    exact ⟨g, by omega, h1, (hg 0).trans h2, (hg 1).trans h3⟩
  · rw [hr] at h
    obtain ⟨⟨x, hx, rfl, h1, h2⟩, hb⟩ := h
    refine ⟨hb, x, _, rfl, fun w w'' hl hk hs hb2 => ?_⟩
    rw [AnsSlot, hr]
    exact ⟨⟨x, hx, rfl, h1.keep hl hk hs, h2.keep hl hk hs⟩, hb2⟩
set_option maxRecDepth 100000 in
set_option maxHeartbeats 1000000 in
theorem wreadSlot_any (S : (List UInt8)) (w : World) (hG : GlobW w) (hS : S.length ≤ 1000000) (hgl : 4 ≤ w.heap.size) : Calls Tryz.prog 21 #[.string ⟨S.toArray⟩] w (AnsSlot S w) := by
  have hb0 : Below w.heap.size w (w.alloc (.cells #[.int .u64 0, .bool false, .int .u64 0, .slice none 0 0, .slice none 0 0] 48)) := by0 w _
  have HN := Lib.hid (heap_alloc_new w (.cells #[.int .u64 0, .bool false, .int .u64 0, .slice none 0 0, .slice none 0 0] 48))
  have HZ := Lib.hid (show (w.alloc (.cells #[.int .u64 0, .bool false, .int .u64 0, .slice none 0 0, .slice none 0 0] 48)).heap.size = w.heap.size + 1 by simp)
  have HC := Lib.hid (freadSlot_any S _ (hG.next hb0) hS (by have := hb0.size; omega))
  have HB := Lib.hid hb0
  clear hG hS hgl hb0
  go_enter Tryz.func21, Tryz.ntmps21
  go_upto_region 1 with fail
  change Code.wp _ _ _ _ (w.alloc (.cells #[.int .u64 0, .bool false, .int .u64 0, .slice none 0 0, .slice none 0 0] 48))
  generalize w.alloc (.cells #[.int .u64 0, .bool false, .int .u64 0, .slice none 0 0, .slice none 0 0] 48) = w1 at *
  go_wp2_with (go_at_call 55; refine HC.out.mono ?_; intro e w2 h; obtain ⟨hb2, x, v, rfl, hA⟩ := h.open; have hX6 := (hb2.block w.heap.size (lit_lt HN.out)).trans HN.out; have p0 := (lit_cell hX6 0).trans rfl; have q0 := lit_free hX6 0; have p1 := (lit_cell hX6 1).trans rfl; have q1 := lit_free hX6 1; have p2 := (lit_cell hX6 2).trans rfl; have q2 := lit_free hX6 2; have p3 := (lit_cell hX6 3).trans rfl; have q3 := lit_free hX6 3; have p4 := (lit_cell hX6 4).trans rfl; have q4 := lit_free hX6 4)
  have hz := HZ.out
  have hx7 := lit_set (k := 4) (.slice x.pa x.r.sig.path.length x.pc) (lit_set (k := 3) (.slice x.wa x.r.sig.wots.length x.wc) (lit_set (k := 2) (.int .u64 (x.r.sig.index : Int)) (lit_set (k := 1) (.bool x.r.signed) (lit_set (k := 0) (.int .u64 (x.r.l : Int)) (hX6)))))
  have ho7 : Only w.heap.size w2 ((((((w2).setCell ⟨w.heap.size, 0, none⟩ (.int .u64 (x.r.l : Int))).setCell ⟨w.heap.size, 1, none⟩ (.bool x.r.signed)).setCell ⟨w.heap.size, 2, none⟩ (.int .u64 (x.r.sig.index : Int))).setCell ⟨w.heap.size, 3, none⟩ (.slice x.wa x.r.sig.wots.length x.wc)).setCell ⟨w.heap.size, 4, none⟩ (.slice x.pa x.r.sig.path.length x.pc)) := ((((((Only.refl w.heap.size w2).trans (Only.set w.heap.size 0 (.int .u64 (x.r.l : Int)) (w2))).trans (Only.set w.heap.size 1 (.bool x.r.signed) ((w2).setCell ⟨w.heap.size, 0, none⟩ (.int .u64 (x.r.l : Int))))).trans (Only.set w.heap.size 2 (.int .u64 (x.r.sig.index : Int)) (((w2).setCell ⟨w.heap.size, 0, none⟩ (.int .u64 (x.r.l : Int))).setCell ⟨w.heap.size, 1, none⟩ (.bool x.r.signed)))).trans (Only.set w.heap.size 3 (.slice x.wa x.r.sig.wots.length x.wc) ((((w2).setCell ⟨w.heap.size, 0, none⟩ (.int .u64 (x.r.l : Int))).setCell ⟨w.heap.size, 1, none⟩ (.bool x.r.signed)).setCell ⟨w.heap.size, 2, none⟩ (.int .u64 (x.r.sig.index : Int))))).trans (Only.set w.heap.size 4 (.slice x.pa x.r.sig.path.length x.pc) (((((w2).setCell ⟨w.heap.size, 0, none⟩ (.int .u64 (x.r.l : Int))).setCell ⟨w.heap.size, 1, none⟩ (.bool x.r.signed)).setCell ⟨w.heap.size, 2, none⟩ (.int .u64 (x.r.sig.index : Int))).setCell ⟨w.heap.size, 3, none⟩ (.slice x.wa x.r.sig.wots.length x.wc))))
  have hd7 : Below w.heap.size w ((((((w2).setCell ⟨w.heap.size, 0, none⟩ (.int .u64 (x.r.l : Int))).setCell ⟨w.heap.size, 1, none⟩ (.bool x.r.signed)).setCell ⟨w.heap.size, 2, none⟩ (.int .u64 (x.r.sig.index : Int))).setCell ⟨w.heap.size, 3, none⟩ (.slice x.wa x.r.sig.wots.length x.wc)).setCell ⟨w.heap.size, 4, none⟩ (.slice x.pa x.r.sig.path.length x.pc)) := below_duo (HB.out.trans (hb2.mono (by omega))) (Duo.only (x := w.heap.size) ho7) (Nat.le_refl _) (Nat.le_refl _)
  have hsz : ((((((w2).setCell ⟨w.heap.size, 0, none⟩ (.int .u64 (x.r.l : Int))).setCell ⟨w.heap.size, 1, none⟩ (.bool x.r.signed)).setCell ⟨w.heap.size, 2, none⟩ (.int .u64 (x.r.sig.index : Int))).setCell ⟨w.heap.size, 3, none⟩ (.slice x.wa x.r.sig.wots.length x.wc)).setCell ⟨w.heap.size, 4, none⟩ (.slice x.pa x.r.sig.path.length x.pc)).heap.size = w2.heap.size := by simp
  generalize (((((w2).setCell ⟨w.heap.size, 0, none⟩ (.int .u64 (x.r.l : Int))).setCell ⟨w.heap.size, 1, none⟩ (.bool x.r.signed)).setCell ⟨w.heap.size, 2, none⟩ (.int .u64 (x.r.sig.index : Int))).setCell ⟨w.heap.size, 3, none⟩ (.slice x.wa x.r.sig.wots.length x.wc)).setCell ⟨w.heap.size, 4, none⟩ (.slice x.pa x.r.sig.path.length x.pc) = w7 at *
  have z0 := (lit_cell hx7 0).trans rfl; have z1 := (lit_cell hx7 1).trans rfl; have z2 := (lit_cell hx7 2).trans rfl; have z3 := (lit_cell hx7 3).trans rfl; have z4 := (lit_cell hx7 4).trans rfl
  refine bodyPost_ret (v := .tuple #[slotV x, v]) (by simp [results, Tryz.results21, go_sem, z0, z1, z2, z3, z4]) rfl (hA w w7 (by omega) (fun k hk => ?_) (by omega) hd7)
  by_cases hl : k < w2.heap.size
  · exact ho7.block k hl (by omega)
  · rw [Array.getElem?_eq_none (xs := w7.heap) (by rw [hsz]; omega), Array.getElem?_eq_none (xs := w2.heap) (by omega)]
end Go.Proofs.YtbkiijndhjmkdaaGreatDoor
