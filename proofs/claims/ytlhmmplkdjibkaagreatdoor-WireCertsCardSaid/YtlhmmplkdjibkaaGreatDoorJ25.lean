/- read[Cert]. -/
import Derived.Test.YtlhmmplkdjibkaaGreatDoorJ24
import Derived.Test.YtlhmmplkdjibkaaGreatDoorJ16
import Derived.Test.YtlhmmplkdjibkaaGreatDoorJ17
namespace Go.Proofs.YtlhmmplkdjibkaaGreatDoor
open Go.RowKit

/-- a row of values that was made behind lo -/
def FreshV (lo : Nat) (ao : Option Addr) (xs : List Value) (w : World) : Prop := xs = [] ∨ ∃ b, ao = some ⟨b, 0, none⟩ ∧ lo ≤ b ∧ b < w.heap.size ∧ ∀ i u, xs[i]? = some u → w.cell? ⟨b, i, none⟩ = some u
theorem OwnV.fresh {B rb t lo cp : Nat} {ao : Option Addr} {xs : List Value} {w w' : World} (h : OwnV B rb t ao cp xs w) (hl : lo ≤ B) (hk : ∀ k, k < w.heap.size → B ≤ k → k ≠ t → k ≠ rb → w'.heap[k]? = w.heap[k]?) (hs : w.heap.size ≤ w'.heap.size) : FreshV lo ao xs w' := by
  rcases h with h | ⟨b, _, h1, h2, h3, h4, h5, h6⟩
  · exact .inl h.1
  · exact .inr ⟨b, h1, by omega, by omega, fun i u hi => (World.cell?_of_block (a := ⟨b, i, none⟩) (hk b h5 h2 h4 h3)).trans (h6 i u hi)⟩
theorem FreshV.keep {lo lo' : Nat} {ao : Option Addr} {xs : List Value} {w w' : World} (h : FreshV lo ao xs w) (hl : lo' ≤ lo) (hk : ∀ k, lo ≤ k → w'.heap[k]? = w.heap[k]?) (hs : w.heap.size ≤ w'.heap.size) : FreshV lo' ao xs w' := by
  rcases h with h | ⟨b, h1, h2, h3, h4⟩
  · exact .inl h
  · exact .inr ⟨b, h1, by omega, by omega, fun i u hi => (World.cell?_of_block (a := ⟨b, i, none⟩) (hk b h2)).trans (h4 i u hi)⟩
/-- a Cert's lists, made behind lo -/
structure FreshC (lo : Nat) (c : CertE) (w : World) : Prop where
  r : FreshV lo c.ra (c.rl.flatMap revQ) w
  rs : ∀ y ∈ c.rl, Fresh lo y.wa y.r.slot.sig.wots w ∧ Fresh lo y.pa y.r.slot.sig.path w
  co : FreshV lo c.ca (intV c.coins) w
  sp : Fresh lo c.sa c.sp w
  pp : Fresh lo c.pa c.pp w
theorem CertO.fresh {B rb t lo : Nat} {c : CertE} {w w' : World} (h : CertO B rb t c w) (hl : lo ≤ B) (hk : ∀ k, k < w.heap.size → B ≤ k → k ≠ t → k ≠ rb → w'.heap[k]? = w.heap[k]?) (hs : w.heap.size ≤ w'.heap.size) : FreshC lo c w' :=
  ⟨h.r.fresh hl hk hs, fun y hy => ⟨(h.rs y hy).1.fresh hl hk hs, (h.rs y hy).2.fresh hl hk hs⟩, h.co.fresh hl hk hs, h.sp.fresh hl hk hs, h.pp.fresh hl hk hs⟩

/-- what read answers -/
def AnsCert (S : (List UInt8)) (w : World) (e : Ending) (w' : World) : Prop := match wholeG certC.get S with
  | .ok p => (∃ x : CertE, x.r = p ∧ e = .returned (.tuple #[certV x, .nilIface]) ∧ FreshC w.heap.size x w') ∧ Below w.heap.size w w'
  | .error (c, b) => c ≠ 0 ∧ (∃ v, e = .returned (.tuple #[.agg #[.string ⟨#[]⟩, .int .u64 0, .slice none 0 0, .slice none 0 0, .slice none 0 0, .slice none 0 0], v]) ∧ ErrV w.heap.size c b v w') ∧ Below w.heap.size w w'
set_option maxRecDepth 100000 in
set_option maxHeartbeats 4000000 in
theorem freadCert_any (S : (List UInt8)) (w : World) (hG : GlobW w) (hS : S.length ≤ 1000000) (hgl : 4 ≤ w.heap.size) :
    Calls Tryz.prog 28 #[.string ⟨S.toArray⟩, .func (.func 16) #[] #[]] w (AnsCert S w) := by
  have hmf : ∀ (fn : Fn) (first cap : Array Value) (w : World), (Instr.makeFunc fn first cap).run Tryz.prog w = .ok (.func fn first cap) w := fun _ _ _ _ => rfl
  have hb0 : Below w.heap.size w ((w.alloc (.cells #[.string ⟨#[]⟩, .int .u64 0, .slice none 0 0, .slice none 0 0, .slice none 0 0, .slice none 0 0] 27)).alloc (.cells #[.nilIface] 38)) := (by0 w _).alloc (by simp) _
  have hz0 : ((w.alloc (.cells #[.string ⟨#[]⟩, .int .u64 0, .slice none 0 0, .slice none 0 0, .slice none 0 0, .slice none 0 0] 27)).alloc (.cells #[.nilIface] 38)).heap.size = w.heap.size + 1 + 1 := by simp
  have hx0 : ((w.alloc (.cells #[.string ⟨#[]⟩, .int .u64 0, .slice none 0 0, .slice none 0 0, .slice none 0 0, .slice none 0 0] 27)).alloc (.cells #[.nilIface] 38)).heap[w.heap.size]? = some (.cells #[.string ⟨#[]⟩, .int .u64 0, .slice none 0 0, .slice none 0 0, .slice none 0 0, .slice none 0 0] 27 (0, 0)) := lit_old _ (heap_alloc_new w _)
  have he0 : ((w.alloc (.cells #[.string ⟨#[]⟩, .int .u64 0, .slice none 0 0, .slice none 0 0, .slice none 0 0, .slice none 0 0] 27)).alloc (.cells #[.nilIface] 38)).heap[w.heap.size + 1]? = some (.cells #[.nilIface] 38 (0, 0)) := by
    rw [show w.heap.size + 1 = (w.alloc (.cells #[.string ⟨#[]⟩, .int .u64 0, .slice none 0 0, .slice none 0 0, .slice none 0 0, .slice none 0 0] 27)).heap.size by simp]; exact heap_alloc_new _ _
  have HB0 := Lib.hid hb0
  have HZ0 := Lib.hid hz0
  have HX0 := Lib.hid hx0
  have HE0 := Lib.hid he0
  have HG := Lib.hid hG
  have HSL := Lib.hid hS
  have HGL := Lib.hid hgl
  have HU := Lib.hid (reader_c.new S 10240 _ (hG.u.next hb0) hS (by decide) (by decide))
  clear hb0 hz0 hx0 he0 hG hS hgl
  go_enter_defers Tryz.func28, Tryz.ntmps28
  go_upto_region 2 with fail
  generalize (w.alloc (.cells #[.string ⟨#[]⟩, .int .u64 0, .slice none 0 0, .slice none 0 0, .slice none 0 0, .slice none 0 0] 27)).alloc (.cells #[.nilIface] 38) = w1 at *
  go_upto_region 3 with (go_at_call 59; refine HU.out.mono ?_; rintro e w2 ⟨rb, hrb, rfl, hr2, hb2⟩)
  have hz0 := HZ0.out
  have hb02 : Below w.heap.size w w2 := HB0.out.trans (hb2.mono (by omega))
  have hx2 := (hb2.block w.heap.size (by omega)).trans HX0.out
  have he2 := (hb2.block (w.heap.size + 1) (by omega)).trans HE0.out
  have hrl : rb < w2.heap.size := lit_lt hr2.r
  have hN : (w2.alloc (.cells #[.pointer (some ⟨rb, 0, none⟩)] 124)).drew.heap[w2.heap.size]? = some (.cells #[.pointer (some ⟨rb, 0, none⟩)] 124 (0, 0)) := heap_alloc_new w2 _
  have hb23 : Below w2.heap.size w2 (w2.alloc (.cells #[.pointer (some ⟨rb, 0, none⟩)] 124)).drew := (by0 w2 _).drew
  have HS3 : Hid (w2.heap.size < (w2.alloc (.cells #[.pointer (some ⟨rb, 0, none⟩)] 124)).drew.heap.size) := Lib.hid (by show _ < (w2.alloc _).heap.size; rw [World.size_alloc]; omega)
  refine wp_cel (X := .pointer (some ⟨w.heap.size, 0, none⟩)) (Y := .pointer (some ⟨w.heap.size + 1, 0, none⟩)) (D := [{ target := .fn (.func 58) #[.pointer (some ⟨w.heap.size, 0, none⟩), .pointer (some ⟨w.heap.size + 1, 0, none⟩)], args := #[] }]) ?_
  refine wp_region_held_drew (S := fun w' => w'.heap[w2.heap.size]? = some (.cells #[.pointer (some ⟨rb, 0, none⟩)] 124 (0, 0))) (by kernel_rfl) hN (fun hH => ?_)
  generalize (w2.alloc (.cells #[.pointer (some ⟨rb, 0, none⟩)] 124)).drew = w3 at *
  have HR := Lib.hid (cert_mk w3.heap.size w.heap.size 0 w3 (Nat.le_refl _))
  have HB03 := Lib.hid (hb02.trans (hb23.mono hb02.size))
  have HX3 := Lib.hid ((hb23.block w.heap.size (lit_lt hx2)).trans hx2)
  have HE3 := Lib.hid ((hb23.block (w.heap.size + 1) (lit_lt he2)).trans he2)
  have HR3 : Hid (RQ rb S 0 10240 w3) := Lib.hid ⟨(hb23.block rb hrl).trans hr2.r, hr2.m⟩
  have HRL : Hid (w.heap.size + 1 + 1 ≤ rb ∧ rb < w2.heap.size) := Lib.hid (by omega)
  clear hb02 hx2 he2 hb23 hN hr2 hb2 hrl
  refine wpAnyH_take (i := 0) (oi := ⟨some 12, .load 124 (.tmp 6), _, _, _, none⟩) (v := .agg #[.pointer (some ⟨rb, 0, none⟩)]) rfl (by kernel_rfl) (by kernel_rfl) (by kernel_rfl) (Cel.put (by decide)) (Or.inl ⟨by rfl, fun w1 hS => by have c0 := (lit_cell hS 0).trans rfl; go_simp⟩) hH ?_
  try simp only [Act.put, List.setIfInBounds_toArray, List.set_cons_succ, List.set_cons_zero]
  refine wpAnyH_take (i := 1) (oi := ⟨some 13, .move (.tmp 1), _, _, _, none⟩) (v := .func (.func 16) #[] #[]) rfl (by kernel_rfl) (by kernel_rfl) (by kernel_rfl) (Cel.put (by decide)) (Or.inl ⟨by rfl, fun _ _ => rfl⟩) hH ?_
  try simp only [Act.put, List.setIfInBounds_toArray, List.set_cons_succ, List.set_cons_zero]
  refine wpAnyH_ready (rs := [2]) (by kernel_rfl) (by simp) (AllReadyH.cons (o := ⟨some 14, .call ⟨.value (.tmp 13), #[.tmp 4], #[_]⟩, _, _, _, none⟩) rfl (fun K hK => ?_) AllReadyH.nil)
  have HK := Lib.hid hK
  clear hK
  go_simp
  refine HR.out.mono ?_
  rintro e w4 ⟨fb, fs, rfl, hK4, hb4⟩
  have hH4 := (hb4.block w2.heap.size (lit_lt hH)).trans hH
  obtain ⟨xs, hfs, hxn, hxg, hxf, hxfin⟩ := cert_rd (B := w.heap.size + 1 + 1) (S := S) (rb := rb) hK4 ⟨by omega, by have := lit_lt HX3.out; have := hb4.size; omega⟩ (by have := HRL.out; have := HS3.out; omega) (by have := HRL.out; omega) HSL.out ⟨by have := HRL.out; have := HGL.out; omega, HGL.out⟩
  have HB04 := Lib.hid (HB03.out.trans (hb4.mono HB03.out.size))
  have HX4 := Lib.hid ((hb4.block w.heap.size (lit_lt HX3.out)).trans HX3.out)
  have HE4 := Lib.hid ((hb4.block (w.heap.size + 1) (lit_lt HE3.out)).trans HE3.out)
  have HR4 : Hid (RQ rb S 0 10240 w4) := Lib.hid ⟨(hb4.block rb (by have := HRL.out; have := HS3.out; omega)).trans HR3.out.r, HR3.out.m⟩
  have hflds := cert_flds
  have hGU4 := HG.out.u.next HB04.out
  have hrow := wrow_any w4 rb w.heap.size fb 0 6 S (RpCert (w.heap.size + 1 + 1) rb w.heap.size) (fun p u u' h ho => h.next (by have := HRL.out; omega) (Duo.only ho)) xs hxf zCert (by rw [hxg]; exact cert_flds) 0 w4 (by have := HRL.out; have := HGL.out; omega) HSL.out (by rw [hxn]; decide) (by rw [← hfs]; exact hK4.r.row) (lit_lt hK4.r) (by have := hK4.l; have := HRL.out; have := HS3.out; omega) (by have := lit_lt HX4.out; exact this) ⟨Duo.refl _ _ _, hGU4, ⟨⟨by have := lit_lt HE4.out; omega, by have := lit_lt HR4.out.r; omega, by omega⟩, ⟨[], 0, [], [], [], [], none, 0, none, 0, none, 0, none, 0⟩, rfl, HX4.out, ⟨.inl ⟨rfl, rfl, rfl⟩, (fun _ h => by cases h), .inl ⟨rfl, rfl, rfl⟩, .inl ⟨rfl, rfl, rfl⟩, .inl ⟨rfl, rfl, rfl⟩⟩⟩, HR4.out, Nat.zero_le _⟩
  rw [hxg, mapG_congr cert_flds hxfin, hxn, List.drop_zero] at hrow
  have HGU4 := Lib.hid hGU4
  have HROW := Lib.hid hrow
  clear hrow hfs hxn hxg hxf hxfin hK4 hb4 hflds hGU4
  refine HK.out.out _ _ hH4 (fun _ => ?_)
  clear HK K
  try simp only [Act.put, List.setIfInBounds_toArray, List.set_cons_succ, List.set_cons_zero]
  refine wpAnyH_ready (rs := [3]) (by kernel_rfl) (by simp) (AllReadyH.cons (o := ⟨some 15, .call ⟨.value (.func 60), #[.tmp 12, .tmp 14], #[124, 60]⟩, _, _, _, none⟩) rfl (fun K hK => ?_) AllReadyH.nil)
  have HK := Lib.hid hK
  clear hK
  go_simp
  refine HROW.out.mono ?_
  intro e w5 h5
  change Read rb w.heap.size S (RpCert (w.heap.size + 1 + 1) rb w.heap.size) 0 w4.heap.size w4 (certC.get S 0) e w5 at h5
  cases hres : certC.get S 0 with
  | error f =>
    rw [hres] at h5
    obtain ⟨hc, ⟨g, hg, rfl, hf0, hf1⟩, hd, q, _, ce, _, hq, _⟩ := h5
    refine ⟨⟨rfl, rfl, rfl⟩, fun tm hm4 hm5 => ?_⟩
    have hrb := HRL.out
    have hE5 := (hd.block (w.heap.size + 1) (lit_lt HE4.out) (by omega) (by omega)).trans HE4.out
    have hgl5 := World.block_lt_of_cell? _ _ hf0
    have hg4 := lit_lt HE4.out
    refine leaves_cons (f := 58) (args := #[.pointer (some ⟨w.heap.size, 0, none⟩), .pointer (some ⟨w.heap.size + 1, 0, none⟩)]) (by simp) (by simp [go_sem]) ?_
    refine (readCert1_catch g w.heap.size (w.heap.size + 1) _ _ _ _ _ _ .nilIface [] w5 (HGU4.out.duo hd (by have := HGL.out; omega) HGL.out).e hgl5 (by omega) hq hE5).mono ?_
    rintro e u' w'' ⟨rfl, rfl, hC⟩
    have z0 := (lit_cell hC.x 0).trans rfl; have z1 := (lit_cell hC.x 1).trans rfl; have z2 := (lit_cell hC.x 2).trans rfl; have z3 := (lit_cell hC.x 3).trans rfl; have z4 := (lit_cell hC.x 4).trans rfl; have z5 := (lit_cell hC.x 5).trans rfl
    have y0 := (lit_cell hC.e 0).trans rfl
    refine ⟨.tuple #[.agg #[.string ⟨#[]⟩, .int .u64 0, .slice none 0 0, .slice none 0 0, .slice none 0 0, .slice none 0 0], .iface 85 (.pointer (some ⟨g, 0, none⟩))], by simp [results, Tryz.results28, go_sem, hm4, hm5, z0, z1, z2, z3, z4, z5, y0], ?_⟩
    have hgb : ∀ o, w''.cell? ⟨g, o, none⟩ = w5.cell? ⟨g, o, none⟩ := fun o => World.cell?_of_block (a := ⟨g, o, none⟩) (hC.d.block g hgl5 (by omega) (by omega))
    rw [AnsCert, wholeG, hres]
    exact ⟨hc, ⟨_, rfl, by rw [ErrV, if_neg (by omega)]; exact ⟨g, by omega, rfl, (hgb 0).trans hf0, (hgb 1).trans hf1⟩⟩, below_duo (below_duo HB04.out hd (by omega) (Nat.le_refl _)) hC.d (Nat.le_refl _) (by omega)⟩
  | ok q =>
    obtain ⟨q, k⟩ := q
    rw [hres] at h5
    obtain ⟨rfl, hq, hR5, hk, hd⟩ := h5
    obtain ⟨_, ce, hce, hq, hO⟩ := hq
    have HO := Lib.hid hO
    have HCE := Lib.hid hce
    clear hO hce
    have hrb := HRL.out
    have hg4 := lit_lt HE4.out
    have hH5 := (hd.block w2.heap.size (lit_lt hH4) (by omega) (by omega)).trans hH4
    refine HK.out.out _ _ hH5 (fun _ => ?_)
    clear HK K
    try simp only [Act.put, List.setIfInBounds_toArray, List.set_cons_succ, List.set_cons_zero]
    refine wpAnyH_done (by kernel_rfl) ?_ _
    change Exit.then _ (bodyPostD Tryz.prog Tryz.f28 (AnsCert S w)) Exit.normal _ _
    have hGU5 := HGU4.out.duo hd (by have := HGL.out; omega) HGL.out
    have HB05 := Lib.hid (below_duo HB04.out hd (by omega) (Nat.le_refl _))
    have hE5 := (hd.block (w.heap.size + 1) (lit_lt HE4.out) (by omega) (by omega)).trans HE4.out
    have HF := Lib.hid (reader_c.fin rb S (0 + k) 10240 w5 hR5 hGU5 HSL.out hk)
    have HQ := Lib.hid hq
    have HE5 := Lib.hid hE5
    have HGU5 := Lib.hid hGU5
    have HLT := Lib.hid (show w.heap.size + 1 < w5.heap.size from lit_lt hE5)
    have c0 := (lit_cell hH5 0).trans rfl
    clear hq hR5 hd hrb hg4 hH5 hGU5 hE5 hk hH hH4 hmf
    by_cases hl : 0 + k < S.length
    · have HA : Hid (wholeG certC.get S = .error (5, k)) := Lib.hid (by rw [wholeG, hres]; exact if_pos (by omega))
      rw [if_pos hl] at HF
      clear hl hres
      go_wp2_with (go_at_call 61; refine HF.out.mono ?_; rintro e w6 ⟨v, rfl, hv, hb6⟩; obtain ⟨g, rfl, g1, hg, hgg, hf0, hf1⟩ := hv.shape (by decide); cases hgg)
      have hX6 := (hb6.block w.heap.size (by have := HLT.out; omega)).trans HQ.out
      have hE6 := (hb6.block (w.heap.size + 1) HLT.out).trans HE5.out
      have hgl5 := World.block_lt_of_cell? _ _ hf0
      have hlt := HLT.out
      refine leaves_cons (f := 58) (args := #[.pointer (some ⟨w.heap.size, 0, none⟩), .pointer (some ⟨w.heap.size + 1, 0, none⟩)]) (by simp) (by simp [go_sem]) ?_
      refine (readCert1_catch g w.heap.size (w.heap.size + 1) _ _ _ _ _ _ .nilIface [] w6 (HGU5.out.next hb6).e hgl5 (by omega) hX6 hE6).mono ?_
      rintro e u' w'' ⟨rfl, rfl, hC⟩
      have z0 := (lit_cell hC.x 0).trans rfl; have z1 := (lit_cell hC.x 1).trans rfl; have z2 := (lit_cell hC.x 2).trans rfl; have z3 := (lit_cell hC.x 3).trans rfl; have z4 := (lit_cell hC.x 4).trans rfl; have z5 := (lit_cell hC.x 5).trans rfl
      have y0 := (lit_cell hC.e 0).trans rfl
      refine ⟨.tuple #[.agg #[.string ⟨#[]⟩, .int .u64 0, .slice none 0 0, .slice none 0 0, .slice none 0 0, .slice none 0 0], .iface 85 (.pointer (some ⟨g, 0, none⟩))], by simp [results, Tryz.results28, go_sem, z0, z1, z2, z3, z4, z5, y0], ?_⟩
      have hgb : ∀ o, w''.cell? ⟨g, o, none⟩ = w6.cell? ⟨g, o, none⟩ := fun o => World.cell?_of_block (a := ⟨g, o, none⟩) (hC.d.block g hgl5 (by omega) (by omega))
      rw [AnsCert, HA.out]
      exact ⟨by decide, ⟨_, rfl, by rw [ErrV, if_neg (by decide)]; exact ⟨g, by omega, rfl, (hgb 0).trans hf0, (hgb 1).trans (hf1.trans (by rw [Nat.zero_add]))⟩⟩, below_duo (HB05.out.trans (hb6.mono (by omega))) hC.d (Nat.le_refl _) (by omega)⟩
    · have HA : Hid (wholeG certC.get S = .ok q) := Lib.hid (by rw [wholeG, hres]; exact if_neg (by omega))
      rw [if_neg hl] at HF
      clear hl hres
      go_wp2_with (go_at_call 61; refine HF.out.mono ?_; rintro e w6 ⟨v, rfl, hv, hb6⟩; have hnil := hv.nil rfl; subst hnil; have hX6 := (hb6.block w.heap.size (by have := HLT.out; omega)).trans HQ.out; have hE6 := (hb6.block (w.heap.size + 1) HLT.out).trans HE5.out; simp only [certQ] at hX6; have p0 := (lit_cell hX6 0).trans rfl; have q0 := lit_free hX6 0; have p1 := (lit_cell hX6 1).trans rfl; have q1 := lit_free hX6 1; have p2 := (lit_cell hX6 2).trans rfl; have q2 := lit_free hX6 2; have p3 := (lit_cell hX6 3).trans rfl; have q3 := lit_free hX6 3; have p4 := (lit_cell hX6 4).trans rfl; have q4 := lit_free hX6 4; have p5 := (lit_cell hX6 5).trans rfl; have q5 := lit_free hX6 5; have y0 := (lit_cell hE6 0).trans rfl; have y1 := lit_free hE6 0)
      have hlt := HLT.out
      have hx7 := lit_set (k := 5) (.slice ce.pa ce.pp.length ce.pc) (lit_set (k := 4) (.slice ce.sa ce.sp.length ce.sc) (lit_set (k := 3) (.slice ce.ca ce.coins.length ce.cc) (lit_set (k := 2) (.slice ce.ra ce.rl.length ce.rc) (lit_set (k := 1) (.int .u64 (ce.signed : Int)) (lit_set (k := 0) (.string ⟨ce.root.toArray⟩) (hX6))))))
      have ho7 : Only w.heap.size w6 (((((((w6).setCell ⟨w.heap.size, 0, none⟩ (.string ⟨ce.root.toArray⟩)).setCell ⟨w.heap.size, 1, none⟩ (.int .u64 (ce.signed : Int))).setCell ⟨w.heap.size, 2, none⟩ (.slice ce.ra ce.rl.length ce.rc)).setCell ⟨w.heap.size, 3, none⟩ (.slice ce.ca ce.coins.length ce.cc)).setCell ⟨w.heap.size, 4, none⟩ (.slice ce.sa ce.sp.length ce.sc)).setCell ⟨w.heap.size, 5, none⟩ (.slice ce.pa ce.pp.length ce.pc)) := (((((((Only.refl w.heap.size w6).trans (Only.set w.heap.size 0 (.string ⟨ce.root.toArray⟩) (w6))).trans (Only.set w.heap.size 1 (.int .u64 (ce.signed : Int)) ((w6).setCell ⟨w.heap.size, 0, none⟩ (.string ⟨ce.root.toArray⟩)))).trans (Only.set w.heap.size 2 (.slice ce.ra ce.rl.length ce.rc) (((w6).setCell ⟨w.heap.size, 0, none⟩ (.string ⟨ce.root.toArray⟩)).setCell ⟨w.heap.size, 1, none⟩ (.int .u64 (ce.signed : Int))))).trans (Only.set w.heap.size 3 (.slice ce.ca ce.coins.length ce.cc) ((((w6).setCell ⟨w.heap.size, 0, none⟩ (.string ⟨ce.root.toArray⟩)).setCell ⟨w.heap.size, 1, none⟩ (.int .u64 (ce.signed : Int))).setCell ⟨w.heap.size, 2, none⟩ (.slice ce.ra ce.rl.length ce.rc)))).trans (Only.set w.heap.size 4 (.slice ce.sa ce.sp.length ce.sc) (((((w6).setCell ⟨w.heap.size, 0, none⟩ (.string ⟨ce.root.toArray⟩)).setCell ⟨w.heap.size, 1, none⟩ (.int .u64 (ce.signed : Int))).setCell ⟨w.heap.size, 2, none⟩ (.slice ce.ra ce.rl.length ce.rc)).setCell ⟨w.heap.size, 3, none⟩ (.slice ce.ca ce.coins.length ce.cc)))).trans (Only.set w.heap.size 5 (.slice ce.pa ce.pp.length ce.pc) ((((((w6).setCell ⟨w.heap.size, 0, none⟩ (.string ⟨ce.root.toArray⟩)).setCell ⟨w.heap.size, 1, none⟩ (.int .u64 (ce.signed : Int))).setCell ⟨w.heap.size, 2, none⟩ (.slice ce.ra ce.rl.length ce.rc)).setCell ⟨w.heap.size, 3, none⟩ (.slice ce.ca ce.coins.length ce.cc)).setCell ⟨w.heap.size, 4, none⟩ (.slice ce.sa ce.sp.length ce.sc))))
      have he7 := (ho7.block (w.heap.size + 1) (lit_lt hE6) (by omega)).trans hE6
      have hd7 : Below w.heap.size w (((((((w6).setCell ⟨w.heap.size, 0, none⟩ (.string ⟨ce.root.toArray⟩)).setCell ⟨w.heap.size, 1, none⟩ (.int .u64 (ce.signed : Int))).setCell ⟨w.heap.size, 2, none⟩ (.slice ce.ra ce.rl.length ce.rc)).setCell ⟨w.heap.size, 3, none⟩ (.slice ce.ca ce.coins.length ce.cc)).setCell ⟨w.heap.size, 4, none⟩ (.slice ce.sa ce.sp.length ce.sc)).setCell ⟨w.heap.size, 5, none⟩ (.slice ce.pa ce.pp.length ce.pc)) := below_duo (HB05.out.trans (hb6.mono (by omega))) (Duo.only (x := w.heap.size) ho7) (Nat.le_refl _) (Nat.le_refl _)
      generalize ((((((w6).setCell ⟨w.heap.size, 0, none⟩ (.string ⟨ce.root.toArray⟩)).setCell ⟨w.heap.size, 1, none⟩ (.int .u64 (ce.signed : Int))).setCell ⟨w.heap.size, 2, none⟩ (.slice ce.ra ce.rl.length ce.rc)).setCell ⟨w.heap.size, 3, none⟩ (.slice ce.ca ce.coins.length ce.cc)).setCell ⟨w.heap.size, 4, none⟩ (.slice ce.sa ce.sp.length ce.sc)).setCell ⟨w.heap.size, 5, none⟩ (.slice ce.pa ce.pp.length ce.pc) = w7 at *
      have hx8 := (lit_far (w := w7) (b := w.heap.size + 1) (c := w.heap.size) (k := 0) .nilIface (by omega)).trans hx7
      have he8 := lit_set (k := 0) .nilIface he7
      have hk8 : ∀ k, k < w6.heap.size → k ≠ w.heap.size → k ≠ w.heap.size + 1 → (w7.setCell ⟨w.heap.size + 1, 0, none⟩ .nilIface).heap[k]? = w6.heap[k]? := fun k hk h1 h2 => (lit_far _ h2).trans (ho7.block k hk h1)
      have hs8 : w6.heap.size ≤ (w7.setCell ⟨w.heap.size + 1, 0, none⟩ .nilIface).heap.size := by simp; exact ho7.size
      have hb8 : Below w.heap.size w (w7.setCell ⟨w.heap.size + 1, 0, none⟩ .nilIface) := hd7.setCell (by simp) _
      generalize w7.setCell ⟨w.heap.size + 1, 0, none⟩ .nilIface = w8 at *
      refine leaves_cons (f := 58) (args := #[.pointer (some ⟨w.heap.size, 0, none⟩), .pointer (some ⟨w.heap.size + 1, 0, none⟩)]) (by simp) (by simp [go_sem]) ?_
      refine (readCert1_idle w.heap.size (w.heap.size + 1) w8).mono ?_
      rintro e u' w'' ⟨rfl, rfl, rfl⟩
      have z0 := (lit_cell hx8 0).trans rfl; have z1 := (lit_cell hx8 1).trans rfl; have z2 := (lit_cell hx8 2).trans rfl; have z3 := (lit_cell hx8 3).trans rfl; have z4 := (lit_cell hx8 4).trans rfl; have z5 := (lit_cell hx8 5).trans rfl
      have z := (lit_cell he8 0).trans rfl
      refine ⟨.tuple #[certV ce, .nilIface], by simp [results, Tryz.results28, go_sem, z0, z1, z2, z3, z4, z5, z], ?_⟩
      rw [AnsCert, HA.out]
      have hs6 := hb6.size
      exact ⟨⟨ce, HCE.out, rfl, HO.out.fresh (by omega) (fun k hk hB ht _ => (hk8 k (by omega) ht (by omega)).trans (hb6.block k hk)) (by omega)⟩, hb8⟩
end Go.Proofs.YtlhmmplkdjibkaaGreatDoor
/- ReadCert of the program. -/
namespace Go.Proofs.YtlhmmplkdjibkaaGreatDoor
open Go.RowKit

theorem FreshC.keep {lo lo' : Nat} {c : CertE} {w w' : World} (h : FreshC lo c w) (hl : lo' ≤ lo) (hk : ∀ k, lo ≤ k → w'.heap[k]? = w.heap[k]?) (hs : w.heap.size ≤ w'.heap.size) : FreshC lo' c w' :=
  ⟨h.r.keep hl hk hs, fun y hy => ⟨(h.rs y hy).1.keep hl hk hs, (h.rs y hy).2.keep hl hk hs⟩, h.co.keep hl hk hs, h.sp.keep hl hk hs, h.pp.keep hl hk hs⟩
theorem AnsCert.open {S : (List UInt8)} {w1 w2 : World} {e : Ending} (h : AnsCert S w1 e w2) : Below w1.heap.size w1 w2 ∧ ∃ (x : CertE) (v : Value), e = .returned (.tuple #[certV x, v]) ∧ ∀ w w'' : World, w.heap.size ≤ w1.heap.size → (∀ k, w1.heap.size ≤ k → w''.heap[k]? = w2.heap[k]?) → w2.heap.size ≤ w''.heap.size → Below w.heap.size w w'' → AnsCert S w (.returned (.tuple #[certV x, v])) w'' := by
  rw [AnsCert] at h
  rcases hr : wholeG certC.get S with ⟨c, b⟩ | q
  · rw [hr] at h
    obtain ⟨hc, ⟨v, rfl, hv⟩, hb⟩ := h
    refine ⟨hb, ⟨[], 0, [], [], [], [], none, 0, none, 0, none, 0, none, 0⟩, v, rfl, fun w w'' hl hk _ hb2 => ?_⟩
    rw [AnsCert, hr]
    refine ⟨hc, ⟨v, rfl, ?_⟩, hb2⟩
    unfold ErrV at *
    rw [if_neg (by omega)] at *
    obtain ⟨g, h0, h1, h2, h3⟩ := hv
    have hg : ∀ o, w''.cell? ⟨g, o, none⟩ = w2.cell? ⟨g, o, none⟩ := fun o => World.cell?_of_block (a := ⟨g, o, none⟩) (hk g h0)
    exact ⟨g, by omega, h1, (hg 0).trans h2, (hg 1).trans h3⟩
  · rw [hr] at h
    obtain ⟨⟨x, hx, rfl, h1⟩, hb⟩ := h
    refine ⟨hb, x, _, rfl, fun w w'' hl hk hs hb2 => ?_⟩
    rw [AnsCert, hr]
    exact ⟨⟨x, hx, rfl, h1.keep hl hk hs⟩, hb2⟩
set_option maxRecDepth 100000 in
set_option maxHeartbeats 1000000 in
theorem wreadCert_any (S : (List UInt8)) (w : World) (hG : GlobW w) (hS : S.length ≤ 1000000) (hgl : 4 ≤ w.heap.size) : Calls Tryz.prog 8 #[.string ⟨S.toArray⟩] w (AnsCert S w) := by
  have hb0 : Below w.heap.size w (w.alloc (.cells #[.string ⟨#[]⟩, .int .u64 0, .slice none 0 0, .slice none 0 0, .slice none 0 0, .slice none 0 0] 27)) := by0 w _
  have HN := Lib.hid (heap_alloc_new w (.cells #[.string ⟨#[]⟩, .int .u64 0, .slice none 0 0, .slice none 0 0, .slice none 0 0, .slice none 0 0] 27))
  have HZ := Lib.hid (show (w.alloc (.cells #[.string ⟨#[]⟩, .int .u64 0, .slice none 0 0, .slice none 0 0, .slice none 0 0, .slice none 0 0] 27)).heap.size = w.heap.size + 1 by simp)
  have HC := Lib.hid (freadCert_any S _ (hG.next hb0) hS (by have := hb0.size; omega))
  have HB := Lib.hid hb0
  clear hG hS hgl hb0
  go_enter Tryz.func8, Tryz.ntmps8
  go_upto_region 1 with fail
  change Code.wp _ _ _ _ (w.alloc (.cells #[.string ⟨#[]⟩, .int .u64 0, .slice none 0 0, .slice none 0 0, .slice none 0 0, .slice none 0 0] 27))
  generalize w.alloc (.cells #[.string ⟨#[]⟩, .int .u64 0, .slice none 0 0, .slice none 0 0, .slice none 0 0, .slice none 0 0] 27) = w1 at *
  go_wp2_with (go_at_call 28; refine HC.out.mono ?_; intro e w2 h; obtain ⟨hb2, x, v, rfl, hA⟩ := h.open; have hX6 := (hb2.block w.heap.size (lit_lt HN.out)).trans HN.out; have p0 := (lit_cell hX6 0).trans rfl; have q0 := lit_free hX6 0; have p1 := (lit_cell hX6 1).trans rfl; have q1 := lit_free hX6 1; have p2 := (lit_cell hX6 2).trans rfl; have q2 := lit_free hX6 2; have p3 := (lit_cell hX6 3).trans rfl; have q3 := lit_free hX6 3; have p4 := (lit_cell hX6 4).trans rfl; have q4 := lit_free hX6 4; have p5 := (lit_cell hX6 5).trans rfl; have q5 := lit_free hX6 5)
  have hz := HZ.out
  have hx7 := lit_set (k := 5) (.slice x.pa x.pp.length x.pc) (lit_set (k := 4) (.slice x.sa x.sp.length x.sc) (lit_set (k := 3) (.slice x.ca x.coins.length x.cc) (lit_set (k := 2) (.slice x.ra x.rl.length x.rc) (lit_set (k := 1) (.int .u64 (x.signed : Int)) (lit_set (k := 0) (.string ⟨x.root.toArray⟩) (hX6))))))
  have ho7 : Only w.heap.size w2 (((((((w2).setCell ⟨w.heap.size, 0, none⟩ (.string ⟨x.root.toArray⟩)).setCell ⟨w.heap.size, 1, none⟩ (.int .u64 (x.signed : Int))).setCell ⟨w.heap.size, 2, none⟩ (.slice x.ra x.rl.length x.rc)).setCell ⟨w.heap.size, 3, none⟩ (.slice x.ca x.coins.length x.cc)).setCell ⟨w.heap.size, 4, none⟩ (.slice x.sa x.sp.length x.sc)).setCell ⟨w.heap.size, 5, none⟩ (.slice x.pa x.pp.length x.pc)) := (((((((Only.refl w.heap.size w2).trans (Only.set w.heap.size 0 (.string ⟨x.root.toArray⟩) (w2))).trans (Only.set w.heap.size 1 (.int .u64 (x.signed : Int)) ((w2).setCell ⟨w.heap.size, 0, none⟩ (.string ⟨x.root.toArray⟩)))).trans (Only.set w.heap.size 2 (.slice x.ra x.rl.length x.rc) (((w2).setCell ⟨w.heap.size, 0, none⟩ (.string ⟨x.root.toArray⟩)).setCell ⟨w.heap.size, 1, none⟩ (.int .u64 (x.signed : Int))))).trans (Only.set w.heap.size 3 (.slice x.ca x.coins.length x.cc) ((((w2).setCell ⟨w.heap.size, 0, none⟩ (.string ⟨x.root.toArray⟩)).setCell ⟨w.heap.size, 1, none⟩ (.int .u64 (x.signed : Int))).setCell ⟨w.heap.size, 2, none⟩ (.slice x.ra x.rl.length x.rc)))).trans (Only.set w.heap.size 4 (.slice x.sa x.sp.length x.sc) (((((w2).setCell ⟨w.heap.size, 0, none⟩ (.string ⟨x.root.toArray⟩)).setCell ⟨w.heap.size, 1, none⟩ (.int .u64 (x.signed : Int))).setCell ⟨w.heap.size, 2, none⟩ (.slice x.ra x.rl.length x.rc)).setCell ⟨w.heap.size, 3, none⟩ (.slice x.ca x.coins.length x.cc)))).trans (Only.set w.heap.size 5 (.slice x.pa x.pp.length x.pc) ((((((w2).setCell ⟨w.heap.size, 0, none⟩ (.string ⟨x.root.toArray⟩)).setCell ⟨w.heap.size, 1, none⟩ (.int .u64 (x.signed : Int))).setCell ⟨w.heap.size, 2, none⟩ (.slice x.ra x.rl.length x.rc)).setCell ⟨w.heap.size, 3, none⟩ (.slice x.ca x.coins.length x.cc)).setCell ⟨w.heap.size, 4, none⟩ (.slice x.sa x.sp.length x.sc))))
  have hd7 : Below w.heap.size w (((((((w2).setCell ⟨w.heap.size, 0, none⟩ (.string ⟨x.root.toArray⟩)).setCell ⟨w.heap.size, 1, none⟩ (.int .u64 (x.signed : Int))).setCell ⟨w.heap.size, 2, none⟩ (.slice x.ra x.rl.length x.rc)).setCell ⟨w.heap.size, 3, none⟩ (.slice x.ca x.coins.length x.cc)).setCell ⟨w.heap.size, 4, none⟩ (.slice x.sa x.sp.length x.sc)).setCell ⟨w.heap.size, 5, none⟩ (.slice x.pa x.pp.length x.pc)) := below_duo (HB.out.trans (hb2.mono (by omega))) (Duo.only (x := w.heap.size) ho7) (Nat.le_refl _) (Nat.le_refl _)
  have hsz : (((((((w2).setCell ⟨w.heap.size, 0, none⟩ (.string ⟨x.root.toArray⟩)).setCell ⟨w.heap.size, 1, none⟩ (.int .u64 (x.signed : Int))).setCell ⟨w.heap.size, 2, none⟩ (.slice x.ra x.rl.length x.rc)).setCell ⟨w.heap.size, 3, none⟩ (.slice x.ca x.coins.length x.cc)).setCell ⟨w.heap.size, 4, none⟩ (.slice x.sa x.sp.length x.sc)).setCell ⟨w.heap.size, 5, none⟩ (.slice x.pa x.pp.length x.pc)).heap.size = w2.heap.size := by simp
  generalize ((((((w2).setCell ⟨w.heap.size, 0, none⟩ (.string ⟨x.root.toArray⟩)).setCell ⟨w.heap.size, 1, none⟩ (.int .u64 (x.signed : Int))).setCell ⟨w.heap.size, 2, none⟩ (.slice x.ra x.rl.length x.rc)).setCell ⟨w.heap.size, 3, none⟩ (.slice x.ca x.coins.length x.cc)).setCell ⟨w.heap.size, 4, none⟩ (.slice x.sa x.sp.length x.sc)).setCell ⟨w.heap.size, 5, none⟩ (.slice x.pa x.pp.length x.pc) = w7 at *
  have z0 := (lit_cell hx7 0).trans rfl; have z1 := (lit_cell hx7 1).trans rfl; have z2 := (lit_cell hx7 2).trans rfl; have z3 := (lit_cell hx7 3).trans rfl; have z4 := (lit_cell hx7 4).trans rfl; have z5 := (lit_cell hx7 5).trans rfl
  refine bodyPost_ret (v := .tuple #[certV x, v]) (by simp [results, Tryz.results8, go_sem, z0, z1, z2, z3, z4, z5]) rfl (hA w w7 (by omega) (fun k hk => ?_) (by omega) hd7)
  by_cases hl : k < w2.heap.size
  · exact ho7.block k hl (by omega)
  · rw [Array.getElem?_eq_none (xs := w7.heap) (by rw [hsz]; omega), Array.getElem?_eq_none (xs := w2.heap) (by omega)]
end Go.Proofs.YtlhmmplkdjibkaaGreatDoor
/- A Cert's values: what may be laid comes back; what is read was laid so; bytes cut, or with more behind. -/
namespace Go.Proofs.YtlhmmplkdjibkaaGreatDoor
open Go.RowKit

theorem okV_list {ρ α : Type} {p : ρ} {key : UInt8} {m : Nat} {hm : m ≤ 10240} {C : Codec α} {of : ρ → List α} {set : ρ → List α → ρ} : (∀ v, (listFld key m hm C of set).view p = some v → (listFld key m hm C of set).C.ok v) ↔ (of p).length ≤ m ∧ ∀ x ∈ of p, C.ok x := by
  show (∀ v : List α, lst (of p) = some v → v ≠ [] ∧ v.length ≤ m ∧ ∀ x ∈ v, C.ok x) ↔ _
  cases h : of p with
  | nil => simp [lst]
  | cons a l => simp only [lst, Option.some.injEq, forall_eq']; exact ⟨fun h => h.2, fun h => ⟨by simp, h⟩⟩
theorem bytes_list {ρ α : Type} (p : ρ) (key : UInt8) (m : Nat) (hm : m ≤ 10240) (C : Codec α) (of : ρ → List α) (set : ρ → List α → ρ) : bytesF p (listFld key m hm C of set) = if of p = [] then [] else headP 3 (of p).length ++ (of p).flatMap C.put := by
  by_cases h : of p = []
  · rw [if_pos h]; exact bytesF_none (show lst (of p) = none by rw [h]; rfl)
  · rw [if_neg h]; exact bytesF_some (f := listFld key m hm C of set) (list_seen h)
theorem mapP_ne0 (fs : List (UInt8 × (List UInt8))) : mapP fs ≠ [] := by
  unfold mapP
  intro e
  exact headP_ne _ _ (List.append_eq_nil_iff.1 e).1
theorem slot_small (x : SlotR) : smallP (mapP (slotF x)) = if slotZ x then [] else mapP (slotF x) := by
  have h0 : smallP (mapP (sigF x.sig)) = [] ↔ sigZ x.sig = true := by
    rw [sig_small]
    by_cases h : sigZ x.sig = true
    · simp [h]
    · simp [h, mapP_ne0]
  have h1 : (if x.signed then numZ 1 else []) = [] ↔ (!x.signed) = true := by
    cases x.signed
    · simp
    · simp [numZ_ne]
  have hz : prs (slotF x) = [] ↔ slotZ x = true := by
    unfold prs slotF slotZ
    simp only [List.filter_eq_nil_iff, List.mem_cons, List.not_mem_nil, or_false, forall_eq_or_imp, forall_eq, Bool.not_eq_true, Bool.not_eq_false', List.isEmpty_iff, numZ_ne, h0, h1, Bool.and_eq_true, beq_iff_eq]
    exact ⟨fun ⟨a, b, c⟩ => ⟨⟨a, b⟩, c⟩, fun ⟨⟨a, b⟩, c⟩ => ⟨a, b, c⟩⟩
  unfold smallP
  by_cases h : slotZ x = true
  · rw [if_pos (mapP_nil _ (hz.2 h)), if_pos h]
  · rw [if_neg (mapP_ne2 _ (fun e => h (hz.1 e))), if_neg h]
theorem rev_ok (r : RevR) : revC.ok r ↔ (r.pos < 18446744073709551616 ∧ PartIn r.part ∧ r.slot.l < 18446744073709551616 ∧ r.slot.sig.index < 18446744073709551616) ∧ mayRevB r = true := by
  show (okV revFs r ∧ (!r.part.root.isEmpty) = true) ↔ _
  have h1 : (∀ v : SlotR, (if slotZ r.slot then none else some r.slot) = some v → slotC.ok v ∧ slotZ v = false) ↔ slotC.ok r.slot := by
    cases hz : slotZ r.slot with
    | true =>
      have hs : slotC.ok r.slot := by
        rw [show r.slot = zSlot from slotZ_zero hz, slot_ok]
        exact ⟨by decide, by decide, by decide⟩
      simp [hs]
    | false => simp [hz]
  have h2 : ((∀ v : PartR, (if partZ r.part then none else some r.part) = some v → partC.ok v) ∧ (!r.part.root.isEmpty) = true) ↔ partC.ok r.part := by
    cases hz : partZ r.part with
    | true =>
      constructor
      · rintro ⟨_, h⟩
        rw [show r.part = zPart from partZ_zero hz] at h
        cases h
      · intro h
        have := partC_nz h
        rw [hz] at this
        cases this
    | false =>
      constructor
      · rintro ⟨h, _⟩
        exact h _ rfl
      · intro h
        exact ⟨fun v hv => by cases hv; exact h, h.2⟩
  have h3 : okV revFs r ↔ r.pos < 18446744073709551616 ∧ (∀ v : PartR, (if partZ r.part then none else some r.part) = some v → partC.ok v) ∧ slotC.ok r.slot := by
    rw [← h1]
    unfold okV revFs
    simp only [List.mem_cons, List.not_mem_nil, or_false, forall_eq_or_imp, forall_eq, okV_num]
    exact Iff.rfl
  rw [h3, mayRevB, Bool.and_eq_true]
  have h4 := part_ok r.part
  have h5 := slot_ok r.slot
  constructor
  · rintro ⟨⟨a, b, c⟩, d⟩
    obtain ⟨e, f⟩ := h4.1 (h2.1 ⟨b, d⟩)
    obtain ⟨g, h, i⟩ := h5.1 c
    exact ⟨⟨a, e, g, h⟩, f, i⟩
  · rintro ⟨⟨a, e, g, h⟩, f, i⟩
    obtain ⟨b, d⟩ := h2.2 (h4.2 ⟨e, f⟩)
    exact ⟨⟨a, b, h5.2 ⟨g, h, i⟩⟩, d⟩
theorem rev_put (r : RevR) (h : digB r.part.root = true) : revC.put r = mapP (revF r) := by
  show mapP (prL revFs r) = _
  have hz : partZ r.part = false := by
    have := dig_ne h
    unfold partZ
    cases hr : r.part.root with
    | nil => exact absurd hr this
    | cons a l => simp
  have h1 : bytesF r rpartFld = mapP (partF r.part) :=
    (bytesF_some (f := rpartFld) (v := r.part) (if_neg (by rw [hz]; decide))).trans (part_put _ h)
  have h2 : bytesF r (nzFld 115 slotC slotZ (·.slot) (fun p v => { p with slot := v })) = smallP (mapP (slotF r.slot)) := by
    rw [slot_small]
    by_cases h : slotZ r.slot = true
    · rw [if_pos h]; exact bytesF_none (if_pos h)
    · rw [if_neg h]
      exact (bytesF_some (f := nzFld 115 slotC slotZ (fun x : RevR => x.slot) (fun p v => { p with slot := v })) (if_neg h)).trans (slot_put _)
  simp only [prL, revFs, List.map_cons, List.map_nil, bytes_num, h1, h2]
  rfl
/-- a Cert's numbers are below 2^64 -/
structure CertP (c : CertR) : Prop where
  s : c.signed < 18446744073709551616
  r : ∀ x ∈ c.reveals, x.pos < 18446744073709551616 ∧ PartIn x.part ∧ x.slot.l < 18446744073709551616 ∧ x.slot.sig.index < 18446744073709551616
  co : ∀ x ∈ c.coins, x < 18446744073709551616
theorem cert_ok (c : CertR) : certC.ok c ↔ CertP c ∧ mayCertB c = true := by
  show (okV certFs c ∧ (!c.root.isEmpty) = true) ↔ _
  have h1 : okV certFs c ↔ mayB c.partProof 10240 = true ∧ mayB c.slotProof 10240 = true ∧ (c.root ≠ [] → digB c.root = true) ∧ (c.coins.length ≤ 640 ∧ ∀ x ∈ c.coins, anyC.ok x) ∧ (c.reveals.length ≤ 640 ∧ ∀ x ∈ c.reveals, revC.ok x) ∧ c.signed < 18446744073709551616 := by
    unfold okV certFs
    simp only [List.mem_cons, List.not_mem_nil, or_false, forall_eq_or_imp, forall_eq]
    rw [okV_digs, okV_digs, okV_dig, okV_list, okV_list, okV_num]
  rw [h1]
  unfold mayCertB
  simp only [Bool.and_eq_true, decide_eq_true_eq, List.all_eq_true]
  constructor
  · rintro ⟨⟨a, b, c1, ⟨d1, d2⟩, ⟨e1, e2⟩, f⟩, g⟩
    exact ⟨⟨f, fun x hx => ((rev_ok x).1 (e2 x hx)).1, d2⟩, ⟨⟨⟨⟨c1 (by simpa using g), a⟩, b⟩, d1⟩, e1⟩, fun x hx => ((rev_ok x).1 (e2 x hx)).2⟩
  · rintro ⟨⟨f, r, d2⟩, ⟨⟨⟨⟨g, a⟩, b⟩, d1⟩, e1⟩, e2⟩
    exact ⟨⟨a, b, fun _ => g, ⟨d1, d2⟩, ⟨e1, fun x hx => (rev_ok x).2 ⟨r x hx, e2 x hx⟩⟩, f⟩, by simpa using dig_ne g⟩
theorem cert_put (c : CertR) (h : mayCertB c = true) : certC.put c = mapP (certF c) := by
  show mapP (prL certFs c) = _
  unfold mayCertB at h
  simp only [Bool.and_eq_true, decide_eq_true_eq, List.all_eq_true] at h
  have h1 : c.reveals.flatMap revC.put = c.reveals.flatMap fun r => mapP (revF r) := by
    have : ∀ l : List RevR, (∀ x ∈ l, mayRevB x = true) → l.flatMap revC.put = l.flatMap fun r => mapP (revF r) := by
      intro l
      induction l with
      | nil => intro _; rfl
      | cons x l ih =>
        intro hx
        rw [List.flatMap_cons, List.flatMap_cons, ih fun y hy => hx y (List.mem_cons_of_mem _ hy)]
        have hm := hx x (List.mem_cons_self ..)
        unfold mayRevB at hm
        rw [Bool.and_eq_true] at hm
        rw [rev_put x hm.1]
    exact this _ h.2
  simp only [prL, certFs, List.map_cons, List.map_nil, bytes_num, bytes_list, bytes_dig c _ (fun c : CertR => c.root) _ (dig_ne h.1.1.1.1.1), h1]
  rfl
theorem cert_laid {c : CertR} {S : (List UInt8)} (h : wholeG certC.get S = .ok c) : CertP c ∧ layCertP c = (S, 0) := by
  obtain ⟨h1, h2⟩ := whole_back _ h
  obtain ⟨h3, h4⟩ := (cert_ok c).1 h1
  exact ⟨h3, by unfold layCertP layOr; rw [if_pos h4, h2, cert_put c h4]⟩
end Go.Proofs.YtlhmmplkdjibkaaGreatDoor
/- The law's slot, again: the lists that it cuts lie in new memory. -/

namespace Go.Proofs.YtlhmmplkdjibkaaGreatDoor
open Go.RowKit

theorem Fresh.weak {lo lo2 : Nat} {ao : Option Addr} {L : List (List UInt8)} {w : World} (h : Fresh lo ao L w) (hl : lo2 ≤ lo) : Fresh lo2 ao L w := by
  rcases h with h | ⟨b, h1, h2, h3, h4⟩
  · exact .inl h
  · exact .inr ⟨b, h1, by omega, h3, h4⟩

set_option maxRecDepth 100000 in
set_option maxHeartbeats 1000000 in
theorem cutslot2_any (x : SlotE) (w : World) (hM : SlotM x w) (hwl : x.r.sig.wots.length ≤ maxLen) (hwe : ∀ i (h : i < x.r.sig.wots.length), x.r.sig.wots[i].length ≤ maxLen) (hpl : x.r.sig.path.length ≤ maxLen) (hpe : ∀ i (h : i < x.r.sig.path.length), x.r.sig.path[i].length ≤ maxLen) :
    Calls Tryz.prog 14 #[slotV x] w fun e w' => (∃ y : SlotE, y.r = slotTo x.r ∧ e = .returned (slotV y) ∧ Fresh w.heap.size y.wa y.r.sig.wots w' ∧ Fresh w.heap.size y.pa y.r.sig.path w') ∧ Below w.heap.size w w' := by
  obtain ⟨⟨l, sg, ⟨ix, ws, ps⟩⟩, wa, wc, pa, pc⟩ := x
  obtain ⟨hws, hps⟩ := hM
  simp only at hws hps hwl hwe hpl hpe
  have hb0 : Below w.heap.size w ((w.alloc (.cells #[.int .u64 (l : Int), .bool sg, .int .u64 (ix : Int), .slice wa ws.length wc, .slice pa ps.length pc] 53)).alloc (.cells #[.int .u64 0, .bool false, .int .u64 0, .slice none 0 0, .slice none 0 0] 53)) := (by0 w _).alloc (by simp) _
  have hz0 : ((w.alloc (.cells #[.int .u64 (l : Int), .bool sg, .int .u64 (ix : Int), .slice wa ws.length wc, .slice pa ps.length pc] 53)).alloc (.cells #[.int .u64 0, .bool false, .int .u64 0, .slice none 0 0, .slice none 0 0] 53)).heap.size = w.heap.size + 1 + 1 := by simp
  have hx0 : ((w.alloc (.cells #[.int .u64 (l : Int), .bool sg, .int .u64 (ix : Int), .slice wa ws.length wc, .slice pa ps.length pc] 53)).alloc (.cells #[.int .u64 0, .bool false, .int .u64 0, .slice none 0 0, .slice none 0 0] 53)).heap[w.heap.size]? = some (.cells #[.int .u64 (l : Int), .bool sg, .int .u64 (ix : Int), .slice wa ws.length wc, .slice pa ps.length pc] 53 (0, 0)) := lit_old _ (heap_alloc_new w _)
  have hr0 : ((w.alloc (.cells #[.int .u64 (l : Int), .bool sg, .int .u64 (ix : Int), .slice wa ws.length wc, .slice pa ps.length pc] 53)).alloc (.cells #[.int .u64 0, .bool false, .int .u64 0, .slice none 0 0, .slice none 0 0] 53)).heap[w.heap.size + 1]? = some (.cells #[.int .u64 0, .bool false, .int .u64 0, .slice none 0 0, .slice none 0 0] 53 (0, 0)) := by
    rw [show w.heap.size + 1 = (w.alloc (.cells #[.int .u64 (l : Int), .bool sg, .int .u64 (ix : Int), .slice wa ws.length wc, .slice pa ps.length pc] 53)).heap.size by simp]; exact heap_alloc_new _ _
  have HB := Lib.hid hb0
  have HZ := Lib.hid hz0
  have HX := Lib.hid hx0
  have HR := Lib.hid hr0
  have HT1 := Lib.hid (fun (wz : World) (h : Strs wa ws wz) => texts_any wa wc 70 ws wz (by decide) hwl hwe h)
  have HT2 := Lib.hid (fun (wz : World) (h : Strs pa ps wz) => texts_any pa pc 20 ps wz (by decide) hpl hpe h)
  have HWS := Lib.hid hws
  have HPS := Lib.hid hps
  clear hb0 hz0 hx0 hr0 hwl hwe hpl hpe hws hps
  go_enter Tryz.func14, Tryz.ntmps14
  go_upto_region 1 with fail
  change Code.wp _ _ _ _ ((w.alloc (.cells #[.int .u64 (l : Int), .bool sg, .int .u64 (ix : Int), .slice wa ws.length wc, .slice pa ps.length pc] 53)).alloc (.cells #[.int .u64 0, .bool false, .int .u64 0, .slice none 0 0, .slice none 0 0] 53))
  generalize (w.alloc (.cells #[.int .u64 (l : Int), .bool sg, .int .u64 (ix : Int), .slice wa ws.length wc, .slice pa ps.length pc] 53)).alloc (.cells #[.int .u64 0, .bool false, .int .u64 0, .slice none 0 0, .slice none 0 0] 53) = w1 at *
  have hz := HZ.out
  have p3 := (lit_cell HX.out 3).trans rfl
  go_upto_region 2 with (go_at_call 13; refine (HT1.out _ (HWS.out.below (Nat.le_refl _) HB.out)).mono ?_; rintro e w2 ⟨ao, cp, rfl, hS1, hb2⟩; have hX2 := (hb2.block w.heap.size (by omega)).trans HX.out; have q3 := (lit_cell hX2 3).trans rfl; have f3 := lit_free hX2 3)
  have hz2 := hb2.size
  have hb02 := HB.out.trans (hb2.mono (by omega))
  have hR2 := (hb2.block (w.heap.size + 1) (by omega)).trans HR.out
  have hx3 := lit_set (k := 3) (.slice ao (textsTo ws 70).length cp) hX2
  have ho3 := Only.set w.heap.size 3 (.slice ao (textsTo ws 70).length cp) w2
  have hb03 := hb02.trans (ho3.below (Nat.le_refl _) hb02.size)
  have hS3 := hS1.to (fun k hk hl => ho3.block k hl (by omega)) ho3.size
  have hR3 := (ho3.block (w.heap.size + 1) (by omega) (by omega)).trans hR2
  have hz3 : (w2.setCell ⟨w.heap.size, 3, none⟩ (.slice ao (textsTo ws 70).length cp)).heap.size = w2.heap.size := by simp
  generalize w2.setCell ⟨w.heap.size, 3, none⟩ (.slice ao (textsTo ws 70).length cp) = w3 at *
  have p4 := (lit_cell hx3 4).trans rfl
  clear hS1 ho3 hX2 hR2 q3 f3 p3
  go_upto_region 3 with (go_at_call 13; refine (HT2.out _ (HPS.out.below (Nat.le_refl _) hb03)).mono ?_; rintro e w4 ⟨bo, dp, rfl, hS2, hb4⟩; have hX4 := (hb4.block w.heap.size (by omega)).trans hx3; have q4 := (lit_cell hX4 4).trans rfl; have f4 := lit_free hX4 4)
  have hz4 := hb4.size
  have hb04 := hb03.trans (hb4.mono (by omega))
  have hS4 := hS3.to (fun k hk hl => hb4.block k (by omega)) hb4.size
  have hR4 := (hb4.block (w.heap.size + 1) (by omega)).trans hR3
  have hx5 := lit_set (k := 4) (.slice bo (textsTo ps 20).length dp) hX4
  have ho5 := Only.set w.heap.size 4 (.slice bo (textsTo ps 20).length dp) w4
  have hb05 := hb04.trans (ho5.below (Nat.le_refl _) hb04.size)
  have hS5 := hS4.to (fun k hk hl => ho5.block k hl (by omega)) ho5.size
  have hT5 := hS2.to (fun k hk hl => ho5.block k hl (by omega)) ho5.size
  have hR5 := (ho5.block (w.heap.size + 1) (by omega) (by omega)).trans hR4
  have hz5 : (w4.setCell ⟨w.heap.size, 4, none⟩ (.slice bo (textsTo ps 20).length dp)).heap.size = w4.heap.size := by simp
  generalize w4.setCell ⟨w.heap.size, 4, none⟩ (.slice bo (textsTo ps 20).length dp) = w5 at *
  have a0 := (lit_cell hx5 0).trans rfl; have a1 := (lit_cell hx5 1).trans rfl; have a2 := (lit_cell hx5 2).trans rfl; have a3 := (lit_cell hx5 3).trans rfl; have a4 := (lit_cell hx5 4).trans rfl
  have b0 := (lit_cell hR5 0).trans rfl; have b1 := (lit_cell hR5 1).trans rfl; have b2 := (lit_cell hR5 2).trans rfl; have b3 := (lit_cell hR5 3).trans rfl; have b4 := (lit_cell hR5 4).trans rfl
  have f0 := lit_free hR5 0; have f1 := lit_free hR5 1; have f2 := lit_free hR5 2; have f3 := lit_free hR5 3; have f4' := lit_free hR5 4
  clear hS2 hS3 hS4 hR3 hR4 hX4 q4 f4 p4 ho5 HT1 HT2
  go_wp2
  have hx7 := lit_set (k := 4) (.slice bo (textsTo ps 20).length dp) (lit_set (k := 3) (.slice ao (textsTo ws 70).length cp) (lit_set (k := 2) (.int .u64 (ix : Int)) (lit_set (k := 1) (.bool sg) (lit_set (k := 0) (.int .u64 (l : Int)) (hR5)))))
  have ho7 := ((((Only.set (w.heap.size + 1) 0 (.int .u64 (l : Int)) w5).trans (Only.set (w.heap.size + 1) 1 (.bool sg) _)).trans (Only.set (w.heap.size + 1) 2 (.int .u64 (ix : Int)) _)).trans (Only.set (w.heap.size + 1) 3 (.slice ao (textsTo ws 70).length cp) _)).trans (Only.set (w.heap.size + 1) 4 (.slice bo (textsTo ps 20).length dp) _)
  have hb07 := hb05.trans (ho7.below (by omega) hb05.size)
  have hS7 := (hS5.to (fun k hk hl => ho7.block k hl (by omega)) ho7.size).weak (lo2 := w.heap.size) (by omega)
  have hT7 := (hT5.to (fun k hk hl => ho7.block k hl (by omega)) ho7.size).weak (lo2 := w.heap.size) (by omega)
  generalize (((((w5).setCell ⟨w.heap.size + 1, 0, none⟩ (.int .u64 (l : Int))).setCell ⟨w.heap.size + 1, 1, none⟩ (.bool sg)).setCell ⟨w.heap.size + 1, 2, none⟩ (.int .u64 (ix : Int))).setCell ⟨w.heap.size + 1, 3, none⟩ (.slice ao (textsTo ws 70).length cp)).setCell ⟨w.heap.size + 1, 4, none⟩ (.slice bo (textsTo ps 20).length dp) = w7 at *
  have z0 := (lit_cell hx7 0).trans rfl; have z1 := (lit_cell hx7 1).trans rfl; have z2 := (lit_cell hx7 2).trans rfl; have z3 := (lit_cell hx7 3).trans rfl; have z4 := (lit_cell hx7 4).trans rfl
  refine bodyPost_ret (v := slotV ⟨slotTo ⟨l, sg, ⟨ix, ws, ps⟩⟩, ao, cp, bo, dp⟩) (by simp [results, Tryz.results14, go_sem, z0, z1, z2, z3, z4, slotTo]) rfl ⟨⟨_, rfl, rfl, hS7, hT7⟩, hb07⟩
end Go.Proofs.YtlhmmplkdjibkaaGreatDoor
/- The law's cert: a certificate that is cut into new memory. -/
namespace Go.Proofs.YtlhmmplkdjibkaaGreatDoor
open Go.RowKit

def revTo (r : RevR) : RevR := { r with slot := slotTo r.slot }
def certTo (c : CertR) : CertR := ⟨c.root, c.signed, (c.reveals.take 8).map revTo, c.coins.take 650, textsTo c.slotProof 20, textsTo c.partProof 20⟩
/-- a Cert's lists are as long as lists can be -/
structure CertS (x : CertE) : Prop where
  s : x.sp.length ≤ maxLen ∧ ∀ i (h : i < x.sp.length), x.sp[i].length ≤ maxLen
  p : x.pp.length ≤ maxLen ∧ ∀ i (h : i < x.pp.length), x.pp[i].length ≤ maxLen
  co : x.coins.length ≤ x.cc ∧ x.cc ≤ maxLen
  r : x.rl.length ≤ maxLen
  w : ∀ y ∈ x.rl, y.r.slot.sig.wots.length ≤ maxLen ∧ ∀ i (h : i < y.r.slot.sig.wots.length), y.r.slot.sig.wots[i].length ≤ maxLen
  q : ∀ y ∈ x.rl, y.r.slot.sig.path.length ≤ maxLen ∧ ∀ i (h : i < y.r.slot.sig.path.length), y.r.slot.sig.path[i].length ≤ maxLen
theorem own_keep {w w' : World} {base E sz n : Nat} {v : Value} {xs : List Value} (h : w.ownsRow base E sz v n xs) (hk : ∀ k, k < w.heap.size → w'.heap[k]? = w.heap[k]?) : w'.ownsRow base E sz v n xs := by
  obtain ⟨h1, h2⟩ := h
  refine ⟨h1, ?_⟩
  rcases h2 with h | ⟨g, cap, cur, a, b, c, d⟩
  · exact .inl h
  · exact .inr ⟨g, cap, cur, a, b, (hk g (lit_lt c)).trans c, d⟩
/-- what is so while a certificate's Reveals are cut -/
structure CutL (w6 : World) (rl : List RevE) (k : Nat) (ys : List RevE) (lv : Value) (wr : World) : Prop where
  own : wr.ownsRow w6.heap.size 57 11 lv k (ys.flatMap revQ)
  eq : ys.map (·.r) = ((rl.map (·.r)).take k).map revTo
  cut : ∀ y ∈ ys, Fresh w6.heap.size y.wa y.r.slot.sig.wots wr ∧ Fresh w6.heap.size y.pa y.r.slot.sig.path wr
  b : Below w6.heap.size w6 wr
theorem CutL.start (w6 : World) (rl : List RevE) : CutL w6 rl 0 [] (.slice none 0 0) w6 := ⟨World.ownsRow_nil _ _ _ _, rfl, (fun _ h => by cases h), Below.refl _ _⟩
theorem Fresh.grow {lo lo' : Nat} {ao : Option Addr} {L : List (List UInt8)} {w w' : World} (h : Fresh lo ao L w) (hl : lo' ≤ lo) (hs : w.heap.size ≤ w'.heap.size) (hk : ∀ k, lo ≤ k → k < w.heap.size → (∃ s, w.cell? ⟨k, 0, none⟩ = some (.string s)) → w'.heap[k]? = w.heap[k]?) : Fresh lo' ao L w' := by
  rcases h with h | ⟨b, h1, h2, h3, h4⟩
  · exact .inl h
  · by_cases hL : L = []
    · exact .inl hL
    · have hl0 := List.length_pos_iff.2 hL
      exact .inr ⟨b, h1, by omega, by omega, fun i hi => (World.cell?_of_block (a := ⟨b, i, none⟩) (hk b h2 h3 ⟨_, h4 0 hl0⟩)).trans (h4 i hi)⟩
theorem CutL.step {w6 wr w9 w7 : World} {rl : List RevE} {k : Nat} {ys : List RevE} {lv v7 : Value} {y : RevE} {z : SlotR} {za zp : Option Addr} {zc zd : Nat} {obj : Obj} (h : CutL w6 rl k ys lv wr) (hb : Below wr.heap.size wr w9) (hF1 : Fresh (wr.heap.size + 1) za z.sig.wots w9) (hF2 : Fresh (wr.heap.size + 1) zp z.sig.path w9) (hown7 : w7.ownsRow w6.heap.size 57 11 v7 (k + 1) (ys.flatMap revQ ++ revQ ⟨⟨y.r.pos, z, y.r.part⟩, za, zc, zp, zd⟩)) (hg7 : (w9.alloc obj).grownBy w7 lv.ownBlock) (hz : z = slotTo y.r.slot) (hyk : rl[k]? = some y) : CutL w6 rl (k + 1) (ys ++ [⟨⟨y.r.pos, z, y.r.part⟩, za, zc, zp, zd⟩]) v7 w7 := by
  have hlt := h.own.lt
  have hs9 := hb.size
  have hs6 := h.b.size
  have hs7 : w9.heap.size ≤ w7.heap.size := by have := hg7.size; rw [World.size_alloc] at this; omega
  have keep : ∀ q, q < w9.heap.size → some q ≠ lv.ownBlock → w7.heap[q]? = w9.heap[q]? := fun q hq hne => (hg7.block q (by rw [World.size_alloc]; omega) hne).trans (heap_alloc_old _ _ hq)
  have old : ys ≠ [] → ∀ q, (∃ s, wr.cell? ⟨q, 0, none⟩ = some (.string s)) → some q ≠ lv.ownBlock := by
    rintro hne q ⟨s, hs⟩ hq
    obtain ⟨hn, ⟨e, _⟩ | ⟨g, cap, cur, e, hb, hg0, hc1, hc2, hc3, hc4⟩⟩ := h.own
    · rw [e] at hq; cases hq
    · rw [e] at hq
      cases hq
      cases ys with
      | nil => exact hne rfl
      | cons a al =>
        rw [lit_cell hg0] at hs
        have hlk : 0 < k * 11 := by
          rw [← hn, List.flatMap_cons, List.length_append]
          have : (revQ a).length = 11 := rfl
          omega
        have e2 : (cur.toList.take (k * 11))[0]? = some (.string s) := by
          rw [List.getElem?_take_of_lt hlk, Array.getElem?_toList]; exact hs
        rw [hc4, List.flatMap_cons] at e2
        cases e2
  refine ⟨by rw [List.flatMap_append, List.flatMap_cons, List.flatMap_nil, List.append_nil]; exact hown7, ?_, fun x hx => ?_, ?_⟩
  · rw [List.map_append, h.eq, List.take_add_one, List.map_append, List.getElem?_map, hyk, hz]
    rfl
  · rcases List.mem_append.1 hx with hx | hx
    · obtain ⟨h1, h2⟩ := h.cut x hx
      have hne : ys ≠ [] := by intro e; rw [e] at hx; cases hx
      have kk : ∀ q, w6.heap.size ≤ q → q < wr.heap.size → (∃ s, wr.cell? ⟨q, 0, none⟩ = some (.string s)) → w7.heap[q]? = wr.heap[q]? := fun q _ hq hst => (keep q (by omega) (old hne q hst)).trans (hb.block q hq)
      exact ⟨h1.grow (Nat.le_refl _) (by omega) kk, h2.grow (Nat.le_refl _) (by omega) kk⟩
    · obtain rfl := List.mem_singleton.1 hx
      have new : ∀ q, wr.heap.size + 1 ≤ q → q < w9.heap.size → (∃ s, w9.cell? ⟨q, 0, none⟩ = some (.string s)) → w7.heap[q]? = w9.heap[q]? := fun q hq hq9 _ => keep q hq9 (fun e => by have := (hlt q e.symm).2; omega)
      exact ⟨hF1.grow (by omega) hs7 new, hF2.grow (by omega) hs7 new⟩
  · exact ((h.b.trans (hb.mono hs6)).trans ((by0 w9 obj).mono (by omega))).grown hg7 (by rw [World.size_alloc]; omega) (fun q e => (hlt q e).1)
theorem revs_get (x : RevE) (j : Nat) (hj : j < 11) : ∀ (ys : List RevE) (i : Nat), ys[i]? = some x → (ys.flatMap revQ)[i * 11 + j]? = (revQ x)[j]?
  | [], i, h => by cases h
  | y :: ys, 0, h => by
    cases h
    rw [List.flatMap_cons, Nat.zero_mul, Nat.zero_add, List.getElem?_append_left (by simp [revQ]; omega)]
  | y :: ys, i + 1, h => by
    rw [List.flatMap_cons, List.getElem?_append_right (by simp [revQ]; omega), show (i + 1) * 11 + j - (revQ y).length = i * 11 + j by simp [revQ]; omega]
    exact revs_get x j hj ys i h
/-- a list that lies far: from a block on -/
def FarS {α : Type} (lo : Nat) (ao : Option Addr) (L : List α) : Prop := L = [] ∨ ∃ b off, ao = some ⟨b, off, none⟩ ∧ lo ≤ b
theorem FarS.weak {α : Type} {lo lo' : Nat} {ao : Option Addr} {L : List α} (h : FarS lo ao L) (hl : lo' ≤ lo) : FarS lo' ao L := by
  rcases h with h | ⟨b, off, h1, h2⟩
  · exact .inl h
  · exact .inr ⟨b, off, h1, by omega⟩
theorem Fresh.far {lo lo' : Nat} {ao : Option Addr} {L : List (List UInt8)} {w : World} (h : Fresh lo ao L w) (hl : lo' ≤ lo) : FarS lo' ao L := by
  rcases h with h | ⟨b, h1, h2, _, _⟩
  · exact .inl h
  · exact .inr ⟨b, 0, h1, by omega⟩
/-- a certificate's lists lie far -/
structure FarC (lo : Nat) (y : CertE) : Prop where
  r : FarS lo y.ra y.rl
  x : ∀ z ∈ y.rl, FarS lo z.wa z.r.slot.sig.wots ∧ FarS lo z.pa z.r.slot.sig.path
  s : FarS lo y.sa y.sp
  p : FarS lo y.pa y.pp
theorem CutL.revs {w6 wr : World} {rl : List RevE} {k : Nat} {ys : List RevE} {lv : Value} (h : CutL w6 rl k ys lv wr) (hk : k ≤ rl.length) : ∃ ao cp, lv = .slice ao ys.length cp ∧ FarS w6.heap.size ao ys ∧ ∀ w', (∀ q, w6.heap.size ≤ q → q < wr.heap.size → w'.heap[q]? = wr.heap[q]?) → wr.heap.size ≤ w'.heap.size → Revs ao ys w' := by
  have hn : ys.length = k := by
    have := congrArg List.length h.eq
    rw [List.length_map, List.length_map, List.length_take, List.length_map] at this
    omega
  obtain ⟨h1, ⟨rfl, rfl⟩ | ⟨g, cap, cur, rfl, hb, hg0, hc1, hc2, hc3, hc4⟩⟩ := h.own
  · exact ⟨none, 0, by rw [hn], .inl (List.eq_nil_of_length_eq_zero hn), fun _ _ _ => .inl (List.eq_nil_of_length_eq_zero hn)⟩
  · refine ⟨_, cap, by rw [hn], .inr ⟨g, 0, rfl, hb⟩, fun w' hw hs => .inr ⟨g, 0, rfl, Nat.lt_of_lt_of_le (lit_lt hg0) hs, fun i x hx j hj => ?_⟩⟩
    have hi : i < ys.length := (List.getElem?_eq_some_iff.1 hx).1
    rw [lit_cell ((hw g hb (lit_lt hg0)).trans hg0), Nat.zero_add, ← revs_get x j hj ys i hx, ← hc4, List.getElem?_take_of_lt (by omega), Array.getElem?_toList]
set_option maxRecDepth 100000 in
set_option maxHeartbeats 4000000 in
theorem cutcert2_any (x : CertE) (w : World) (hM : CertM x w) (hS : CertS x) :
    Calls Tryz.prog 4 #[certV x] w fun e w' => (∃ y : CertE, y.r = certTo x.r ∧ e = .returned (certV y) ∧ CertM y w' ∧ FarC w.heap.size y ∧ y.ca = x.ca) ∧ Below w.heap.size w w' := by
  obtain ⟨root, sg, rl, co, sp, pp, ra, rc, ca, cc, sa, sc, pa, pc⟩ := x
  have hb0 : Below w.heap.size w ((w.alloc (.cells #[.string ⟨root.toArray⟩, .int .u64 (sg : Int), .slice ra rl.length rc, .slice ca co.length cc, .slice sa sp.length sc, .slice pa pp.length pc] 27)).alloc (.cells #[.string ⟨#[]⟩, .int .u64 0, .slice none 0 0, .slice none 0 0, .slice none 0 0, .slice none 0 0] 27)) := (by0 w _).alloc (by simp) _
  have hz0 : ((w.alloc (.cells #[.string ⟨root.toArray⟩, .int .u64 (sg : Int), .slice ra rl.length rc, .slice ca co.length cc, .slice sa sp.length sc, .slice pa pp.length pc] 27)).alloc (.cells #[.string ⟨#[]⟩, .int .u64 0, .slice none 0 0, .slice none 0 0, .slice none 0 0, .slice none 0 0] 27)).heap.size = w.heap.size + 1 + 1 := by simp
  have hx0 : ((w.alloc (.cells #[.string ⟨root.toArray⟩, .int .u64 (sg : Int), .slice ra rl.length rc, .slice ca co.length cc, .slice sa sp.length sc, .slice pa pp.length pc] 27)).alloc (.cells #[.string ⟨#[]⟩, .int .u64 0, .slice none 0 0, .slice none 0 0, .slice none 0 0, .slice none 0 0] 27)).heap[w.heap.size]? = some (.cells #[.string ⟨root.toArray⟩, .int .u64 (sg : Int), .slice ra rl.length rc, .slice ca co.length cc, .slice sa sp.length sc, .slice pa pp.length pc] 27 (0, 0)) := lit_old _ (heap_alloc_new w _)
  have hr0 : ((w.alloc (.cells #[.string ⟨root.toArray⟩, .int .u64 (sg : Int), .slice ra rl.length rc, .slice ca co.length cc, .slice sa sp.length sc, .slice pa pp.length pc] 27)).alloc (.cells #[.string ⟨#[]⟩, .int .u64 0, .slice none 0 0, .slice none 0 0, .slice none 0 0, .slice none 0 0] 27)).heap[w.heap.size + 1]? = some (.cells #[.string ⟨#[]⟩, .int .u64 0, .slice none 0 0, .slice none 0 0, .slice none 0 0, .slice none 0 0] 27 (0, 0)) := by
    rw [show w.heap.size + 1 = (w.alloc (.cells #[.string ⟨root.toArray⟩, .int .u64 (sg : Int), .slice ra rl.length rc, .slice ca co.length cc, .slice sa sp.length sc, .slice pa pp.length pc] 27)).heap.size by simp]; exact heap_alloc_new _ _
  have HB := Lib.hid hb0
  have HZ := Lib.hid hz0
  have HX := Lib.hid hx0
  have HR := Lib.hid hr0
  have HM := Lib.hid hM
  have HS := Lib.hid hS
  have HT1 := Lib.hid (fun (wz : World) (h : Strs sa sp wz) => texts_any sa sc 20 sp wz (by decide) hS.s.1 hS.s.2 h)
  have HT2 := Lib.hid (fun (wz : World) (h : Strs pa pp wz) => texts_any pa pc 20 pp wz (by decide) hS.p.1 hS.p.2 h)
  clear hb0 hz0 hx0 hr0 hM hS
  go_enter Tryz.func4, Tryz.ntmps4
  go_upto_region 1 with fail
  change Code.wp _ _ _ _ ((w.alloc (.cells #[.string ⟨root.toArray⟩, .int .u64 (sg : Int), .slice ra rl.length rc, .slice ca co.length cc, .slice sa sp.length sc, .slice pa pp.length pc] 27)).alloc (.cells #[.string ⟨#[]⟩, .int .u64 0, .slice none 0 0, .slice none 0 0, .slice none 0 0, .slice none 0 0] 27))
  generalize (w.alloc (.cells #[.string ⟨root.toArray⟩, .int .u64 (sg : Int), .slice ra rl.length rc, .slice ca co.length cc, .slice sa sp.length sc, .slice pa pp.length pc] 27)).alloc (.cells #[.string ⟨#[]⟩, .int .u64 0, .slice none 0 0, .slice none 0 0, .slice none 0 0, .slice none 0 0] 27) = w1 at *
  have hz := HZ.out
  have p4 := (lit_cell HX.out 4).trans rfl
  go_upto_region 2 with (go_at_call 13; refine (HT1.out _ (HM.out.s.below (Nat.le_refl _) HB.out)).mono ?_; rintro e w2 ⟨sa2, sc2, rfl, hS1, hb2⟩; have hX2 := (hb2.block w.heap.size (by omega)).trans HX.out; have q4 := (lit_cell hX2 4).trans rfl; have f4 := lit_free hX2 4)
  have hz2 := hb2.size
  have hb02 := HB.out.trans (hb2.mono (by omega))
  have hR2 := (hb2.block (w.heap.size + 1) (by omega)).trans HR.out
  have hx3 := lit_set (k := 4) (.slice sa2 (textsTo sp 20).length sc2) hX2
  have ho3 := Only.set w.heap.size 4 (.slice sa2 (textsTo sp 20).length sc2) w2
  have hb03 := hb02.trans (ho3.below (Nat.le_refl _) hb02.size)
  have hS3 := hS1.to (fun k hk hl => ho3.block k hl (by omega)) ho3.size
  have hR3 := (ho3.block (w.heap.size + 1) (by omega) (by omega)).trans hR2
  have hz3 : (w2.setCell ⟨w.heap.size, 4, none⟩ (.slice sa2 (textsTo sp 20).length sc2)).heap.size = w2.heap.size := by simp
  generalize w2.setCell ⟨w.heap.size, 4, none⟩ (.slice sa2 (textsTo sp 20).length sc2) = w3 at *
  have p5 := (lit_cell hx3 5).trans rfl
  clear hS1 ho3 hX2 hR2 q4 f4 p4
  go_upto_region 3 with (go_at_call 13; refine (HT2.out _ (HM.out.p.below (Nat.le_refl _) hb03)).mono ?_; rintro e w4 ⟨pa2, pc2, rfl, hS2, hb4⟩; have hX4 := (hb4.block w.heap.size (by omega)).trans hx3; have q5 := (lit_cell hX4 5).trans rfl; have f5 := lit_free hX4 5)
  have hz4 := hb4.size
  have hb04 := hb03.trans (hb4.mono (by omega))
  have hS4 := hS3.to (fun k hk hl => hb4.block k (by omega)) hb4.size
  have hR4 := (hb4.block (w.heap.size + 1) (by omega)).trans hR3
  have hx5 := lit_set (k := 5) (.slice pa2 (textsTo pp 20).length pc2) hX4
  have ho5 := Only.set w.heap.size 5 (.slice pa2 (textsTo pp 20).length pc2) w4
  have hb05 := hb04.trans (ho5.below (Nat.le_refl _) hb04.size)
  have hS5 := hS4.to (fun k hk hl => ho5.block k hl (by omega)) ho5.size
  have hT5 := hS2.to (fun k hk hl => ho5.block k hl (by omega)) ho5.size
  have hR5 := (ho5.block (w.heap.size + 1) (by omega) (by omega)).trans hR4
  have hz5 : (w4.setCell ⟨w.heap.size, 5, none⟩ (.slice pa2 (textsTo pp 20).length pc2)).heap.size = w4.heap.size := by simp
  generalize w4.setCell ⟨w.heap.size, 5, none⟩ (.slice pa2 (textsTo pp 20).length pc2) = w5 at *
  have p3 := (lit_cell hx5 3).trans rfl
  have f3 := lit_free hx5 3
  clear hS2 hS3 hS4 hR3 hR4 hX4 q5 f5 p5 ho5 HT1 HT2 hx3
  obtain ⟨m, hm1, hm2, hm3, hm4⟩ : ∃ m : Nat, min (co.length : Int) 650 = (m : Int) ∧ m ≤ co.length ∧ (co.take 650).length = m ∧ m ≤ 650 := ⟨min co.length 650, by omega, by omega, by rw [List.length_take, Nat.min_comm], by omega⟩
  have m0 : (0 : Int) ≤ (m : Int) := by omega
  have m1 : (m : Int) ≤ (cc : Int) := by have := HS.out.co.1; dsimp only at this; omega
  have HS5 := Lib.hid (hS5.keep (lo' := w.heap.size + 1 + 1) (by omega) (fun _ _ => rfl) (Nat.le_refl _))
  have HT5 := Lib.hid (hT5.keep (lo' := w.heap.size + 1 + 1) (by omega) (fun _ _ => rfl) (Nat.le_refl _))
  have HB5 := Lib.hid hb05
  have HX5 := Lib.hid hx5
  have HR5 := Lib.hid hR5
  have HZ5 : Hid (w.heap.size + 1 + 1 ≤ w5.heap.size) := Lib.hid (by omega)
  clear hS5 hT5 hb05 hx5 hR5 hz hz2 hz3 hz4 hz5 hb02 hb03 hb04 hb2 hb4
  go_upto_region 5 with fail
  have hx6 := lit_set (k := 3) (.slice ca m cc) HX5.out
  have ho6 := Only.set w.heap.size 3 (.slice ca m cc) w5
  have HB6 := Lib.hid (HB5.out.trans (ho6.below (Nat.le_refl _) HB5.out.size))
  have HS6 := Lib.hid (HS5.out.to (fun k hk hl => ho6.block k hl (by omega)) ho6.size)
  have HT6 := Lib.hid (HT5.out.to (fun k hk hl => ho6.block k hl (by omega)) ho6.size)
  have HR6 := Lib.hid ((ho6.block (w.heap.size + 1) (lit_lt HR5.out) (by omega)).trans HR5.out)
  have HZ6 : Hid (w.heap.size + 1 + 1 ≤ (w5.setCell ⟨w.heap.size, 3, none⟩ (.slice ca m cc)).heap.size) := Lib.hid (by have := HZ5.out; simp; exact this)
  generalize w5.setCell ⟨w.heap.size, 3, none⟩ (.slice ca m cc) = w6 at *
  have HX6 := Lib.hid hx6
  have HN6 : Hid (w.heap.size < w6.heap.size) := Lib.hid (lit_lt hx6)
  clear hx6 ho6 p3 f3 HS5 HT5 HB5 HX5 HR5 HZ5
  obtain ⟨i0, hi, hz, hs, hby⟩ := infoRev
  go_wp2
  go_loopw [3, 4] (fun lv iv wr => ∃ (k : Nat) (ys : List RevE), k ≤ rl.length ∧ k ≤ 8 ∧ iv = .int .i64 (k : Int) ∧ Hid (CutL w6 rl k ys lv wr)) (fun _ iv _ => rl.length - (intOf iv).toNat)
  case atStart => exact ⟨0, [], by omega, by omega, rfl, Lib.hid (CutL.start w6 rl)⟩
  case round =>
    obtain ⟨k, ys, hk, hk8, rfl, HL⟩ := hrel
    have hxr := (HL.out.b.block w.heap.size HN6.out).trans HX6.out
    have c2 := (lit_cell hxr 2).trans rfl
    have k0 : (0 : Int) ≤ (k : Int) := by omega
    by_cases hlt : k < rl.length ∧ k < 8
    · obtain ⟨hlt1, hlt2⟩ := hlt
      have k1 : (k : Int) < (rl.length : Int) := by omega
      have k2 : (k : Int) < (8 : Int) := by omega
      obtain ⟨y, hy⟩ : ∃ y, rl[k] = y := ⟨_, rfl⟩
      have hyk : rl[k]? = some y := by rw [List.getElem?_eq_getElem hlt1, hy]
      have hymem : y ∈ rl := hy ▸ List.getElem_mem hlt1
      rcases HM.out.r with hnil | ⟨bb, off, hra, hbb, hcs⟩
      · exact absurd hnil (by intro e; dsimp only at e; rw [e] at hlt1; exact absurd hlt1 (by simp))
      dsimp only at hra hcs
      subst hra
      have hbr : wr.heap[bb]? = w.heap[bb]? := (HL.out.b.block bb (by have := HN6.out; omega)).trans (HB6.out.block bb hbb)
      obtain ⟨d0, d1, d2, d3, d4, d5, d6, d7, d8, d9, d10⟩ := rev_cells (w := wr) (bb := bb) (q := off + k * 11) (x := y) (fun j hj => by rw [Nat.add_assoc]; exact (World.cell?_of_block (a := ⟨bb, off + (k * 11 + j), none⟩) hbr).trans (hcs k y hyk j hj))
      have HSM : Hid (SlotM ⟨y.r.slot, y.wa, y.wc, y.pa, y.pc⟩ w) := Lib.hid ⟨(HM.out.x y hymem).1, (HM.out.x y hymem).2⟩
      have HCS := Lib.hid (fun (wz : World) (h : SlotM ⟨y.r.slot, y.wa, y.wc, y.pa, y.pc⟩ wz) => cutslot2_any ⟨y.r.slot, y.wa, y.wc, y.pa, y.pc⟩ wz h (HS.out.w y hymem).1 (HS.out.w y hymem).2 (HS.out.q y hymem).1 (HS.out.q y hymem).2)
      have HYK := Lib.hid hyk
      have HXR := Lib.hid hxr
      have HNX := Lib.hid (heap_alloc_new wr (.cells (revQ y).toArray 57))
      have HBA := Lib.hid (by0 wr (.cells (revQ y).toArray 57))
      have HZA : Hid ((wr.alloc (.cells (revQ y).toArray 57)).heap.size = wr.heap.size + 1) := Lib.hid (by simp)
      clear hy hyk hymem hbb hcs hbr hxr
      go_upto_region 9 with fail
      change Code.wp _ _ _ _ (wr.alloc (.cells (revQ y).toArray 57))
      generalize wr.alloc (.cells (revQ y).toArray 57) = wb at *
      have hnx := HNX.out
      simp only [revQ] at hnx
      have e1 := (lit_cell hnx 1).trans rfl; have e2 := (lit_cell hnx 2).trans rfl; have e3 := (lit_cell hnx 3).trans rfl; have e4 := (lit_cell hnx 4).trans rfl; have e5 := (lit_cell hnx 5).trans rfl
      have hza := HZA.out
      have hb0b := HB6.out.trans ((HL.out.b.mono HB6.out.size).trans (HBA.out.mono (by have := HL.out.b.size; have := HB6.out.size; omega)))
      have HSB := Lib.hid (HCS.out wb ⟨HSM.out.ws.below (Nat.le_refl _) hb0b, HSM.out.ps.below (Nat.le_refl _) hb0b⟩)
      clear d0 d1 d2 d3 d4 d5 d6 d7 d8 d9 d10 c2 HCS HSM hb0b
      go_upto_region 10 with (go_at_call 14; refine HSB.out.mono ?_; rintro e w8 ⟨⟨⟨z, za, zc, zp, zd⟩, hz8, rfl, hF1, hF2⟩, hb8⟩; have HZ8 := Lib.hid hz8; clear hz8; have hX8 := (hb8.block wr.heap.size (by omega)).trans hnx; have g1 := lit_free hX8 1; have g2 := lit_free hX8 2; have g3 := lit_free hX8 3; have g4 := lit_free hX8 4; have g5 := lit_free hX8 5; have i1 := (lit_cell hX8 1).trans rfl; have i2 := (lit_cell hX8 2).trans rfl; have i3 := (lit_cell hX8 3).trans rfl; have i4 := (lit_cell hX8 4).trans rfl; have i5 := (lit_cell hX8 5).trans rfl)
      have hX9 := lit_set (k := 5) (.slice zp z.sig.path.length zd) (lit_set (k := 4) (.slice za z.sig.wots.length zc) (lit_set (k := 3) (.int .u64 (z.sig.index : Int)) (lit_set (k := 2) (.bool z.signed) (lit_set (k := 1) (.int .u64 (z.l : Int)) (hX8)))))
      have ho9 : Only wr.heap.size w8 ((((((w8).setCell ⟨wr.heap.size, 1, none⟩ (.int .u64 (z.l : Int))).setCell ⟨wr.heap.size, 2, none⟩ (.bool z.signed)).setCell ⟨wr.heap.size, 3, none⟩ (.int .u64 (z.sig.index : Int))).setCell ⟨wr.heap.size, 4, none⟩ (.slice za z.sig.wots.length zc)).setCell ⟨wr.heap.size, 5, none⟩ (.slice zp z.sig.path.length zd)) := ((((((Only.refl wr.heap.size w8).trans (Only.set wr.heap.size 1 (.int .u64 (z.l : Int)) (w8))).trans (Only.set wr.heap.size 2 (.bool z.signed) ((w8).setCell ⟨wr.heap.size, 1, none⟩ (.int .u64 (z.l : Int))))).trans (Only.set wr.heap.size 3 (.int .u64 (z.sig.index : Int)) (((w8).setCell ⟨wr.heap.size, 1, none⟩ (.int .u64 (z.l : Int))).setCell ⟨wr.heap.size, 2, none⟩ (.bool z.signed)))).trans (Only.set wr.heap.size 4 (.slice za z.sig.wots.length zc) ((((w8).setCell ⟨wr.heap.size, 1, none⟩ (.int .u64 (z.l : Int))).setCell ⟨wr.heap.size, 2, none⟩ (.bool z.signed)).setCell ⟨wr.heap.size, 3, none⟩ (.int .u64 (z.sig.index : Int))))).trans (Only.set wr.heap.size 5 (.slice zp z.sig.path.length zd) (((((w8).setCell ⟨wr.heap.size, 1, none⟩ (.int .u64 (z.l : Int))).setCell ⟨wr.heap.size, 2, none⟩ (.bool z.signed)).setCell ⟨wr.heap.size, 3, none⟩ (.int .u64 (z.sig.index : Int))).setCell ⟨wr.heap.size, 4, none⟩ (.slice za z.sig.wots.length zc))))
      have hs9 : ((((((w8).setCell ⟨wr.heap.size, 1, none⟩ (.int .u64 (z.l : Int))).setCell ⟨wr.heap.size, 2, none⟩ (.bool z.signed)).setCell ⟨wr.heap.size, 3, none⟩ (.int .u64 (z.sig.index : Int))).setCell ⟨wr.heap.size, 4, none⟩ (.slice za z.sig.wots.length zc)).setCell ⟨wr.heap.size, 5, none⟩ (.slice zp z.sig.path.length zd)).heap.size = w8.heap.size := by simp
      generalize (((((w8).setCell ⟨wr.heap.size, 1, none⟩ (.int .u64 (z.l : Int))).setCell ⟨wr.heap.size, 2, none⟩ (.bool z.signed)).setCell ⟨wr.heap.size, 3, none⟩ (.int .u64 (z.sig.index : Int))).setCell ⟨wr.heap.size, 4, none⟩ (.slice za z.sig.wots.length zc)).setCell ⟨wr.heap.size, 5, none⟩ (.slice zp z.sig.path.length zd) = w9 at *
      have j0 := (lit_cell hX9 0).trans rfl; have j1 := (lit_cell hX9 1).trans rfl; have j2 := (lit_cell hX9 2).trans rfl; have j3 := (lit_cell hX9 3).trans rfl; have j4 := (lit_cell hX9 4).trans rfl; have j5 := (lit_cell hX9 5).trans rfl; have j6 := (lit_cell hX9 6).trans rfl; have j7 := (lit_cell hX9 7).trans rfl; have j8 := (lit_cell hX9 8).trans rfl; have j9 := (lit_cell hX9 9).trans rfl; have j10 := (lit_cell hX9 10).trans rfl
      have hs8b := hb8.size
      have HB9 : Hid (Below wr.heap.size wr w9) := Lib.hid ((HBA.out.trans (hb8.mono (by omega))).trans (ho9.below (Nat.le_refl _) (by omega)))
      have HF1 := Lib.hid ((hF1.to (w' := w9) (fun q hq hl => ho9.block q hl (by omega)) ho9.size).keep (lo' := wr.heap.size + 1) (by omega) (fun _ _ => rfl) (Nat.le_refl _))
      have HF2 := Lib.hid ((hF2.to (w' := w9) (fun q hq hl => ho9.block q hl (by omega)) ho9.size).keep (lo' := wr.heap.size + 1) (by omega) (fun _ _ => rfl) (Nat.le_refl _))
      have HB8 := Lib.hid hb8
      have HO9 := Lib.hid ho9
      have HS9 := Lib.hid hs9
      have HSA : Hid (wr.heap.size + 1 ≤ w8.heap.size) := Lib.hid (by have := hb8.size; omega)
      have HOW : Hid (w9.ownsRow w6.heap.size 57 11 u3 k (ys.flatMap revQ)) := Lib.hid (own_keep HL.out.own (fun q hq => (ho9.block q (by omega) (by omega)).trans ((hb8.block q (by omega)).trans (HBA.out.block q hq))))
      clear hF1 hF2 hb8 ho9 hs9 hX8 hs8b g1 g2 g3 g4 g5 i1 i2 i3 i4 i5 e1 e2 e3 e4 e5 hnx hza hX9 HSB
      have HBS : Hid (w6.heap.size ≤ wr.heap.size) := Lib.hid HL.out.b.size
      go_upto_region 7 with (at_builtin; (refine wpList_append_own _ rfl _ _ 23 rfl w6.heap.size 57 i0 (.agg #[.int .u64 0, .int .u64 0, .bool false, .int .u64 0, .slice none 0 0, .slice none 0 0, .string ⟨#[]⟩, .int .u64 0, .int .u64 0, .int .u64 0, .int .u64 0]) 11 128 Tryz.underlying23 hi hz hs hby rfl (by decide) u3 k (ys.flatMap revQ) rfl (HOW.out.alloc _) ⟨w9.heap.size, 0, none⟩ 1 1 (revQ ⟨⟨y.r.pos, z, y.r.part⟩, za, zc, zp, zd⟩) rfl rfl (rev_new w9 ⟨⟨y.r.pos, z, y.r.part⟩, za, zc, zp, zd⟩ _) (rev_one _) (by unfold maxLen; omega) (by omega) (by rw [World.size_alloc]; have := HBS.out; have := HSA.out; have := HS9.out; omega) ?_); intro v7 w7 hown7 hg7 _)
      have HL2 := Lib.hid (CutL.step HL.out HB9.out HF1.out HF2.out hown7 hg7 HZ8.out HYK.out)
      clear hown7 hg7 j0 j1 j2 j3 j4 j5 j6 j7 j8 j9 j10
      go_wp2
      go_roundw
      case rel => exact ⟨k + 1, _, by omega, by omega, by go_num, HL2⟩
      case measure => simp [intOf]; omega
    · obtain ⟨ao, cp, rfl, hFR, hRV⟩ := HL.out.revs hk
      have HFR := Lib.hid hFR
      have hxw := (HL.out.b.block (w.heap.size + 1) (by have := HZ6.out; omega)).trans HR6.out
      have hx7 := lit_set (k := 2) (.slice ao ys.length cp) hxr
      have ho7 := Only.set w.heap.size 2 (.slice ao ys.length cp) wr
      have hr7 := (ho7.block (w.heap.size + 1) (lit_lt hxw) (by omega)).trans hxw
      have g2 := lit_free hxr 2
      have HTAKE : Hid ((rl.map (·.r)).take k = (rl.map (·.r)).take 8) := Lib.hid (by
        by_cases h : k < 8
        · have : k = rl.length := by omega
          rw [List.take_of_length_le (by simp; omega), List.take_of_length_le (by simp; omega)]
        · rw [show k = 8 by omega])
      have hcase : (¬ (k : Int) < (8 : Int) ∧ (k : Int) < (rl.length : Int)) ∨ ¬ (k : Int) < (rl.length : Int) := by omega
      have HRV := Lib.hid hRV
      clear hlt hRV hFR
      rcases hcase with ⟨k2, k1⟩ | k1
      all_goals
        go_upto_region 12 with fail
        have hs7 : (wr.setCell ⟨w.heap.size, 2, none⟩ (.slice ao ys.length cp)).heap.size = wr.heap.size := by simp
        generalize wr.setCell ⟨w.heap.size, 2, none⟩ (.slice ao ys.length cp) = w7 at *
        have a0 := (lit_cell hx7 0).trans rfl; have b0 := (lit_cell hr7 0).trans rfl; have f0 := lit_free hr7 0; have a1 := (lit_cell hx7 1).trans rfl; have b1 := (lit_cell hr7 1).trans rfl; have f1 := lit_free hr7 1; have a2 := (lit_cell hx7 2).trans rfl; have b2 := (lit_cell hr7 2).trans rfl; have f2 := lit_free hr7 2; have a3 := (lit_cell hx7 3).trans rfl; have b3 := (lit_cell hr7 3).trans rfl; have f3 := lit_free hr7 3; have a4 := (lit_cell hx7 4).trans rfl; have b4 := (lit_cell hr7 4).trans rfl; have f4 := lit_free hr7 4; have a5 := (lit_cell hx7 5).trans rfl; have b5 := (lit_cell hr7 5).trans rfl; have f5 := lit_free hr7 5
        go_wp2
        have hx8 := lit_set (k := 5) (.slice pa2 (textsTo pp 20).length pc2) (lit_set (k := 4) (.slice sa2 (textsTo sp 20).length sc2) (lit_set (k := 3) (.slice ca m cc) (lit_set (k := 2) (.slice ao ys.length cp) (lit_set (k := 1) (.int .u64 (sg : Int)) (lit_set (k := 0) (.string ⟨root.toArray⟩) (hr7))))))
        have ho8 : Only (w.heap.size + 1) w7 (((((((w7).setCell ⟨w.heap.size + 1, 0, none⟩ (.string ⟨root.toArray⟩)).setCell ⟨w.heap.size + 1, 1, none⟩ (.int .u64 (sg : Int))).setCell ⟨w.heap.size + 1, 2, none⟩ (.slice ao ys.length cp)).setCell ⟨w.heap.size + 1, 3, none⟩ (.slice ca m cc)).setCell ⟨w.heap.size + 1, 4, none⟩ (.slice sa2 (textsTo sp 20).length sc2)).setCell ⟨w.heap.size + 1, 5, none⟩ (.slice pa2 (textsTo pp 20).length pc2)) := (((((((Only.refl (w.heap.size + 1) w7).trans (Only.set (w.heap.size + 1) 0 (.string ⟨root.toArray⟩) (w7))).trans (Only.set (w.heap.size + 1) 1 (.int .u64 (sg : Int)) ((w7).setCell ⟨w.heap.size + 1, 0, none⟩ (.string ⟨root.toArray⟩)))).trans (Only.set (w.heap.size + 1) 2 (.slice ao ys.length cp) (((w7).setCell ⟨w.heap.size + 1, 0, none⟩ (.string ⟨root.toArray⟩)).setCell ⟨w.heap.size + 1, 1, none⟩ (.int .u64 (sg : Int))))).trans (Only.set (w.heap.size + 1) 3 (.slice ca m cc) ((((w7).setCell ⟨w.heap.size + 1, 0, none⟩ (.string ⟨root.toArray⟩)).setCell ⟨w.heap.size + 1, 1, none⟩ (.int .u64 (sg : Int))).setCell ⟨w.heap.size + 1, 2, none⟩ (.slice ao ys.length cp)))).trans (Only.set (w.heap.size + 1) 4 (.slice sa2 (textsTo sp 20).length sc2) (((((w7).setCell ⟨w.heap.size + 1, 0, none⟩ (.string ⟨root.toArray⟩)).setCell ⟨w.heap.size + 1, 1, none⟩ (.int .u64 (sg : Int))).setCell ⟨w.heap.size + 1, 2, none⟩ (.slice ao ys.length cp)).setCell ⟨w.heap.size + 1, 3, none⟩ (.slice ca m cc)))).trans (Only.set (w.heap.size + 1) 5 (.slice pa2 (textsTo pp 20).length pc2) ((((((w7).setCell ⟨w.heap.size + 1, 0, none⟩ (.string ⟨root.toArray⟩)).setCell ⟨w.heap.size + 1, 1, none⟩ (.int .u64 (sg : Int))).setCell ⟨w.heap.size + 1, 2, none⟩ (.slice ao ys.length cp)).setCell ⟨w.heap.size + 1, 3, none⟩ (.slice ca m cc)).setCell ⟨w.heap.size + 1, 4, none⟩ (.slice sa2 (textsTo sp 20).length sc2))))
        have hs8 : (((((((w7).setCell ⟨w.heap.size + 1, 0, none⟩ (.string ⟨root.toArray⟩)).setCell ⟨w.heap.size + 1, 1, none⟩ (.int .u64 (sg : Int))).setCell ⟨w.heap.size + 1, 2, none⟩ (.slice ao ys.length cp)).setCell ⟨w.heap.size + 1, 3, none⟩ (.slice ca m cc)).setCell ⟨w.heap.size + 1, 4, none⟩ (.slice sa2 (textsTo sp 20).length sc2)).setCell ⟨w.heap.size + 1, 5, none⟩ (.slice pa2 (textsTo pp 20).length pc2)).heap.size = w7.heap.size := by simp
        generalize ((((((w7).setCell ⟨w.heap.size + 1, 0, none⟩ (.string ⟨root.toArray⟩)).setCell ⟨w.heap.size + 1, 1, none⟩ (.int .u64 (sg : Int))).setCell ⟨w.heap.size + 1, 2, none⟩ (.slice ao ys.length cp)).setCell ⟨w.heap.size + 1, 3, none⟩ (.slice ca m cc)).setCell ⟨w.heap.size + 1, 4, none⟩ (.slice sa2 (textsTo sp 20).length sc2)).setCell ⟨w.heap.size + 1, 5, none⟩ (.slice pa2 (textsTo pp 20).length pc2) = w8 at *
        have z0 := (lit_cell hx8 0).trans rfl; have z1 := (lit_cell hx8 1).trans rfl; have z2 := (lit_cell hx8 2).trans rfl; have z3 := (lit_cell hx8 3).trans rfl; have z4 := (lit_cell hx8 4).trans rfl; have z5 := (lit_cell hx8 5).trans rfl
        have h60 := HZ6.out
        have hbs := HL.out.b.size
        have hb6 := HB6.out.size
        have hall : ∀ q, w.heap.size + 1 + 1 ≤ q → q < wr.heap.size → w8.heap[q]? = wr.heap[q]? := fun q hq hl => (ho8.block q (by omega) (by omega)).trans (ho7.block q hl (by omega))
        have hb8 : Below w.heap.size w w8 := ((HB6.out.trans (HL.out.b.mono hb6)).trans (ho7.below (Nat.le_refl _) (by omega))).trans (ho8.below (by omega) (by omega))
        have h66 : ∀ q, w.heap.size + 1 + 1 ≤ q → q < w6.heap.size → w8.heap[q]? = w6.heap[q]? := fun q hq hl => (hall q hq (by omega)).trans (HL.out.b.block q hl)
        subst hm3
        refine bodyPost_ret (v := certV ⟨root, sg, ys, co.take 650, textsTo sp 20, textsTo pp 20, ao, cp, ca, cc, sa2, sc2, pa2, pc2⟩) (by simp [results, Tryz.results4, go_sem, z0, z1, z2, z3, z4, z5]) rfl ⟨⟨_, ?_, rfl, ⟨HRV.out w8 (fun q hq hl => hall q (by omega) hl) (by omega), fun x hx => ⟨((HL.out.cut x hx).1.to (fun q hq hl => hall q (by omega) hl) (by omega)).strs, ((HL.out.cut x hx).2.to (fun q hq hl => hall q (by omega) hl) (by omega)).strs⟩, ?_, (HS6.out.to h66 (by omega)).strs, (HT6.out.to h66 (by omega)).strs⟩, ⟨HFR.out.weak (by omega), fun z hz => ⟨(HL.out.cut z hz).1.far (by omega), (HL.out.cut z hz).2.far (by omega)⟩, HS6.out.far (by omega), HT6.out.far (by omega)⟩, rfl⟩, hb8⟩
        · show (⟨root, sg, ys.map (·.r), co.take 650, textsTo sp 20, textsTo pp 20⟩ : CertR) = _
          rw [HL.out.eq, HTAKE.out]
          rfl
        · rcases HM.out.co with h | ⟨b, off, h1, h2, h3⟩
          · exact .inl (by rw [show co = [] from h]; rfl)
          · refine .inr ⟨b, off, h1, by omega, fun i hi => ?_⟩
            have hi2 : i < co.length := by rw [List.length_take] at hi; omega
            rw [List.getElem_take]
            exact (World.cell?_of_block (a := ⟨b, off + i, none⟩) (hb8.block b h2)).trans (h3 i hi2)
end Go.Proofs.YtlhmmplkdjibkaaGreatDoor
