/- read[Cert]. -/
import Derived.Test.YtbkiijndhjmkdaaGreatDoorJ33
import Derived.Test.YtbkiijndhjmkdaaGreatDoorJ25
import Derived.Test.YtbkiijndhjmkdaaGreatDoorJ27
namespace Go.Proofs.YtbkiijndhjmkdaaGreatDoor
open Go.RowKit

/-- a row of values that was made behind lo -/
def FreshV (lo : Nat) (ao : Option Addr) (xs : List Value) (w : World) : Prop := xs = [] ∨ ∃ b, ao = some ⟨b, 0, none⟩ ∧ lo ≤ b ∧ b < w.heap.size ∧ ∀ i u, xs[i]? = some u → w.cell? ⟨b, i, none⟩ = some u
theorem OwnV.fresh {B rb t lo cp : Nat} {ao : Option Addr} {xs : List Value} {w w' : World} (h : OwnV B rb t ao cp xs w) (hl : lo ≤ B) (hk : ∀ k, k < w.heap.size → B ≤ k → k ≠ t → k ≠ rb → w'.heap[k]? = w.heap[k]?) (hs : w.heap.size ≤ w'.heap.size) : FreshV lo ao xs w' := by
  rcases h with h | ⟨b, _, h1, h2, h3, h4, h5, h6⟩
  · exact .inl h.1
  · exact .inr ⟨b, h1, by omega, by omega, fun i u hi => (World.cell?_of_block (a := ⟨b, i, none⟩) (hk b h5 h2 h4 h3)).trans (h6 i u hi)⟩
theorem FreshV.keep {lo lo' : Nat} {ao : Option Addr} {xs : List Value} {w w' : World} (h : FreshV lo ao xs w) (hl : lo' ≤ lo) (hk : ∀ k, lo ≤ k → w'.heap[k]? = w.heap[k]?) (hs : w.heap.size ≤ w'.heap.size) : FreshV lo' ao xs w' := by
  rcases h with h | ⟨b, h1, h2, h3, h4⟩
  · exact .inl h
  · exact .inr ⟨b, h1, by omega, by omega, fun i u hi => (World.cell?_of_block (a := ⟨b, i, none⟩) (hk b h2)).trans (h4 i u hi)⟩
/-- a Cert's lists, made behind lo -/
structure FreshC (lo : Nat) (c : CertE) (w : World) : Prop where
  r : FreshV lo c.ra (c.rl.flatMap revQ) w
  rs : ∀ y ∈ c.rl, Fresh lo y.wa y.r.slot.sig.wots w ∧ Fresh lo y.pa y.r.slot.sig.path w
  co : FreshV lo c.ca (intV c.coins) w
  sp : Fresh lo c.sa c.sp w
  pp : Fresh lo c.pa c.pp w
theorem CertO.fresh {B rb t lo : Nat} {c : CertE} {w w' : World} (h : CertO B rb t c w) (hl : lo ≤ B) (hk : ∀ k, k < w.heap.size → B ≤ k → k ≠ t → k ≠ rb → w'.heap[k]? = w.heap[k]?) (hs : w.heap.size ≤ w'.heap.size) : FreshC lo c w' :=
  ⟨h.r.fresh hl hk hs, fun y hy => ⟨(h.rs y hy).1.fresh hl hk hs, (h.rs y hy).2.fresh hl hk hs⟩, h.co.fresh hl hk hs, h.sp.fresh hl hk hs, h.pp.fresh hl hk hs⟩

/-- what read answers -/
def AnsCert (S : (List UInt8)) (w : World) (e : Ending) (w' : World) : Prop := match wholeG certC.get S with
  | .ok p => (∃ x : CertE, x.r = p ∧ e = .returned (.tuple #[certV x, .nilIface]) ∧ FreshC w.heap.size x w') ∧ Below w.heap.size w w'
  | .error (c, b) => c ≠ 0 ∧ (∃ v, e = .returned (.tuple #[.agg #[.string ⟨#[]⟩, .int .u64 0, .slice none 0 0, .slice none 0 0, .slice none 0 0, .slice none 0 0], v]) ∧ ErrV w.heap.size c b v w') ∧ Below w.heap.size w w'
set_option maxRecDepth 100000 in
set_option maxHeartbeats 4000000 in
theorem freadCert_any (S : (List UInt8)) (w : World) (hG : GlobW w) (hS : S.length ≤ 1000000) (hgl : 4 ≤ w.heap.size) :
    Calls Tryz.prog 68 #[.string ⟨S.toArray⟩, .func (.func 58) #[] #[]] w (AnsCert S w) := by
  have hmf : ∀ (fn : Fn) (first cap : Array Value) (w : World), (Instr.makeFunc fn first cap).run Tryz.prog w = .ok (.func fn first cap) w := fun _ _ _ _ => rfl
  have hb0 : Below w.heap.size w ((w.alloc (.cells #[.string ⟨#[]⟩, .int .u64 0, .slice none 0 0, .slice none 0 0, .slice none 0 0, .slice none 0 0] 60)).alloc (.cells #[.nilIface] 34)) := (by0 w _).alloc (by simp) _
  have hz0 : ((w.alloc (.cells #[.string ⟨#[]⟩, .int .u64 0, .slice none 0 0, .slice none 0 0, .slice none 0 0, .slice none 0 0] 60)).alloc (.cells #[.nilIface] 34)).heap.size = w.heap.size + 1 + 1 := by simp
  have hx0 : ((w.alloc (.cells #[.string ⟨#[]⟩, .int .u64 0, .slice none 0 0, .slice none 0 0, .slice none 0 0, .slice none 0 0] 60)).alloc (.cells #[.nilIface] 34)).heap[w.heap.size]? = some (.cells #[.string ⟨#[]⟩, .int .u64 0, .slice none 0 0, .slice none 0 0, .slice none 0 0, .slice none 0 0] 60 (0, 0)) := lit_old _ (heap_alloc_new w _)
  have he0 : ((w.alloc (.cells #[.string ⟨#[]⟩, .int .u64 0, .slice none 0 0, .slice none 0 0, .slice none 0 0, .slice none 0 0] 60)).alloc (.cells #[.nilIface] 34)).heap[w.heap.size + 1]? = some (.cells #[.nilIface] 34 (0, 0)) := by
    rw [show w.heap.size + 1 = (w.alloc (.cells #[.string ⟨#[]⟩, .int .u64 0, .slice none 0 0, .slice none 0 0, .slice none 0 0, .slice none 0 0] 60)).heap.size by simp]; exact heap_alloc_new _ _
  have HB0 := Lib.hid hb0
  have HZ0 := Lib.hid hz0
  have HX0 := Lib.hid hx0
  have HE0 := Lib.hid he0
  have HG := Lib.hid hG
  have HSL := Lib.hid hS
  have HGL := Lib.hid hgl
  have HU := Lib.hid (reader_c.new S 10240 _ (hG.u.next hb0) hS (by decide) (by decide))
  clear hb0 hz0 hx0 he0 hG hS hgl
  go_enter_defers Tryz.func68, Tryz.ntmps68
  go_upto_region 2 with fail
  generalize (w.alloc (.cells #[.string ⟨#[]⟩, .int .u64 0, .slice none 0 0, .slice none 0 0, .slice none 0 0, .slice none 0 0] 60)).alloc (.cells #[.nilIface] 34) = w1 at *
  go_upto_region 3 with (go_at_call 86; refine HU.out.mono ?_; rintro e w2 ⟨rb, hrb, rfl, hr2, hb2⟩)
  have hz0 := HZ0.out
  have hb02 : Below w.heap.size w w2 := HB0.out.trans (hb2.mono (by omega))
  have hx2 := (hb2.block w.heap.size (by omega)).trans HX0.out
  have he2 := (hb2.block (w.heap.size + 1) (by omega)).trans HE0.out
  have hrl : rb < w2.heap.size := lit_lt hr2.r
  have hN : (w2.alloc (.cells #[.pointer (some ⟨rb, 0, none⟩)] 158)).drew.heap[w2.heap.size]? = some (.cells #[.pointer (some ⟨rb, 0, none⟩)] 158 (0, 0)) := heap_alloc_new w2 _
  have hb23 : Below w2.heap.size w2 (w2.alloc (.cells #[.pointer (some ⟨rb, 0, none⟩)] 158)).drew := (by0 w2 _).drew
  have HS3 : Hid (w2.heap.size < (w2.alloc (.cells #[.pointer (some ⟨rb, 0, none⟩)] 158)).drew.heap.size) := Lib.hid (by show _ < (w2.alloc _).heap.size; rw [World.size_alloc]; omega)
  refine wp_cel (X := .pointer (some ⟨w.heap.size, 0, none⟩)) (Y := .pointer (some ⟨w.heap.size + 1, 0, none⟩)) (D := [{ target := .fn (.func 116) #[.pointer (some ⟨w.heap.size, 0, none⟩), .pointer (some ⟨w.heap.size + 1, 0, none⟩)], args := #[] }]) ?_
  refine wp_region_held_drew (S := fun w' => w'.heap[w2.heap.size]? = some (.cells #[.pointer (some ⟨rb, 0, none⟩)] 158 (0, 0))) (by kernel_rfl) hN (fun hH => ?_)
  generalize (w2.alloc (.cells #[.pointer (some ⟨rb, 0, none⟩)] 158)).drew = w3 at *
  have HR := Lib.hid (cert_mk w3.heap.size w.heap.size 0 w3 (Nat.le_refl _))
  have HB03 := Lib.hid (hb02.trans (hb23.mono hb02.size))
  have HX3 := Lib.hid ((hb23.block w.heap.size (lit_lt hx2)).trans hx2)
  have HE3 := Lib.hid ((hb23.block (w.heap.size + 1) (lit_lt he2)).trans he2)
  have HR3 : Hid (RQ rb S 0 10240 w3) := Lib.hid ⟨(hb23.block rb hrl).trans hr2.r, hr2.m⟩
  have HRL : Hid (w.heap.size + 1 + 1 ≤ rb ∧ rb < w2.heap.size) := Lib.hid (by omega)
  clear hb02 hx2 he2 hb23 hN hr2 hb2 hrl
  refine wpAnyH_take (i := 0) (oi := ⟨some 12, .load 158 (.tmp 6), _, _, _, none⟩) (v := .agg #[.pointer (some ⟨rb, 0, none⟩)]) rfl (by kernel_rfl) (by kernel_rfl) (by kernel_rfl) (Cel.put (by decide)) (Or.inl ⟨by rfl, fun w1 hS => by have c0 := (lit_cell hS 0).trans rfl; go_simp⟩) hH ?_
  try simp only [Act.put, List.setIfInBounds_toArray, List.set_cons_succ, List.set_cons_zero]
  refine wpAnyH_take (i := 1) (oi := ⟨some 13, .move (.tmp 1), _, _, _, none⟩) (v := .func (.func 58) #[] #[]) rfl (by kernel_rfl) (by kernel_rfl) (by kernel_rfl) (Cel.put (by decide)) (Or.inl ⟨by rfl, fun _ _ => rfl⟩) hH ?_
  try simp only [Act.put, List.setIfInBounds_toArray, List.set_cons_succ, List.set_cons_zero]
  refine wpAnyH_ready (rs := [2]) (by kernel_rfl) (by simp) (AllReadyH.cons (o := ⟨some 14, .call ⟨.value (.tmp 13), #[.tmp 4], #[_]⟩, _, _, _, none⟩) rfl (fun K hK => ?_) AllReadyH.nil)
  have HK := Lib.hid hK
  clear hK
  go_simp
  refine HR.out.mono ?_
  rintro e w4 ⟨fb, fs, rfl, hK4, hb4⟩
  have hH4 := (hb4.block w2.heap.size (lit_lt hH)).trans hH
  obtain ⟨xs, hfs, hxn, hxg, hxf, hxfin⟩ := cert_rd (B := w.heap.size + 1 + 1) (S := S) (rb := rb) hK4 ⟨by omega, by have := lit_lt HX3.out; have := hb4.size; omega⟩ (by have := HRL.out; have := HS3.out; omega) (by have := HRL.out; omega) HSL.out ⟨by have := HRL.out; have := HGL.out; omega, HGL.out⟩
  have HB04 := Lib.hid (HB03.out.trans (hb4.mono HB03.out.size))
  have HX4 := Lib.hid ((hb4.block w.heap.size (lit_lt HX3.out)).trans HX3.out)
  have HE4 := Lib.hid ((hb4.block (w.heap.size + 1) (lit_lt HE3.out)).trans HE3.out)
  have HR4 : Hid (RQ rb S 0 10240 w4) := Lib.hid ⟨(hb4.block rb (by have := HRL.out; have := HS3.out; omega)).trans HR3.out.r, HR3.out.m⟩
  have hflds := cert_flds
  have hGU4 := HG.out.u.next HB04.out
  have hrow := wrow_any w4 rb w.heap.size fb 0 6 S (RpCert (w.heap.size + 1 + 1) rb w.heap.size) (fun p u u' h ho => h.next (by have := HRL.out; omega) (Duo.only ho)) xs hxf zCert (by rw [hxg]; exact cert_flds) 0 w4 (by have := HRL.out; have := HGL.out; omega) HSL.out (by rw [hxn]; decide) (by rw [← hfs]; exact hK4.r.row) (lit_lt hK4.r) (by have := hK4.l; have := HRL.out; have := HS3.out; omega) (by have := lit_lt HX4.out; exact this) ⟨Duo.refl _ _ _, hGU4, ⟨⟨by have := lit_lt HE4.out; omega, by have := lit_lt HR4.out.r; omega, by omega⟩, ⟨[], 0, [], [], [], [], none, 0, none, 0, none, 0, none, 0⟩, rfl, HX4.out, ⟨.inl ⟨rfl, rfl, rfl⟩, (fun _ h => by cases h), .inl ⟨rfl, rfl, rfl⟩, .inl ⟨rfl, rfl, rfl⟩, .inl ⟨rfl, rfl, rfl⟩⟩⟩, HR4.out, Nat.zero_le _⟩
  rw [hxg, mapG_congr cert_flds hxfin, hxn, List.drop_zero] at hrow
  have HGU4 := Lib.hid hGU4
  have HROW := Lib.hid hrow
  clear hrow hfs hxn hxg hxf hxfin hK4 hb4 hflds hGU4
  refine HK.out.out _ _ hH4 (fun _ => ?_)
  clear HK K
  try simp only [Act.put, List.setIfInBounds_toArray, List.set_cons_succ, List.set_cons_zero]
  refine wpAnyH_ready (rs := [3]) (by kernel_rfl) (by simp) (AllReadyH.cons (o := ⟨some 15, .call ⟨.value (.func 87), #[.tmp 12, .tmp 14], #[158, 95]⟩, _, _, _, none⟩) rfl (fun K hK => ?_) AllReadyH.nil)
  have HK := Lib.hid hK
  clear hK
  go_simp
  refine HROW.out.mono ?_
  intro e w5 h5
  change Read rb w.heap.size S (RpCert (w.heap.size + 1 + 1) rb w.heap.size) 0 w4.heap.size w4 (certC.get S 0) e w5 at h5
  cases hres : certC.get S 0 with
  | error f =>
    rw [hres] at h5
    obtain ⟨hc, ⟨g, hg, rfl, hf0, hf1⟩, hd, q, _, ce, _, hq, _⟩ := h5
    refine ⟨⟨rfl, rfl, rfl⟩, fun tm hm4 hm5 => ?_⟩
    have hrb := HRL.out
    have hE5 := (hd.block (w.heap.size + 1) (lit_lt HE4.out) (by omega) (by omega)).trans HE4.out
    have hgl5 := World.block_lt_of_cell? _ _ hf0
    have hg4 := lit_lt HE4.out
    refine leaves_cons (f := 116) (args := #[.pointer (some ⟨w.heap.size, 0, none⟩), .pointer (some ⟨w.heap.size + 1, 0, none⟩)]) (by simp) (by simp [go_sem]) ?_
    refine (readCert1_catch g w.heap.size (w.heap.size + 1) _ _ _ _ _ _ .nilIface [] w5 (HGU4.out.duo hd (by have := HGL.out; omega) HGL.out).e hgl5 (by omega) hq hE5).mono ?_
    rintro e u' w'' ⟨rfl, rfl, hC⟩
    have z0 := (lit_cell hC.x 0).trans rfl; have z1 := (lit_cell hC.x 1).trans rfl; have z2 := (lit_cell hC.x 2).trans rfl; have z3 := (lit_cell hC.x 3).trans rfl; have z4 := (lit_cell hC.x 4).trans rfl; have z5 := (lit_cell hC.x 5).trans rfl
    have y0 := (lit_cell hC.e 0).trans rfl
    refine ⟨.tuple #[.agg #[.string ⟨#[]⟩, .int .u64 0, .slice none 0 0, .slice none 0 0, .slice none 0 0, .slice none 0 0], .iface 106 (.pointer (some ⟨g, 0, none⟩))], by simp [results, Tryz.results68, go_sem, hm4, hm5, z0, z1, z2, z3, z4, z5, y0], ?_⟩
    have hgb : ∀ o, w''.cell? ⟨g, o, none⟩ = w5.cell? ⟨g, o, none⟩ := fun o => World.cell?_of_block (a := ⟨g, o, none⟩) (hC.d.block g hgl5 (by omega) (by omega))
    rw [AnsCert, wholeG, hres]
    exact ⟨hc, ⟨_, rfl, by rw [ErrV, if_neg (by omega)]; exact ⟨g, by omega, rfl, (hgb 0).trans hf0, (hgb 1).trans hf1⟩⟩, below_duo (below_duo HB04.out hd (by omega) (Nat.le_refl _)) hC.d (Nat.le_refl _) (by omega)⟩
  | ok q =>
    obtain ⟨q, k⟩ := q
    rw [hres] at h5
    obtain ⟨rfl, hq, hR5, hk, hd⟩ := h5
    obtain ⟨_, ce, hce, hq, hO⟩ := hq
    have HO := Lib.hid hO
    have HCE := Lib.hid hce
    clear hO hce
    have hrb := HRL.out
    have hg4 := lit_lt HE4.out
    have hH5 := (hd.block w2.heap.size (lit_lt hH4) (by omega) (by omega)).trans hH4
    refine HK.out.out _ _ hH5 (fun _ => ?_)
    clear HK K
    try simp only [Act.put, List.setIfInBounds_toArray, List.set_cons_succ, List.set_cons_zero]
    refine wpAnyH_done (by kernel_rfl) ?_ _
    change Exit.then _ (bodyPostD Tryz.prog Tryz.f68 (AnsCert S w)) Exit.normal _ _
    have hGU5 := HGU4.out.duo hd (by have := HGL.out; omega) HGL.out
    have HB05 := Lib.hid (below_duo HB04.out hd (by omega) (Nat.le_refl _))
    have hE5 := (hd.block (w.heap.size + 1) (lit_lt HE4.out) (by omega) (by omega)).trans HE4.out
    have HF := Lib.hid (reader_c.fin rb S (0 + k) 10240 w5 hR5 hGU5 HSL.out hk)
    have HQ := Lib.hid hq
    have HE5 := Lib.hid hE5
    have HGU5 := Lib.hid hGU5
    have HLT := Lib.hid (show w.heap.size + 1 < w5.heap.size from lit_lt hE5)
    have c0 := (lit_cell hH5 0).trans rfl
    clear hq hR5 hd hrb hg4 hH5 hGU5 hE5 hk hH hH4 hmf
    by_cases hl : 0 + k < S.length
    · have HA : Hid (wholeG certC.get S = .error (5, k)) := Lib.hid (by rw [wholeG, hres]; exact if_pos (by omega))
      rw [if_pos hl] at HF
      clear hl hres
      go_wp2_with (go_at_call 88; refine HF.out.mono ?_; rintro e w6 ⟨v, rfl, hv, hb6⟩; obtain ⟨g, rfl, g1, hg, hgg, hf0, hf1⟩ := hv.shape (by decide); cases hgg)
      have hX6 := (hb6.block w.heap.size (by have := HLT.out; omega)).trans HQ.out
      have hE6 := (hb6.block (w.heap.size + 1) HLT.out).trans HE5.out
      have hgl5 := World.block_lt_of_cell? _ _ hf0
      have hlt := HLT.out
      refine leaves_cons (f := 116) (args := #[.pointer (some ⟨w.heap.size, 0, none⟩), .pointer (some ⟨w.heap.size + 1, 0, none⟩)]) (by simp) (by simp [go_sem]) ?_
      refine (readCert1_catch g w.heap.size (w.heap.size + 1) _ _ _ _ _ _ .nilIface [] w6 (HGU5.out.next hb6).e hgl5 (by omega) hX6 hE6).mono ?_
      rintro e u' w'' ⟨rfl, rfl, hC⟩
      have z0 := (lit_cell hC.x 0).trans rfl; have z1 := (lit_cell hC.x 1).trans rfl; have z2 := (lit_cell hC.x 2).trans rfl; have z3 := (lit_cell hC.x 3).trans rfl; have z4 := (lit_cell hC.x 4).trans rfl; have z5 := (lit_cell hC.x 5).trans rfl
      have y0 := (lit_cell hC.e 0).trans rfl
      refine ⟨.tuple #[.agg #[.string ⟨#[]⟩, .int .u64 0, .slice none 0 0, .slice none 0 0, .slice none 0 0, .slice none 0 0], .iface 106 (.pointer (some ⟨g, 0, none⟩))], by simp [results, Tryz.results68, go_sem, z0, z1, z2, z3, z4, z5, y0], ?_⟩
      have hgb : ∀ o, w''.cell? ⟨g, o, none⟩ = w6.cell? ⟨g, o, none⟩ := fun o => World.cell?_of_block (a := ⟨g, o, none⟩) (hC.d.block g hgl5 (by omega) (by omega))
      rw [AnsCert, HA.out]
      exact ⟨by decide, ⟨_, rfl, by rw [ErrV, if_neg (by decide)]; exact ⟨g, by omega, rfl, (hgb 0).trans hf0, (hgb 1).trans (hf1.trans (by rw [Nat.zero_add]))⟩⟩, below_duo (HB05.out.trans (hb6.mono (by omega))) hC.d (Nat.le_refl _) (by omega)⟩
    · have HA : Hid (wholeG certC.get S = .ok q) := Lib.hid (by rw [wholeG, hres]; exact if_neg (by omega))
      rw [if_neg hl] at HF
      clear hl hres
      go_wp2_with (go_at_call 88; refine HF.out.mono ?_; rintro e w6 ⟨v, rfl, hv, hb6⟩; have hnil := hv.nil rfl; subst hnil; have hX6 := (hb6.block w.heap.size (by have := HLT.out; omega)).trans HQ.out; have hE6 := (hb6.block (w.heap.size + 1) HLT.out).trans HE5.out; simp only [certQ] at hX6; have p0 := (lit_cell hX6 0).trans rfl; have q0 := lit_free hX6 0; have p1 := (lit_cell hX6 1).trans rfl; have q1 := lit_free hX6 1; have p2 := (lit_cell hX6 2).trans rfl; have q2 := lit_free hX6 2; have p3 := (lit_cell hX6 3).trans rfl; have q3 := lit_free hX6 3; have p4 := (lit_cell hX6 4).trans rfl; have q4 := lit_free hX6 4; have p5 := (lit_cell hX6 5).trans rfl; have q5 := lit_free hX6 5; have y0 := (lit_cell hE6 0).trans rfl; have y1 := lit_free hE6 0)
      have hlt := HLT.out
      have hx7 := lit_set (k := 5) (.slice ce.pa ce.pp.length ce.pc) (lit_set (k := 4) (.slice ce.sa ce.sp.length ce.sc) (lit_set (k := 3) (.slice ce.ca ce.coins.length ce.cc) (lit_set (k := 2) (.slice ce.ra ce.rl.length ce.rc) (lit_set (k := 1) (.int .u64 (ce.signed : Int)) (lit_set (k := 0) (.string ⟨ce.root.toArray⟩) (hX6))))))
      have ho7 : Only w.heap.size w6 (((((((w6).setCell ⟨w.heap.size, 0, none⟩ (.string ⟨ce.root.toArray⟩)).setCell ⟨w.heap.size, 1, none⟩ (.int .u64 (ce.signed : Int))).setCell ⟨w.heap.size, 2, none⟩ (.slice ce.ra ce.rl.length ce.rc)).setCell ⟨w.heap.size, 3, none⟩ (.slice ce.ca ce.coins.length ce.cc)).setCell ⟨w.heap.size, 4, none⟩ (.slice ce.sa ce.sp.length ce.sc)).setCell ⟨w.heap.size, 5, none⟩ (.slice ce.pa ce.pp.length ce.pc)) := (((((((Only.refl w.heap.size w6).trans (Only.set w.heap.size 0 (.string ⟨ce.root.toArray⟩) (w6))).trans (Only.set w.heap.size 1 (.int .u64 (ce.signed : Int)) ((w6).setCell ⟨w.heap.size, 0, none⟩ (.string ⟨ce.root.toArray⟩)))).trans (Only.set w.heap.size 2 (.slice ce.ra ce.rl.length ce.rc) (((w6).setCell ⟨w.heap.size, 0, none⟩ (.string ⟨ce.root.toArray⟩)).setCell ⟨w.heap.size, 1, none⟩ (.int .u64 (ce.signed : Int))))).trans (Only.set w.heap.size 3 (.slice ce.ca ce.coins.length ce.cc) ((((w6).setCell ⟨w.heap.size, 0, none⟩ (.string ⟨ce.root.toArray⟩)).setCell ⟨w.heap.size, 1, none⟩ (.int .u64 (ce.signed : Int))).setCell ⟨w.heap.size, 2, none⟩ (.slice ce.ra ce.rl.length ce.rc)))).trans (Only.set w.heap.size 4 (.slice ce.sa ce.sp.length ce.sc) (((((w6).setCell ⟨w.heap.size, 0, none⟩ (.string ⟨ce.root.toArray⟩)).setCell ⟨w.heap.size, 1, none⟩ (.int .u64 (ce.signed : Int))).setCell ⟨w.heap.size, 2, none⟩ (.slice ce.ra ce.rl.length ce.rc)).setCell ⟨w.heap.size, 3, none⟩ (.slice ce.ca ce.coins.length ce.cc)))).trans (Only.set w.heap.size 5 (.slice ce.pa ce.pp.length ce.pc) ((((((w6).setCell ⟨w.heap.size, 0, none⟩ (.string ⟨ce.root.toArray⟩)).setCell ⟨w.heap.size, 1, none⟩ (.int .u64 (ce.signed : Int))).setCell ⟨w.heap.size, 2, none⟩ (.slice ce.ra ce.rl.length ce.rc)).setCell ⟨w.heap.size, 3, none⟩ (.slice ce.ca ce.coins.length ce.cc)).setCell ⟨w.heap.size, 4, none⟩ (.slice ce.sa ce.sp.length ce.sc))))
      have he7 := (ho7.block (w.heap.size + 1) (lit_lt hE6) (by omega)).trans hE6
      have hd7 : Below w.heap.size w (((((((w6).setCell ⟨w.heap.size, 0, none⟩ (.string ⟨ce.root.toArray⟩)).setCell ⟨w.heap.size, 1, none⟩ (.int .u64 (ce.signed : Int))).setCell ⟨w.heap.size, 2, none⟩ (.slice ce.ra ce.rl.length ce.rc)).setCell ⟨w.heap.size, 3, none⟩ (.slice ce.ca ce.coins.length ce.cc)).setCell ⟨w.heap.size, 4, none⟩ (.slice ce.sa ce.sp.length ce.sc)).setCell ⟨w.heap.size, 5, none⟩ (.slice ce.pa ce.pp.length ce.pc)) := below_duo (HB05.out.trans (hb6.mono (by omega))) (Duo.only (x := w.heap.size) ho7) (Nat.le_refl _) (Nat.le_refl _)
      generalize ((((((w6).setCell ⟨w.heap.size, 0, none⟩ (.string ⟨ce.root.toArray⟩)).setCell ⟨w.heap.size, 1, none⟩ (.int .u64 (ce.signed : Int))).setCell ⟨w.heap.size, 2, none⟩ (.slice ce.ra ce.rl.length ce.rc)).setCell ⟨w.heap.size, 3, none⟩ (.slice ce.ca ce.coins.length ce.cc)).setCell ⟨w.heap.size, 4, none⟩ (.slice ce.sa ce.sp.length ce.sc)).setCell ⟨w.heap.size, 5, none⟩ (.slice ce.pa ce.pp.length ce.pc) = w7 at *
      have hx8 := (lit_far (w := w7) (b := w.heap.size + 1) (c := w.heap.size) (k := 0) .nilIface (by omega)).trans hx7
      have he8 := lit_set (k := 0) .nilIface he7
      have hk8 : ∀ k, k < w6.heap.size → k ≠ w.heap.size → k ≠ w.heap.size + 1 → (w7.setCell ⟨w.heap.size + 1, 0, none⟩ .nilIface).heap[k]? = w6.heap[k]? := fun k hk h1 h2 => (lit_far _ h2).trans (ho7.block k hk h1)
      have hs8 : w6.heap.size ≤ (w7.setCell ⟨w.heap.size + 1, 0, none⟩ .nilIface).heap.size := by simp; exact ho7.size
      have hb8 : Below w.heap.size w (w7.setCell ⟨w.heap.size + 1, 0, none⟩ .nilIface) := hd7.setCell (by simp) _
      generalize w7.setCell ⟨w.heap.size + 1, 0, none⟩ .nilIface = w8 at *
      refine leaves_cons (f := 116) (args := #[.pointer (some ⟨w.heap.size, 0, none⟩), .pointer (some ⟨w.heap.size + 1, 0, none⟩)]) (by simp) (by simp [go_sem]) ?_
      refine (readCert1_idle w.heap.size (w.heap.size + 1) w8).mono ?_
      rintro e u' w'' ⟨rfl, rfl, rfl⟩
      have z0 := (lit_cell hx8 0).trans rfl; have z1 := (lit_cell hx8 1).trans rfl; have z2 := (lit_cell hx8 2).trans rfl; have z3 := (lit_cell hx8 3).trans rfl; have z4 := (lit_cell hx8 4).trans rfl; have z5 := (lit_cell hx8 5).trans rfl
      have z := (lit_cell he8 0).trans rfl
      refine ⟨.tuple #[certV ce, .nilIface], by simp [results, Tryz.results68, go_sem, z0, z1, z2, z3, z4, z5, z], ?_⟩
      rw [AnsCert, HA.out]
      have hs6 := hb6.size
      exact ⟨⟨ce, HCE.out, rfl, HO.out.fresh (by omega) (fun k hk hB ht _ => (hk8 k (by omega) ht (by omega)).trans (hb6.block k hk)) (by omega)⟩, hb8⟩
end Go.Proofs.YtbkiijndhjmkdaaGreatDoor
/- ReadCert of the program. -/
namespace Go.Proofs.YtbkiijndhjmkdaaGreatDoor
open Go.RowKit

theorem FreshC.keep {lo lo' : Nat} {c : CertE} {w w' : World} (h : FreshC lo c w) (hl : lo' ≤ lo) (hk : ∀ k, lo ≤ k → w'.heap[k]? = w.heap[k]?) (hs : w.heap.size ≤ w'.heap.size) : FreshC lo' c w' :=
  ⟨h.r.keep hl hk hs, fun y hy => ⟨(h.rs y hy).1.keep hl hk hs, (h.rs y hy).2.keep hl hk hs⟩, h.co.keep hl hk hs, h.sp.keep hl hk hs, h.pp.keep hl hk hs⟩
theorem AnsCert.open {S : (List UInt8)} {w1 w2 : World} {e : Ending} (h : AnsCert S w1 e w2) : Below w1.heap.size w1 w2 ∧ ∃ (x : CertE) (v : Value), e = .returned (.tuple #[certV x, v]) ∧ ∀ w w'' : World, w.heap.size ≤ w1.heap.size → (∀ k, w1.heap.size ≤ k → w''.heap[k]? = w2.heap[k]?) → w2.heap.size ≤ w''.heap.size → Below w.heap.size w w'' → AnsCert S w (.returned (.tuple #[certV x, v])) w'' := by
  rw [AnsCert] at h
  rcases hr : wholeG certC.get S with ⟨c, b⟩ | q
  · rw [hr] at h
    obtain ⟨hc, ⟨v, rfl, hv⟩, hb⟩ := h
    refine ⟨hb, ⟨[], 0, [], [], [], [], none, 0, none, 0, none, 0, none, 0⟩, v, rfl, fun w w'' hl hk _ hb2 => ?_⟩
    rw [AnsCert, hr]
    refine ⟨hc, ⟨v, rfl, ?_⟩, hb2⟩
    unfold ErrV at *
    rw [if_neg (by omega)] at *
    obtain ⟨g, h0, h1, h2, h3⟩ := hv
    have hg : ∀ o, w''.cell? ⟨g, o, none⟩ = w2.cell? ⟨g, o, none⟩ := fun o => World.cell?_of_block (a := ⟨g, o, none⟩) (hk g h0)
    exact ⟨g, by omega, h1, (hg 0).trans h2, (hg 1).trans h3⟩
  · rw [hr] at h
    obtain ⟨⟨x, hx, rfl, h1⟩, hb⟩ := h
    refine ⟨hb, x, _, rfl, fun w w'' hl hk hs hb2 => ?_⟩
    rw [AnsCert, hr]
    exact ⟨⟨x, hx, rfl, h1.keep hl hk hs⟩, hb2⟩
set_option maxRecDepth 100000 in
set_option maxHeartbeats 1000000 in
theorem wreadCert_any (S : (List UInt8)) (w : World) (hG : GlobW w) (hS : S.length ≤ 1000000) (hgl : 4 ≤ w.heap.size) : Calls Tryz.prog 27 #[.string ⟨S.toArray⟩] w (AnsCert S w) := by
  have hb0 : Below w.heap.size w (w.alloc (.cells #[.string ⟨#[]⟩, .int .u64 0, .slice none 0 0, .slice none 0 0, .slice none 0 0, .slice none 0 0] 60)) := by0 w _
  have HN := Lib.hid (heap_alloc_new w (.cells #[.string ⟨#[]⟩, .int .u64 0, .slice none 0 0, .slice none 0 0, .slice none 0 0, .slice none 0 0] 60))
  have HZ := Lib.hid (show (w.alloc (.cells #[.string ⟨#[]⟩, .int .u64 0, .slice none 0 0, .slice none 0 0, .slice none 0 0, .slice none 0 0] 60)).heap.size = w.heap.size + 1 by simp)
  have HC := Lib.hid (freadCert_any S _ (hG.next hb0) hS (by have := hb0.size; omega))
  have HB := Lib.hid hb0
  clear hG hS hgl hb0
  go_enter Tryz.func27, Tryz.ntmps27
  go_upto_region 1 with fail
  change Code.wp _ _ _ _ (w.alloc (.cells #[.string ⟨#[]⟩, .int .u64 0, .slice none 0 0, .slice none 0 0, .slice none 0 0, .slice none 0 0] 60))
  generalize w.alloc (.cells #[.string ⟨#[]⟩, .int .u64 0, .slice none 0 0, .slice none 0 0, .slice none 0 0, .slice none 0 0] 60) = w1 at *
  go_wp2_with (go_at_call 68; refine HC.out.mono ?_; intro e w2 h; obtain ⟨hb2, x, v, rfl, hA⟩ := h.open; have hX6 := (hb2.block w.heap.size (lit_lt HN.out)).trans HN.out; have p0 := (lit_cell hX6 0).trans rfl; have q0 := lit_free hX6 0; have p1 := (lit_cell hX6 1).trans rfl; have q1 := lit_free hX6 1; have p2 := (lit_cell hX6 2).trans rfl; have q2 := lit_free hX6 2; have p3 := (lit_cell hX6 3).trans rfl; have q3 := lit_free hX6 3; have p4 := (lit_cell hX6 4).trans rfl; have q4 := lit_free hX6 4; have p5 := (lit_cell hX6 5).trans rfl; have q5 := lit_free hX6 5)
  have hz := HZ.out
  have hx7 := lit_set (k := 5) (.slice x.pa x.pp.length x.pc) (lit_set (k := 4) (.slice x.sa x.sp.length x.sc) (lit_set (k := 3) (.slice x.ca x.coins.length x.cc) (lit_set (k := 2) (.slice x.ra x.rl.length x.rc) (lit_set (k := 1) (.int .u64 (x.signed : Int)) (lit_set (k := 0) (.string ⟨x.root.toArray⟩) (hX6))))))
  have ho7 : Only w.heap.size w2 (((((((w2).setCell ⟨w.heap.size, 0, none⟩ (.string ⟨x.root.toArray⟩)).setCell ⟨w.heap.size, 1, none⟩ (.int .u64 (x.signed : Int))).setCell ⟨w.heap.size, 2, none⟩ (.slice x.ra x.rl.length x.rc)).setCell ⟨w.heap.size, 3, none⟩ (.slice x.ca x.coins.length x.cc)).setCell ⟨w.heap.size, 4, none⟩ (.slice x.sa x.sp.length x.sc)).setCell ⟨w.heap.size, 5, none⟩ (.slice x.pa x.pp.length x.pc)) := (((((((Only.refl w.heap.size w2).trans (Only.set w.heap.size 0 (.string ⟨x.root.toArray⟩) (w2))).trans (Only.set w.heap.size 1 (.int .u64 (x.signed : Int)) ((w2).setCell ⟨w.heap.size, 0, none⟩ (.string ⟨x.root.toArray⟩)))).trans (Only.set w.heap.size 2 (.slice x.ra x.rl.length x.rc) (((w2).setCell ⟨w.heap.size, 0, none⟩ (.string ⟨x.root.toArray⟩)).setCell ⟨w.heap.size, 1, none⟩ (.int .u64 (x.signed : Int))))).trans (Only.set w.heap.size 3 (.slice x.ca x.coins.length x.cc) ((((w2).setCell ⟨w.heap.size, 0, none⟩ (.string ⟨x.root.toArray⟩)).setCell ⟨w.heap.size, 1, none⟩ (.int .u64 (x.signed : Int))).setCell ⟨w.heap.size, 2, none⟩ (.slice x.ra x.rl.length x.rc)))).trans (Only.set w.heap.size 4 (.slice x.sa x.sp.length x.sc) (((((w2).setCell ⟨w.heap.size, 0, none⟩ (.string ⟨x.root.toArray⟩)).setCell ⟨w.heap.size, 1, none⟩ (.int .u64 (x.signed : Int))).setCell ⟨w.heap.size, 2, none⟩ (.slice x.ra x.rl.length x.rc)).setCell ⟨w.heap.size, 3, none⟩ (.slice x.ca x.coins.length x.cc)))).trans (Only.set w.heap.size 5 (.slice x.pa x.pp.length x.pc) ((((((w2).setCell ⟨w.heap.size, 0, none⟩ (.string ⟨x.root.toArray⟩)).setCell ⟨w.heap.size, 1, none⟩ (.int .u64 (x.signed : Int))).setCell ⟨w.heap.size, 2, none⟩ (.slice x.ra x.rl.length x.rc)).setCell ⟨w.heap.size, 3, none⟩ (.slice x.ca x.coins.length x.cc)).setCell ⟨w.heap.size, 4, none⟩ (.slice x.sa x.sp.length x.sc))))
  have hd7 : Below w.heap.size w (((((((w2).setCell ⟨w.heap.size, 0, none⟩ (.string ⟨x.root.toArray⟩)).setCell ⟨w.heap.size, 1, none⟩ (.int .u64 (x.signed : Int))).setCell ⟨w.heap.size, 2, none⟩ (.slice x.ra x.rl.length x.rc)).setCell ⟨w.heap.size, 3, none⟩ (.slice x.ca x.coins.length x.cc)).setCell ⟨w.heap.size, 4, none⟩ (.slice x.sa x.sp.length x.sc)).setCell ⟨w.heap.size, 5, none⟩ (.slice x.pa x.pp.length x.pc)) := below_duo (HB.out.trans (hb2.mono (by omega))) (Duo.only (x := w.heap.size) ho7) (Nat.le_refl _) (Nat.le_refl _)
  have hsz : (((((((w2).setCell ⟨w.heap.size, 0, none⟩ (.string ⟨x.root.toArray⟩)).setCell ⟨w.heap.size, 1, none⟩ (.int .u64 (x.signed : Int))).setCell ⟨w.heap.size, 2, none⟩ (.slice x.ra x.rl.length x.rc)).setCell ⟨w.heap.size, 3, none⟩ (.slice x.ca x.coins.length x.cc)).setCell ⟨w.heap.size, 4, none⟩ (.slice x.sa x.sp.length x.sc)).setCell ⟨w.heap.size, 5, none⟩ (.slice x.pa x.pp.length x.pc)).heap.size = w2.heap.size := by simp
  generalize ((((((w2).setCell ⟨w.heap.size, 0, none⟩ (.string ⟨x.root.toArray⟩)).setCell ⟨w.heap.size, 1, none⟩ (.int .u64 (x.signed : Int))).setCell ⟨w.heap.size, 2, none⟩ (.slice x.ra x.rl.length x.rc)).setCell ⟨w.heap.size, 3, none⟩ (.slice x.ca x.coins.length x.cc)).setCell ⟨w.heap.size, 4, none⟩ (.slice x.sa x.sp.length x.sc)).setCell ⟨w.heap.size, 5, none⟩ (.slice x.pa x.pp.length x.pc) = w7 at *
  have z0 := (lit_cell hx7 0).trans rfl; have z1 := (lit_cell hx7 1).trans rfl; have z2 := (lit_cell hx7 2).trans rfl; have z3 := (lit_cell hx7 3).trans rfl; have z4 := (lit_cell hx7 4).trans rfl; have z5 := (lit_cell hx7 5).trans rfl
  refine bodyPost_ret (v := .tuple #[certV x, v]) (by simp [results, Tryz.results27, go_sem, z0, z1, z2, z3, z4, z5]) rfl (hA w w7 (by omega) (fun k hk => ?_) (by omega) hd7)
  by_cases hl : k < w2.heap.size
  · exact ho7.block k hl (by omega)
  · rw [Array.getElem?_eq_none (xs := w7.heap) (by rw [hsz]; omega), Array.getElem?_eq_none (xs := w2.heap) (by omega)]
end Go.Proofs.YtbkiijndhjmkdaaGreatDoor
/- A Cert's values: what may be laid comes back; what is read was laid so; bytes cut, or with more behind. -/
namespace Go.Proofs.YtbkiijndhjmkdaaGreatDoor
open Go.RowKit

theorem cut_bad {α : Type} (C : Codec α) {x : α} (h : C.ok x) {k : Nat} (hk : k < (C.put x).length) : ∃ f, wholeG C.get ((C.put x).take k) = .error f := by
  cases hw : wholeG C.get ((C.put x).take k) with
  | error f => exact ⟨f, rfl⟩
  | ok y =>
    obtain ⟨h1, h2⟩ := whole_back _ hw
    have e1 := C.there y ((C.put x).drop k) 0 h1
    have e2 := C.there x [] 0 h
    rw [← h2, List.take_append_drop] at e1
    rw [List.append_nil, e1] at e2
    have h3 := congrArg (fun r : Res α => match r with | .ok p => p.2 | .error _ => 0) e2
    simp only [List.length_take] at h3
    omega
theorem longer_bad {α : Type} (C : Codec α) {x : α} (h : C.ok x) {m : (List UInt8)} (hm : m ≠ []) : ∃ f, wholeG C.get (C.put x ++ m) = .error f := by
  have e1 := C.there x m 0 h
  have hl : 0 < m.length := List.length_pos_iff.2 hm
  rw [wholeG, e1]
  exact ⟨_, if_pos (by rw [List.length_append]; omega)⟩

theorem okV_list {ρ α : Type} {p : ρ} {key : UInt8} {m : Nat} {hm : m ≤ 10240} {C : Codec α} {of : ρ → List α} {set : ρ → List α → ρ} : (∀ v, (listFld key m hm C of set).view p = some v → (listFld key m hm C of set).C.ok v) ↔ (of p).length ≤ m ∧ ∀ x ∈ of p, C.ok x := by
  show (∀ v : List α, lst (of p) = some v → v ≠ [] ∧ v.length ≤ m ∧ ∀ x ∈ v, C.ok x) ↔ _
  cases h : of p with
  | nil => simp [lst]
  | cons a l => simp only [lst, Option.some.injEq, forall_eq']; exact ⟨fun h => h.2, fun h => ⟨by simp, h⟩⟩
theorem bytes_list {ρ α : Type} (p : ρ) (key : UInt8) (m : Nat) (hm : m ≤ 10240) (C : Codec α) (of : ρ → List α) (set : ρ → List α → ρ) : bytesF p (listFld key m hm C of set) = if of p = [] then [] else headP 3 (of p).length ++ (of p).flatMap C.put := by
  by_cases h : of p = []
  · rw [if_pos h]; exact bytesF_none (show lst (of p) = none by rw [h]; rfl)
  · rw [if_neg h]; exact bytesF_some (f := listFld key m hm C of set) (list_seen h)
theorem mapP_ne0 (fs : List (UInt8 × (List UInt8))) : mapP fs ≠ [] := by
  unfold mapP
  intro e
  exact headP_ne _ _ (List.append_eq_nil_iff.1 e).1
theorem slot_small (x : SlotR) : smallP (mapP (slotF x)) = if slotZ x then [] else mapP (slotF x) := by
  have h0 : smallP (mapP (sigF x.sig)) = [] ↔ sigZ x.sig = true := by
    rw [sig_small]
    by_cases h : sigZ x.sig = true
    · simp [h]
    · simp [h, mapP_ne0]
  have h1 : (if x.signed then numZ 1 else []) = [] ↔ (!x.signed) = true := by
    cases x.signed
    · simp
    · simp [numZ_ne]
  have hz : prs (slotF x) = [] ↔ slotZ x = true := by
    unfold prs slotF slotZ
    simp only [List.filter_eq_nil_iff, List.mem_cons, List.not_mem_nil, or_false, forall_eq_or_imp, forall_eq, Bool.not_eq_true, Bool.not_eq_false', List.isEmpty_iff, numZ_ne, h0, h1, Bool.and_eq_true, beq_iff_eq]
    exact ⟨fun ⟨a, b, c⟩ => ⟨⟨a, b⟩, c⟩, fun ⟨⟨a, b⟩, c⟩ => ⟨a, b, c⟩⟩
  unfold smallP
  by_cases h : slotZ x = true
  · rw [if_pos (mapP_nil _ (hz.2 h)), if_pos h]
  · rw [if_neg (mapP_ne2 _ (fun e => h (hz.1 e))), if_neg h]
theorem rev_ok (r : RevR) : revC.ok r ↔ (r.pos < 18446744073709551616 ∧ PartIn r.part ∧ r.slot.l < 18446744073709551616 ∧ r.slot.sig.index < 18446744073709551616) ∧ mayRevB r = true := by
  show (okV revFs r ∧ (!r.part.root.isEmpty) = true) ↔ _
  have h1 : (∀ v : SlotR, (if slotZ r.slot then none else some r.slot) = some v → slotC.ok v ∧ slotZ v = false) ↔ slotC.ok r.slot := by
    cases hz : slotZ r.slot with
    | true =>
      have hs : slotC.ok r.slot := by
        rw [show r.slot = zSlot from slotZ_zero hz, slot_ok]
        exact ⟨by decide, by decide, by decide⟩
      simp [hs]
    | false => simp [hz]
  have h2 : ((∀ v : PartR, (if partZ r.part then none else some r.part) = some v → partC.ok v) ∧ (!r.part.root.isEmpty) = true) ↔ partC.ok r.part := by
    cases hz : partZ r.part with
    | true =>
      constructor
      · rintro ⟨_, h⟩
        rw [show r.part = zPart from partZ_zero hz] at h
        cases h
      · intro h
        have := partC_nz h
        rw [hz] at this
        cases this
    | false =>
      constructor
      · rintro ⟨h, _⟩
        exact h _ rfl
      · intro h
        exact ⟨fun v hv => by cases hv; exact h, h.2⟩
  have h3 : okV revFs r ↔ r.pos < 18446744073709551616 ∧ (∀ v : PartR, (if partZ r.part then none else some r.part) = some v → partC.ok v) ∧ slotC.ok r.slot := by
    rw [← h1]
    unfold okV revFs
    simp only [List.mem_cons, List.not_mem_nil, or_false, forall_eq_or_imp, forall_eq, okV_num]
    exact Iff.rfl
  rw [h3, mayRevB, Bool.and_eq_true]
  have h4 := part_ok r.part
  have h5 := slot_ok r.slot
  constructor
  · rintro ⟨⟨a, b, c⟩, d⟩
    obtain ⟨e, f⟩ := h4.1 (h2.1 ⟨b, d⟩)
    obtain ⟨g, h, i⟩ := h5.1 c
    exact ⟨⟨a, e, g, h⟩, f, i⟩
  · rintro ⟨⟨a, e, g, h⟩, f, i⟩
    obtain ⟨b, d⟩ := h2.2 (h4.2 ⟨e, f⟩)
    exact ⟨⟨a, b, h5.2 ⟨g, h, i⟩⟩, d⟩
theorem rev_put (r : RevR) (h : digB r.part.root = true) : revC.put r = mapP (revF r) := by
  show mapP (prL revFs r) = _
  have hz : partZ r.part = false := by
    have := dig_ne h
    unfold partZ
    cases hr : r.part.root with
    | nil => exact absurd hr this
    | cons a l => simp
  have h1 : bytesF r rpartFld = mapP (partF r.part) :=
    (bytesF_some (f := rpartFld) (v := r.part) (if_neg (by rw [hz]; decide))).trans (part_put _ h)
  have h2 : bytesF r (nzFld 115 slotC slotZ (·.slot) (fun p v => { p with slot := v })) = smallP (mapP (slotF r.slot)) := by
    rw [slot_small]
    by_cases h : slotZ r.slot = true
    · rw [if_pos h]; exact bytesF_none (if_pos h)
    · rw [if_neg h]
      exact (bytesF_some (f := nzFld 115 slotC slotZ (fun x : RevR => x.slot) (fun p v => { p with slot := v })) (if_neg h)).trans (slot_put _)
  simp only [prL, revFs, List.map_cons, List.map_nil, bytes_num, h1, h2]
  rfl
/-- a Cert's numbers are below 2^64 -/
structure CertP (c : CertR) : Prop where
  s : c.signed < 18446744073709551616
  r : ∀ x ∈ c.reveals, x.pos < 18446744073709551616 ∧ PartIn x.part ∧ x.slot.l < 18446744073709551616 ∧ x.slot.sig.index < 18446744073709551616
  co : ∀ x ∈ c.coins, x < 18446744073709551616
theorem cert_ok (c : CertR) : certC.ok c ↔ CertP c ∧ mayCertB c = true := by
  show (okV certFs c ∧ (!c.root.isEmpty) = true) ↔ _
  have h1 : okV certFs c ↔ mayB c.partProof 10240 = true ∧ mayB c.slotProof 10240 = true ∧ (c.root ≠ [] → digB c.root = true) ∧ (c.coins.length ≤ 640 ∧ ∀ x ∈ c.coins, anyC.ok x) ∧ (c.reveals.length ≤ 640 ∧ ∀ x ∈ c.reveals, revC.ok x) ∧ c.signed < 18446744073709551616 := by
    unfold okV certFs
    simp only [List.mem_cons, List.not_mem_nil, or_false, forall_eq_or_imp, forall_eq]
    rw [okV_digs, okV_digs, okV_dig, okV_list, okV_list, okV_num]
  rw [h1]
  unfold mayCertB
  simp only [Bool.and_eq_true, decide_eq_true_eq, List.all_eq_true]
  constructor
  · rintro ⟨⟨a, b, c1, ⟨d1, d2⟩, ⟨e1, e2⟩, f⟩, g⟩
    exact ⟨⟨f, fun x hx => ((rev_ok x).1 (e2 x hx)).1, d2⟩, ⟨⟨⟨⟨c1 (by simpa using g), a⟩, b⟩, d1⟩, e1⟩, fun x hx => ((rev_ok x).1 (e2 x hx)).2⟩
  · rintro ⟨⟨f, r, d2⟩, ⟨⟨⟨⟨g, a⟩, b⟩, d1⟩, e1⟩, e2⟩
    exact ⟨⟨a, b, fun _ => g, ⟨d1, d2⟩, ⟨e1, fun x hx => (rev_ok x).2 ⟨r x hx, e2 x hx⟩⟩, f⟩, by simpa using dig_ne g⟩
theorem cert_put (c : CertR) (h : mayCertB c = true) : certC.put c = mapP (certF c) := by
  show mapP (prL certFs c) = _
  unfold mayCertB at h
  simp only [Bool.and_eq_true, decide_eq_true_eq, List.all_eq_true] at h
  have h1 : c.reveals.flatMap revC.put = c.reveals.flatMap fun r => mapP (revF r) := by
    have : ∀ l : List RevR, (∀ x ∈ l, mayRevB x = true) → l.flatMap revC.put = l.flatMap fun r => mapP (revF r) := by
      intro l
      induction l with
      | nil => intro _; rfl
      | cons x l ih =>
        intro hx
        rw [List.flatMap_cons, List.flatMap_cons, ih fun y hy => hx y (List.mem_cons_of_mem _ hy)]
        have hm := hx x (List.mem_cons_self ..)
        unfold mayRevB at hm
        rw [Bool.and_eq_true] at hm
        rw [rev_put x hm.1]
    exact this _ h.2
  simp only [prL, certFs, List.map_cons, List.map_nil, bytes_num, bytes_list, bytes_dig c _ (fun c : CertR => c.root) _ (dig_ne h.1.1.1.1.1), h1]
  rfl
theorem cert_again {c : CertR} (hI : CertP c) (h : (layCertP c).2 = 0) : wholeG certC.get (layCertP c).1 = .ok c := by
  unfold layCertP layOr at *
  cases hd : mayCertB c with
  | false => rw [hd] at h; cases h
  | true => rw [if_pos rfl, ← cert_put c hd]; exact whole_there _ ((cert_ok c).2 ⟨hI, hd⟩)
theorem cert_laid {c : CertR} {S : (List UInt8)} (h : wholeG certC.get S = .ok c) : CertP c ∧ layCertP c = (S, 0) := by
  obtain ⟨h1, h2⟩ := whole_back _ h
  obtain ⟨h3, h4⟩ := (cert_ok c).1 h1
  exact ⟨h3, by unfold layCertP layOr; rw [if_pos h4, h2, cert_put c h4]⟩
/-- laid bytes that are cut, or with more behind, are read by none -/
theorem cert_cut {c : CertR} (hI : CertP c) (h : (layCertP c).2 = 0) : (∀ k, k < (layCertP c).1.length → ∃ f, wholeG certC.get ((layCertP c).1.take k) = .error f) ∧ ∀ m, m ≠ [] → ∃ f, wholeG certC.get ((layCertP c).1 ++ m) = .error f := by
  unfold layCertP layOr at *
  cases hd : mayCertB c with
  | false => rw [hd] at h; cases h
  | true =>
    rw [if_pos rfl, ← cert_put c hd]
    exact ⟨fun k hk => cut_bad _ ((cert_ok c).2 ⟨hI, hd⟩) hk, fun m hm => longer_bad _ ((cert_ok c).2 ⟨hI, hd⟩) hm⟩
theorem cert_shape (c : CertR) : ((layCertP c).2 = 0 ∧ (layCertP c).1 ≠ []) ∨ layCertP c = ([], 2) := by
  unfold layCertP layOr
  cases mayCertB c
  · exact .inr rfl
  · exact .inl ⟨rfl, mapP_ne0 _⟩
end Go.Proofs.YtbkiijndhjmkdaaGreatDoor
/- The law's slot, again: the lists that it cuts lie in new memory. -/

namespace Go.Proofs.YtbkiijndhjmkdaaGreatDoor
open Go.RowKit

theorem Fresh.weak {lo lo2 : Nat} {ao : Option Addr} {L : List (List UInt8)} {w : World} (h : Fresh lo ao L w) (hl : lo2 ≤ lo) : Fresh lo2 ao L w := by
  rcases h with h | ⟨b, h1, h2, h3, h4⟩
  · exact .inl h
  · exact .inr ⟨b, h1, by omega, h3, h4⟩

set_option maxRecDepth 100000 in
set_option maxHeartbeats 1000000 in
theorem cutslot2_any (x : SlotE) (w : World) (hM : SlotM x w) (hwl : x.r.sig.wots.length ≤ maxLen) (hwe : ∀ i (h : i < x.r.sig.wots.length), x.r.sig.wots[i].length ≤ maxLen) (hpl : x.r.sig.path.length ≤ maxLen) (hpe : ∀ i (h : i < x.r.sig.path.length), x.r.sig.path[i].length ≤ maxLen) :
    Calls Tryz.prog 18 #[slotV x] w fun e w' => (∃ y : SlotE, y.r = slotTo x.r ∧ e = .returned (slotV y) ∧ Fresh w.heap.size y.wa y.r.sig.wots w' ∧ Fresh w.heap.size y.pa y.r.sig.path w') ∧ Below w.heap.size w w' := by
  obtain ⟨⟨l, sg, ⟨ix, ws, ps⟩⟩, wa, wc, pa, pc⟩ := x
  obtain ⟨hws, hps⟩ := hM
  simp only at hws hps hwl hwe hpl hpe
  have hb0 : Below w.heap.size w ((w.alloc (.cells #[.int .u64 (l : Int), .bool sg, .int .u64 (ix : Int), .slice wa ws.length wc, .slice pa ps.length pc] 48)).alloc (.cells #[.int .u64 0, .bool false, .int .u64 0, .slice none 0 0, .slice none 0 0] 48)) := (by0 w _).alloc (by simp) _
  have hz0 : ((w.alloc (.cells #[.int .u64 (l : Int), .bool sg, .int .u64 (ix : Int), .slice wa ws.length wc, .slice pa ps.length pc] 48)).alloc (.cells #[.int .u64 0, .bool false, .int .u64 0, .slice none 0 0, .slice none 0 0] 48)).heap.size = w.heap.size + 1 + 1 := by simp
  have hx0 : ((w.alloc (.cells #[.int .u64 (l : Int), .bool sg, .int .u64 (ix : Int), .slice wa ws.length wc, .slice pa ps.length pc] 48)).alloc (.cells #[.int .u64 0, .bool false, .int .u64 0, .slice none 0 0, .slice none 0 0] 48)).heap[w.heap.size]? = some (.cells #[.int .u64 (l : Int), .bool sg, .int .u64 (ix : Int), .slice wa ws.length wc, .slice pa ps.length pc] 48 (0, 0)) := lit_old _ (heap_alloc_new w _)
  have hr0 : ((w.alloc (.cells #[.int .u64 (l : Int), .bool sg, .int .u64 (ix : Int), .slice wa ws.length wc, .slice pa ps.length pc] 48)).alloc (.cells #[.int .u64 0, .bool false, .int .u64 0, .slice none 0 0, .slice none 0 0] 48)).heap[w.heap.size + 1]? = some (.cells #[.int .u64 0, .bool false, .int .u64 0, .slice none 0 0, .slice none 0 0] 48 (0, 0)) := by
    rw [show w.heap.size + 1 = (w.alloc (.cells #[.int .u64 (l : Int), .bool sg, .int .u64 (ix : Int), .slice wa ws.length wc, .slice pa ps.length pc] 48)).heap.size by simp]; exact heap_alloc_new _ _
  have HB := Lib.hid hb0
  have HZ := Lib.hid hz0
  have HX := Lib.hid hx0
  have HR := Lib.hid hr0
  have HT1 := Lib.hid (fun (wz : World) (h : Strs wa ws wz) => texts_any wa wc 70 ws wz (by decide) hwl hwe h)
  have HT2 := Lib.hid (fun (wz : World) (h : Strs pa ps wz) => texts_any pa pc 20 ps wz (by decide) hpl hpe h)
  have HWS := Lib.hid hws
  have HPS := Lib.hid hps
  clear hb0 hz0 hx0 hr0 hwl hwe hpl hpe hws hps
  go_enter Tryz.func18, Tryz.ntmps18
  go_upto_region 1 with fail
  change Code.wp _ _ _ _ ((w.alloc (.cells #[.int .u64 (l : Int), .bool sg, .int .u64 (ix : Int), .slice wa ws.length wc, .slice pa ps.length pc] 48)).alloc (.cells #[.int .u64 0, .bool false, .int .u64 0, .slice none 0 0, .slice none 0 0] 48))
  generalize (w.alloc (.cells #[.int .u64 (l : Int), .bool sg, .int .u64 (ix : Int), .slice wa ws.length wc, .slice pa ps.length pc] 48)).alloc (.cells #[.int .u64 0, .bool false, .int .u64 0, .slice none 0 0, .slice none 0 0] 48) = w1 at *
  have hz := HZ.out
  have p3 := (lit_cell HX.out 3).trans rfl
  go_upto_region 2 with (go_at_call 51; refine (HT1.out _ (HWS.out.below (Nat.le_refl _) HB.out)).mono ?_; rintro e w2 ⟨ao, cp, rfl, hS1, hb2⟩; have hX2 := (hb2.block w.heap.size (by omega)).trans HX.out; have q3 := (lit_cell hX2 3).trans rfl; have f3 := lit_free hX2 3)
  have hz2 := hb2.size
  have hb02 := HB.out.trans (hb2.mono (by omega))
  have hR2 := (hb2.block (w.heap.size + 1) (by omega)).trans HR.out
  have hx3 := lit_set (k := 3) (.slice ao (textsTo ws 70).length cp) hX2
  have ho3 := Only.set w.heap.size 3 (.slice ao (textsTo ws 70).length cp) w2
  have hb03 := hb02.trans (ho3.below (Nat.le_refl _) hb02.size)
  have hS3 := hS1.to (fun k hk hl => ho3.block k hl (by omega)) ho3.size
  have hR3 := (ho3.block (w.heap.size + 1) (by omega) (by omega)).trans hR2
  have hz3 : (w2.setCell ⟨w.heap.size, 3, none⟩ (.slice ao (textsTo ws 70).length cp)).heap.size = w2.heap.size := by simp
  generalize w2.setCell ⟨w.heap.size, 3, none⟩ (.slice ao (textsTo ws 70).length cp) = w3 at *
  have p4 := (lit_cell hx3 4).trans rfl
  clear hS1 ho3 hX2 hR2 q3 f3 p3
  go_upto_region 3 with (go_at_call 51; refine (HT2.out _ (HPS.out.below (Nat.le_refl _) hb03)).mono ?_; rintro e w4 ⟨bo, dp, rfl, hS2, hb4⟩; have hX4 := (hb4.block w.heap.size (by omega)).trans hx3; have q4 := (lit_cell hX4 4).trans rfl; have f4 := lit_free hX4 4)
  have hz4 := hb4.size
  have hb04 := hb03.trans (hb4.mono (by omega))
  have hS4 := hS3.to (fun k hk hl => hb4.block k (by omega)) hb4.size
  have hR4 := (hb4.block (w.heap.size + 1) (by omega)).trans hR3
  have hx5 := lit_set (k := 4) (.slice bo (textsTo ps 20).length dp) hX4
  have ho5 := Only.set w.heap.size 4 (.slice bo (textsTo ps 20).length dp) w4
  have hb05 := hb04.trans (ho5.below (Nat.le_refl _) hb04.size)
  have hS5 := hS4.to (fun k hk hl => ho5.block k hl (by omega)) ho5.size
  have hT5 := hS2.to (fun k hk hl => ho5.block k hl (by omega)) ho5.size
  have hR5 := (ho5.block (w.heap.size + 1) (by omega) (by omega)).trans hR4
  have hz5 : (w4.setCell ⟨w.heap.size, 4, none⟩ (.slice bo (textsTo ps 20).length dp)).heap.size = w4.heap.size := by simp
  generalize w4.setCell ⟨w.heap.size, 4, none⟩ (.slice bo (textsTo ps 20).length dp) = w5 at *
  have a0 := (lit_cell hx5 0).trans rfl; have a1 := (lit_cell hx5 1).trans rfl; have a2 := (lit_cell hx5 2).trans rfl; have a3 := (lit_cell hx5 3).trans rfl; have a4 := (lit_cell hx5 4).trans rfl
  have b0 := (lit_cell hR5 0).trans rfl; have b1 := (lit_cell hR5 1).trans rfl; have b2 := (lit_cell hR5 2).trans rfl; have b3 := (lit_cell hR5 3).trans rfl; have b4 := (lit_cell hR5 4).trans rfl
  have f0 := lit_free hR5 0; have f1 := lit_free hR5 1; have f2 := lit_free hR5 2; have f3 := lit_free hR5 3; have f4' := lit_free hR5 4
  clear hS2 hS3 hS4 hR3 hR4 hX4 q4 f4 p4 ho5 HT1 HT2
  go_wp2
  have hx7 := lit_set (k := 4) (.slice bo (textsTo ps 20).length dp) (lit_set (k := 3) (.slice ao (textsTo ws 70).length cp) (lit_set (k := 2) (.int .u64 (ix : Int)) (lit_set (k := 1) (.bool sg) (lit_set (k := 0) (.int .u64 (l : Int)) (hR5)))))
  have ho7 := ((((Only.set (w.heap.size + 1) 0 (.int .u64 (l : Int)) w5).trans (Only.set (w.heap.size + 1) 1 (.bool sg) _)).trans (Only.set (w.heap.size + 1) 2 (.int .u64 (ix : Int)) _)).trans (Only.set (w.heap.size + 1) 3 (.slice ao (textsTo ws 70).length cp) _)).trans (Only.set (w.heap.size + 1) 4 (.slice bo (textsTo ps 20).length dp) _)
  have hb07 := hb05.trans (ho7.below (by omega) hb05.size)
  have hS7 := (hS5.to (fun k hk hl => ho7.block k hl (by omega)) ho7.size).weak (lo2 := w.heap.size) (by omega)
  have hT7 := (hT5.to (fun k hk hl => ho7.block k hl (by omega)) ho7.size).weak (lo2 := w.heap.size) (by omega)
  generalize (((((w5).setCell ⟨w.heap.size + 1, 0, none⟩ (.int .u64 (l : Int))).setCell ⟨w.heap.size + 1, 1, none⟩ (.bool sg)).setCell ⟨w.heap.size + 1, 2, none⟩ (.int .u64 (ix : Int))).setCell ⟨w.heap.size + 1, 3, none⟩ (.slice ao (textsTo ws 70).length cp)).setCell ⟨w.heap.size + 1, 4, none⟩ (.slice bo (textsTo ps 20).length dp) = w7 at *
  have z0 := (lit_cell hx7 0).trans rfl; have z1 := (lit_cell hx7 1).trans rfl; have z2 := (lit_cell hx7 2).trans rfl; have z3 := (lit_cell hx7 3).trans rfl; have z4 := (lit_cell hx7 4).trans rfl
  refine bodyPost_ret (v := slotV ⟨slotTo ⟨l, sg, ⟨ix, ws, ps⟩⟩, ao, cp, bo, dp⟩) (by simp [results, Tryz.results18, go_sem, z0, z1, z2, z3, z4, slotTo]) rfl ⟨⟨_, rfl, rfl, hS7, hT7⟩, hb07⟩
end Go.Proofs.YtbkiijndhjmkdaaGreatDoor
