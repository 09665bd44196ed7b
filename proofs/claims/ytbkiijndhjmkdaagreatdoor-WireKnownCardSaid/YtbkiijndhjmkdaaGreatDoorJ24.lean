/- ReadPart, ReadMsg, ReadHeader: rows that read; read[T]. -/
import Derived.Test.YtbkiijndhjmkdaaGreatDoorJ23
namespace Go.Proofs.YtbkiijndhjmkdaaGreatDoor
open Go.RowKit

/-- the whole of some bytes as a thing -/
def wholeG {ρ : Type} (g : (List UInt8) → Nat → Res ρ) (S : (List UInt8)) : Except Flt ρ := match g S 0 with
  | .error f => .error f
  | .ok (p, k) => if k < S.length then .error (5, k) else .ok p
/-- what a panic leaves: only the cells of the results and what is deferred count -/
def Cel (P : Program) (fn : Func) (R : Ending → World → Prop) (K : Act → World → Prop) (X Y : Value) (D : List Deferred) : Exit → Act → World → Prop
  | .panic c, a, w => (a.tmps[4]? = some X ∧ a.tmps[5]? = some Y ∧ a.defers = D) ∧ ∀ tm : Array Value, tm[4]? = some X → tm[5]? = some Y → Leaves P fn tm R D (.panicking c) w
  | e, a, w => Exit.then K (bodyPostD P fn R) e a w
theorem wp_cel {P : Program} {fn : Func} {R : Ending → World → Prop} {K : Act → World → Prop} {X Y : Value} {D : List Deferred} {c : Code} {a : Act} {w : World} (h : c.wp P (Cel P fn R K X Y D) a w) : c.wp P (Exit.then K (bodyPostD P fn R)) a w := by
  refine wp_mono h fun e a w q => ?_
  cases e with
  | panic c =>
    obtain ⟨⟨h1, h2, h3⟩, h4⟩ := q
    show Leaves P fn a.tmps R a.defers _ w
    rw [h3]
    exact h4 _ h1 h2
  | _ => exact q
theorem Cel.put {P : Program} {fn : Func} {R : Ending → World → Prop} {K : Act → World → Prop} {X Y : Value} {D : List Deferred} {d : Nat} {v : Value} (hd : 5 < d) : ∀ c a w, Cel P fn R K X Y D (.panic c) (a.put (some d) v) w → Cel P fn R K X Y D (.panic c) a w := by
  intro c a w h
  obtain ⟨⟨h1, h2, h3⟩, h4⟩ := h
  refine ⟨⟨?_, ?_, h3⟩, h4⟩
  · rw [← h1]; simp only [Act.put, Array.getElem?_setIfInBounds]; rw [if_neg (by omega)]
  · rw [← h2]; simp only [Act.put, Array.getElem?_setIfInBounds]; rw [if_neg (by omega)]
theorem below_duo {w w1 w2 : World} {A x : Nat} (h : Below w.heap.size w w1) (k : Duo A x w1 w2) (hA : w.heap.size ≤ A) (hx : w.heap.size ≤ x) : Below w.heap.size w w2 :=
  ⟨k.os.trans h.os, k.tape.trans h.tape, k.output.trans h.output, Nat.le_trans h.size k.size, fun i hi => (k.block i (Nat.lt_of_lt_of_le hi h.size) (by omega) (by omega)).trans (h.block i hi)⟩
theorem dig_some (s : (List UInt8)) : (if s = [] then none else some s).isSome = !s.isEmpty := by cases s <;> rfl

def RpPart (t : Nat) (p : PartR) (w : World) : Prop := w.heap[t]? = some (.cells (partQ p).toArray 24 (0, 0))
set_option maxRecDepth 100000 in
theorem part_rd {w0 : World} {lo rb t fb : Nat} {S : (List UInt8)} {fs : List FV} (hK : PartK lo t 0 fb fs w0) (hlo : rb < lo ∧ t < lo) (hrt : t ≠ rb) (hS : S.length ≤ 1000000) : ∃ xs : List (RW PartR), fs = xs.map (·.f) ∧ xs.length = 5 ∧ xs.map (·.g) = partFs ∧ (∀ x ∈ xs, ReadF w0 rb t S (RpPart t) x) ∧ ∀ p, okV partFs p → (!xs.any fun x => x.f.needed && !(x.g.view p).isSome) = (!p.root.isEmpty) := by
  obtain ⟨⟨k0, k1, k2, k3, k4, rfl, h0, h1, h2, h3, h4⟩, _, _⟩ := hK
  refine ⟨[⟨numFV 102 k0, numFld 102 (·.first) (fun p v => { p with first := v }), numRd⟩, ⟨numFV 107 k1, numFld 107 (·.keys) (fun p v => { p with keys := v }), numRd⟩, ⟨numFV 108 k2, numFld 108 (·.life) (fun p v => { p with life := v }), numRd⟩, ⟨digFV 114 k3, digFld 114 (·.root) (fun p v => { p with root := v }), digRd⟩, ⟨numFV 119 k4, numFld 119 (·.weight) (fun p v => { p with weight := v }), numRd⟩], rfl, rfl, rfl, fun x hx => ?_, fun p _ => ?_⟩
  · simp only [List.mem_cons, List.not_mem_nil, or_false] at hx
    rcases hx with rfl | rfl | rfl | rfl | rfl
    · exact read_num (T := 24) h0 hlo hrt hS (fun p w h => ⟨_, h, rfl, fun v w' _ h' => h'⟩) (fun p h => by cases p; simp_all)
    · exact read_num (T := 24) h1 hlo hrt hS (fun p w h => ⟨_, h, rfl, fun v w' _ h' => h'⟩) (fun p h => by cases p; simp_all)
    · exact read_num (T := 24) h2 hlo hrt hS (fun p w h => ⟨_, h, rfl, fun v w' _ h' => h'⟩) (fun p h => by cases p; simp_all)
    · exact read_dig (T := 24) h3 hlo hrt hS (fun p w h => ⟨_, h, rfl, fun v w' _ h' => h'⟩)
    · exact read_num (T := 24) h4 hlo hrt hS (fun p w h => ⟨_, h, rfl, fun v w' _ h' => h'⟩) (fun p h => by cases p; simp_all)
  · simp only [List.any_cons, List.any_nil, numFld, digFld, Bool.false_and, Bool.true_and, Bool.or_false, Bool.false_or]
    simp only [dig_some]
    generalize p.root.isEmpty = a0
    cases a0 <;> rfl

def RpMsg (t : Nat) (p : MsgR) (w : World) : Prop := w.heap[t]? = some (.cells (msgQ p).toArray 70 (0, 0))
set_option maxRecDepth 100000 in
theorem msg_rd {w0 : World} {lo rb t fb : Nat} {S : (List UInt8)} {fs : List FV} (hK : MsgK lo t 0 fb fs w0) (hlo : rb < lo ∧ t < lo) (hrt : t ≠ rb) (hS : S.length ≤ 1000000) : ∃ xs : List (RW MsgR), fs = xs.map (·.f) ∧ xs.length = 6 ∧ xs.map (·.g) = msgFs ∧ (∀ x ∈ xs, ReadF w0 rb t S (RpMsg t) x) ∧ ∀ p, okV msgFs p → (!xs.any fun x => x.f.needed && !(x.g.view p).isSome) = (!p.headers.isEmpty && !p.parts.isEmpty) := by
  obtain ⟨⟨k0, k1, k2, k3, k4, k5, rfl, h0, h1, h2, h3, h4, h5⟩, _, _⟩ := hK
  refine ⟨[⟨numFV 102 k0, numFld 102 (·.first) (fun p v => { p with first := v }), numRd⟩, ⟨digFV 104 k1, digFld 104 (·.headers) (fun p v => { p with headers := v }), digRd⟩, ⟨numFV 108 k2, numFld 108 (·.last) (fun p v => { p with last := v }), numRd⟩, ⟨numFV 110 k3, numFld 110 (·.count) (fun p v => { p with count := v }), numRd⟩, ⟨digFV 118 k4, digFld 118 (·.parts) (fun p v => { p with parts := v }), digRd⟩, ⟨numFV 119 k5, numFld 119 (·.proven) (fun p v => { p with proven := v }), numRd⟩], rfl, rfl, rfl, fun x hx => ?_, fun p _ => ?_⟩
  · simp only [List.mem_cons, List.not_mem_nil, or_false] at hx
    rcases hx with rfl | rfl | rfl | rfl | rfl | rfl
    · exact read_num (T := 70) h0 hlo hrt hS (fun p w h => ⟨_, h, rfl, fun v w' _ h' => h'⟩) (fun p h => by cases p; simp_all)
    · exact read_dig (T := 70) h1 hlo hrt hS (fun p w h => ⟨_, h, rfl, fun v w' _ h' => h'⟩)
    · exact read_num (T := 70) h2 hlo hrt hS (fun p w h => ⟨_, h, rfl, fun v w' _ h' => h'⟩) (fun p h => by cases p; simp_all)
    · exact read_num (T := 70) h3 hlo hrt hS (fun p w h => ⟨_, h, rfl, fun v w' _ h' => h'⟩) (fun p h => by cases p; simp_all)
    · exact read_dig (T := 70) h4 hlo hrt hS (fun p w h => ⟨_, h, rfl, fun v w' _ h' => h'⟩)
    · exact read_num (T := 70) h5 hlo hrt hS (fun p w h => ⟨_, h, rfl, fun v w' _ h' => h'⟩) (fun p h => by cases p; simp_all)
  · simp only [List.any_cons, List.any_nil, numFld, digFld, Bool.false_and, Bool.true_and, Bool.or_false, Bool.false_or]
    simp only [dig_some]
    generalize p.headers.isEmpty = a0
    generalize p.parts.isEmpty = a1
    cases a0 <;> cases a1 <;> rfl

def RpHeader (t : Nat) (p : HdrR) (w : World) : Prop := w.heap[t]? = some (.cells (hdrQ p).toArray 72 (0, 0))
set_option maxRecDepth 100000 in
theorem hdr_rd {w0 : World} {lo rb t fb : Nat} {S : (List UInt8)} {fs : List FV} (hK : HdrK lo t 0 fb fs w0) (hlo : rb < lo ∧ t < lo) (hrt : t ≠ rb) (hS : S.length ≤ 1000000) : ∃ xs : List (RW HdrR), fs = xs.map (·.f) ∧ xs.length = 4 ∧ xs.map (·.g) = hdrFs ∧ (∀ x ∈ xs, ReadF w0 rb t S (RpHeader t) x) ∧ ∀ p, okV hdrFs p → (!xs.any fun x => x.f.needed && !(x.g.view p).isSome) = (!p.prev.isEmpty && !p.seed.isEmpty && !p.txns.isEmpty) := by
  obtain ⟨⟨k0, k1, k2, k3, rfl, h0, h1, h2, h3⟩, _, _⟩ := hK
  refine ⟨[⟨digFV 112 k0, digFld 112 (·.prev) (fun p v => { p with prev := v }), digRd⟩, ⟨numFV 114 k1, numFld 114 (·.round) (fun p v => { p with round := v }), numRd⟩, ⟨digFV 115 k2, digFld 115 (·.seed) (fun p v => { p with seed := v }), digRd⟩, ⟨digFV 116 k3, digFld 116 (·.txns) (fun p v => { p with txns := v }), digRd⟩], rfl, rfl, rfl, fun x hx => ?_, fun p _ => ?_⟩
  · simp only [List.mem_cons, List.not_mem_nil, or_false] at hx
    rcases hx with rfl | rfl | rfl | rfl
    · exact read_dig (T := 72) h0 hlo hrt hS (fun p w h => ⟨_, h, rfl, fun v w' _ h' => h'⟩)
    · exact read_num (T := 72) h1 hlo hrt hS (fun p w h => ⟨_, h, rfl, fun v w' _ h' => h'⟩) (fun p h => by cases p; simp_all)
    · exact read_dig (T := 72) h2 hlo hrt hS (fun p w h => ⟨_, h, rfl, fun v w' _ h' => h'⟩)
    · exact read_dig (T := 72) h3 hlo hrt hS (fun p w h => ⟨_, h, rfl, fun v w' _ h' => h'⟩)
  · simp only [List.any_cons, List.any_nil, numFld, digFld, Bool.false_and, Bool.true_and, Bool.or_false, Bool.false_or]
    simp only [dig_some]
    generalize p.prev.isEmpty = a0
    generalize p.seed.isEmpty = a1
    generalize p.txns.isEmpty = a2
    cases a0 <;> cases a1 <;> cases a2 <;> rfl

/-- what read answers -/
def AnsPart (S : (List UInt8)) (w : World) (e : Ending) (w' : World) : Prop := match wholeG partC.get S with
  | .ok p => e = .returned (.tuple #[partV p, .nilIface]) ∧ Below w.heap.size w w'
  | .error (c, b) => c ≠ 0 ∧ (∃ v, e = .returned (.tuple #[partV zPart, v]) ∧ ErrV w.heap.size c b v w') ∧ Below w.heap.size w w'
set_option maxRecDepth 100000 in
set_option maxHeartbeats 4000000 in
theorem freadPart_any (S : (List UInt8)) (w : World) (hG : GlobW w) (hS : S.length ≤ 1000000) (hgl : 4 ≤ w.heap.size) :
    Calls Tryz.prog 45 #[.string ⟨S.toArray⟩, .func (.func 42) #[] #[]] w (AnsPart S w) := by
  have hmf : ∀ (fn : Fn) (first cap : Array Value) (w : World), (Instr.makeFunc fn first cap).run Tryz.prog w = .ok (.func fn first cap) w := fun _ _ _ _ => rfl
  have hb0 : Below w.heap.size w ((w.alloc (.cells #[.string ⟨#[]⟩, .int .u64 0, .int .u64 0, .int .u64 0, .int .u64 0] 24)).alloc (.cells #[.nilIface] 34)) := (by0 w _).alloc (by simp) _
  have hz0 : ((w.alloc (.cells #[.string ⟨#[]⟩, .int .u64 0, .int .u64 0, .int .u64 0, .int .u64 0] 24)).alloc (.cells #[.nilIface] 34)).heap.size = w.heap.size + 1 + 1 := by simp
  have hx0 : ((w.alloc (.cells #[.string ⟨#[]⟩, .int .u64 0, .int .u64 0, .int .u64 0, .int .u64 0] 24)).alloc (.cells #[.nilIface] 34)).heap[w.heap.size]? = some (.cells #[.string ⟨#[]⟩, .int .u64 0, .int .u64 0, .int .u64 0, .int .u64 0] 24 (0, 0)) := lit_old _ (heap_alloc_new w _)
  have he0 : ((w.alloc (.cells #[.string ⟨#[]⟩, .int .u64 0, .int .u64 0, .int .u64 0, .int .u64 0] 24)).alloc (.cells #[.nilIface] 34)).heap[w.heap.size + 1]? = some (.cells #[.nilIface] 34 (0, 0)) := by
    rw [show w.heap.size + 1 = (w.alloc (.cells #[.string ⟨#[]⟩, .int .u64 0, .int .u64 0, .int .u64 0, .int .u64 0] 24)).heap.size by simp]; exact heap_alloc_new _ _
  have HB0 := Lib.hid hb0
  have HZ0 := Lib.hid hz0
  have HX0 := Lib.hid hx0
  have HE0 := Lib.hid he0
  have HG := Lib.hid hG
  have HSL := Lib.hid hS
  have HGL := Lib.hid hgl
  have HU := Lib.hid (reader_c.new S 10240 _ (hG.u.next hb0) hS (by decide) (by decide))
  clear hb0 hz0 hx0 he0 hG hS hgl
  go_enter_defers Tryz.func45, Tryz.ntmps45
  go_upto_region 2 with fail
  generalize (w.alloc (.cells #[.string ⟨#[]⟩, .int .u64 0, .int .u64 0, .int .u64 0, .int .u64 0] 24)).alloc (.cells #[.nilIface] 34) = w1 at *
  go_upto_region 3 with (go_at_call 86; refine HU.out.mono ?_; rintro e w2 ⟨rb, hrb, rfl, hr2, hb2⟩)
  have hz0 := HZ0.out
  have hb02 : Below w.heap.size w w2 := HB0.out.trans (hb2.mono (by omega))
  have hx2 := (hb2.block w.heap.size (by omega)).trans HX0.out
  have he2 := (hb2.block (w.heap.size + 1) (by omega)).trans HE0.out
  have hrl : rb < w2.heap.size := lit_lt hr2.r
  have hN : (w2.alloc (.cells #[.pointer (some ⟨rb, 0, none⟩)] 158)).drew.heap[w2.heap.size]? = some (.cells #[.pointer (some ⟨rb, 0, none⟩)] 158 (0, 0)) := heap_alloc_new w2 _
  have hb23 : Below w2.heap.size w2 (w2.alloc (.cells #[.pointer (some ⟨rb, 0, none⟩)] 158)).drew := (by0 w2 _).drew
  have HS3 : Hid (w2.heap.size < (w2.alloc (.cells #[.pointer (some ⟨rb, 0, none⟩)] 158)).drew.heap.size) := Lib.hid (by show _ < (w2.alloc _).heap.size; rw [World.size_alloc]; omega)
  refine wp_cel (X := .pointer (some ⟨w.heap.size, 0, none⟩)) (Y := .pointer (some ⟨w.heap.size + 1, 0, none⟩)) (D := [{ target := .fn (.func 85) #[.pointer (some ⟨w.heap.size, 0, none⟩), .pointer (some ⟨w.heap.size + 1, 0, none⟩)], args := #[] }]) ?_
  refine wp_region_held_drew (S := fun w' => w'.heap[w2.heap.size]? = some (.cells #[.pointer (some ⟨rb, 0, none⟩)] 158 (0, 0))) (by kernel_rfl) hN (fun hH => ?_)
  generalize (w2.alloc (.cells #[.pointer (some ⟨rb, 0, none⟩)] 158)).drew = w3 at *
  have HR := Lib.hid (part_mk w3.heap.size w.heap.size 0 w3 (Nat.le_refl _))
  have HB03 := Lib.hid (hb02.trans (hb23.mono hb02.size))
  have HX3 := Lib.hid ((hb23.block w.heap.size (lit_lt hx2)).trans hx2)
  have HE3 := Lib.hid ((hb23.block (w.heap.size + 1) (lit_lt he2)).trans he2)
  have HR3 : Hid (RQ rb S 0 10240 w3) := Lib.hid ⟨(hb23.block rb hrl).trans hr2.r, hr2.m⟩
  have HRL : Hid (w.heap.size + 1 + 1 ≤ rb ∧ rb < w2.heap.size) := Lib.hid (by omega)
  clear hb02 hx2 he2 hb23 hN hr2 hb2 hrl
  refine wpAnyH_take (i := 0) (oi := ⟨some 12, .load 158 (.tmp 6), _, _, _, none⟩) (v := .agg #[.pointer (some ⟨rb, 0, none⟩)]) rfl (by kernel_rfl) (by kernel_rfl) (by kernel_rfl) (Cel.put (by decide)) (Or.inl ⟨by rfl, fun w1 hS => by have c0 := (lit_cell hS 0).trans rfl; go_simp⟩) hH ?_
  try simp only [Act.put, List.setIfInBounds_toArray, List.set_cons_succ, List.set_cons_zero]
  refine wpAnyH_take (i := 1) (oi := ⟨some 13, .move (.tmp 1), _, _, _, none⟩) (v := .func (.func 42) #[] #[]) rfl (by kernel_rfl) (by kernel_rfl) (by kernel_rfl) (Cel.put (by decide)) (Or.inl ⟨by rfl, fun _ _ => rfl⟩) hH ?_
  try simp only [Act.put, List.setIfInBounds_toArray, List.set_cons_succ, List.set_cons_zero]
  refine wpAnyH_ready (rs := [2]) (by kernel_rfl) (by simp) (AllReadyH.cons (o := ⟨some 14, .call ⟨.value (.tmp 13), #[.tmp 4], #[_]⟩, _, _, _, none⟩) rfl (fun K hK => ?_) AllReadyH.nil)
  have HK := Lib.hid hK
  clear hK
  go_simp
  refine HR.out.mono ?_
  rintro e w4 ⟨fb, fs, rfl, hK4, hb4⟩
  have hH4 := (hb4.block w2.heap.size (lit_lt hH)).trans hH
  obtain ⟨xs, hfs, hxn, hxg, hxf, hxfin⟩ := part_rd (S := S) (rb := rb) hK4 (by have := HRL.out; have := HS3.out; omega) (by have := HRL.out; omega) HSL.out
  have HB04 := Lib.hid (HB03.out.trans (hb4.mono HB03.out.size))
  have HX4 := Lib.hid ((hb4.block w.heap.size (lit_lt HX3.out)).trans HX3.out)
  have HE4 := Lib.hid ((hb4.block (w.heap.size + 1) (lit_lt HE3.out)).trans HE3.out)
  have HR4 : Hid (RQ rb S 0 10240 w4) := Lib.hid ⟨(hb4.block rb (by have := HRL.out; have := HS3.out; omega)).trans HR3.out.r, HR3.out.m⟩
  have hflds := part_flds
  have hGU4 := HG.out.u.next HB04.out
  have hrow := wrow_any w4 rb w.heap.size fb 0 5 S (RpPart w.heap.size) (fun p u u' h ho => (ho.block w.heap.size (lit_lt h) (by have := HRL.out; omega)).trans h) xs hxf zPart (by rw [hxg]; exact part_flds) 0 w4 (by have := HRL.out; have := HGL.out; omega) HSL.out (by rw [hxn]; decide) (by rw [← hfs]; exact hK4.r.row) (lit_lt hK4.r) (by have := hK4.l; have := HRL.out; have := HS3.out; omega) (by have := lit_lt HX4.out; exact this) ⟨Duo.refl _ _ _, hGU4, HX4.out, HR4.out, Nat.zero_le _⟩
  rw [hxg, mapG_congr part_flds hxfin, hxn, List.drop_zero] at hrow
  have HGU4 := Lib.hid hGU4
  have HROW := Lib.hid hrow
  clear hrow hfs hxn hxg hxf hxfin hK4 hb4 hflds hGU4
  refine HK.out.out _ _ hH4 (fun _ => ?_)
  clear HK K
  try simp only [Act.put, List.setIfInBounds_toArray, List.set_cons_succ, List.set_cons_zero]
  refine wpAnyH_ready (rs := [3]) (by kernel_rfl) (by simp) (AllReadyH.cons (o := ⟨some 15, .call ⟨.value (.func 87), #[.tmp 12, .tmp 14], #[158, 95]⟩, _, _, _, none⟩) rfl (fun K hK => ?_) AllReadyH.nil)
  have HK := Lib.hid hK
  clear hK
  go_simp
  refine HROW.out.mono ?_
  intro e w5 h5
  change Read rb w.heap.size S (RpPart w.heap.size) 0 w4.heap.size w4 (partC.get S 0) e w5 at h5
  cases hres : partC.get S 0 with
  | error f =>
    rw [hres] at h5
    obtain ⟨hc, ⟨g, hg, rfl, hf0, hf1⟩, hd, q, hq⟩ := h5
    refine ⟨⟨rfl, rfl, rfl⟩, fun tm hm4 hm5 => ?_⟩
    have hrb := HRL.out
    have hE5 := (hd.block (w.heap.size + 1) (lit_lt HE4.out) (by omega) (by omega)).trans HE4.out
    have hgl5 := World.block_lt_of_cell? _ _ hf0
    have hg4 := lit_lt HE4.out
    refine leaves_cons (f := 85) (args := #[.pointer (some ⟨w.heap.size, 0, none⟩), .pointer (some ⟨w.heap.size + 1, 0, none⟩)]) (by simp) (by simp [go_sem]) ?_
    refine (readPart1_catch g w.heap.size (w.heap.size + 1) _ _ _ _ _ .nilIface [] w5 (HGU4.out.duo hd (by have := HGL.out; omega) HGL.out).e hgl5 (by omega) hq hE5).mono ?_
    rintro e u' w'' ⟨rfl, rfl, hC⟩
    have z0 := (lit_cell hC.x 0).trans rfl; have z1 := (lit_cell hC.x 1).trans rfl; have z2 := (lit_cell hC.x 2).trans rfl; have z3 := (lit_cell hC.x 3).trans rfl; have z4 := (lit_cell hC.x 4).trans rfl
    have y0 := (lit_cell hC.e 0).trans rfl
    refine ⟨.tuple #[partV zPart, .iface 106 (.pointer (some ⟨g, 0, none⟩))], by simp [results, Tryz.results45, go_sem, hm4, hm5, z0, z1, z2, z3, z4, y0, zPart], ?_⟩
    have hgb : ∀ o, w''.cell? ⟨g, o, none⟩ = w5.cell? ⟨g, o, none⟩ := fun o => World.cell?_of_block (a := ⟨g, o, none⟩) (hC.d.block g hgl5 (by omega) (by omega))
    rw [AnsPart, wholeG, hres]
    exact ⟨hc, ⟨_, rfl, by rw [ErrV, if_neg (by omega)]; exact ⟨g, by omega, rfl, (hgb 0).trans hf0, (hgb 1).trans hf1⟩⟩, below_duo (below_duo HB04.out hd (by omega) (Nat.le_refl _)) hC.d (Nat.le_refl _) (by omega)⟩
  | ok q =>
    obtain ⟨q, k⟩ := q
    rw [hres] at h5
    obtain ⟨rfl, hq, hR5, hk, hd⟩ := h5
    have hrb := HRL.out
    have hg4 := lit_lt HE4.out
    have hH5 := (hd.block w2.heap.size (lit_lt hH4) (by omega) (by omega)).trans hH4
    refine HK.out.out _ _ hH5 (fun _ => ?_)
    clear HK K
    try simp only [Act.put, List.setIfInBounds_toArray, List.set_cons_succ, List.set_cons_zero]
    refine wpAnyH_done (by kernel_rfl) ?_ _
    change Exit.then _ (bodyPostD Tryz.prog Tryz.f45 (AnsPart S w)) Exit.normal _ _
    have hGU5 := HGU4.out.duo hd (by have := HGL.out; omega) HGL.out
    have HB05 := Lib.hid (below_duo HB04.out hd (by omega) (Nat.le_refl _))
    have hE5 := (hd.block (w.heap.size + 1) (lit_lt HE4.out) (by omega) (by omega)).trans HE4.out
    have HF := Lib.hid (reader_c.fin rb S (0 + k) 10240 w5 hR5 hGU5 HSL.out hk)
    have HQ := Lib.hid hq
    have HE5 := Lib.hid hE5
    have HGU5 := Lib.hid hGU5
    have HLT := Lib.hid (show w.heap.size + 1 < w5.heap.size from lit_lt hE5)
    have c0 := (lit_cell hH5 0).trans rfl
    clear hq hR5 hd hrb hg4 hH5 hGU5 hE5 hk hH hH4 hmf
    by_cases hl : 0 + k < S.length
    · have HA : Hid (wholeG partC.get S = .error (5, k)) := Lib.hid (by rw [wholeG, hres]; exact if_pos (by omega))
      rw [if_pos hl] at HF
      clear hl hres
      go_wp2_with (go_at_call 88; refine HF.out.mono ?_; rintro e w6 ⟨v, rfl, hv, hb6⟩; obtain ⟨g, rfl, g1, hg, hgg, hf0, hf1⟩ := hv.shape (by decide); cases hgg)
      have hX6 := (hb6.block w.heap.size (by have := HLT.out; omega)).trans HQ.out
      have hE6 := (hb6.block (w.heap.size + 1) HLT.out).trans HE5.out
      have hgl5 := World.block_lt_of_cell? _ _ hf0
      have hlt := HLT.out
      refine leaves_cons (f := 85) (args := #[.pointer (some ⟨w.heap.size, 0, none⟩), .pointer (some ⟨w.heap.size + 1, 0, none⟩)]) (by simp) (by simp [go_sem]) ?_
      refine (readPart1_catch g w.heap.size (w.heap.size + 1) _ _ _ _ _ .nilIface [] w6 (HGU5.out.next hb6).e hgl5 (by omega) hX6 hE6).mono ?_
      rintro e u' w'' ⟨rfl, rfl, hC⟩
      have z0 := (lit_cell hC.x 0).trans rfl; have z1 := (lit_cell hC.x 1).trans rfl; have z2 := (lit_cell hC.x 2).trans rfl; have z3 := (lit_cell hC.x 3).trans rfl; have z4 := (lit_cell hC.x 4).trans rfl
      have y0 := (lit_cell hC.e 0).trans rfl
      refine ⟨.tuple #[partV zPart, .iface 106 (.pointer (some ⟨g, 0, none⟩))], by simp [results, Tryz.results45, go_sem, z0, z1, z2, z3, z4, y0, zPart], ?_⟩
      have hgb : ∀ o, w''.cell? ⟨g, o, none⟩ = w6.cell? ⟨g, o, none⟩ := fun o => World.cell?_of_block (a := ⟨g, o, none⟩) (hC.d.block g hgl5 (by omega) (by omega))
      rw [AnsPart, HA.out]
      exact ⟨by decide, ⟨_, rfl, by rw [ErrV, if_neg (by decide)]; exact ⟨g, by omega, rfl, (hgb 0).trans hf0, (hgb 1).trans (hf1.trans (by rw [Nat.zero_add]))⟩⟩, below_duo (HB05.out.trans (hb6.mono (by omega))) hC.d (Nat.le_refl _) (by omega)⟩
    · have HA : Hid (wholeG partC.get S = .ok q) := Lib.hid (by rw [wholeG, hres]; exact if_neg (by omega))
      rw [if_neg hl] at HF
      clear hl hres
      go_wp2_with (go_at_call 88; refine HF.out.mono ?_; rintro e w6 ⟨v, rfl, hv, hb6⟩; have hnil := hv.nil rfl; subst hnil; have hX6 := (hb6.block w.heap.size (by have := HLT.out; omega)).trans HQ.out; have hE6 := (hb6.block (w.heap.size + 1) HLT.out).trans HE5.out; simp only [partQ] at hX6; have p0 := (lit_cell hX6 0).trans rfl; have q0 := lit_free hX6 0; have p1 := (lit_cell hX6 1).trans rfl; have q1 := lit_free hX6 1; have p2 := (lit_cell hX6 2).trans rfl; have q2 := lit_free hX6 2; have p3 := (lit_cell hX6 3).trans rfl; have q3 := lit_free hX6 3; have p4 := (lit_cell hX6 4).trans rfl; have q4 := lit_free hX6 4; have y0 := (lit_cell hE6 0).trans rfl; have y1 := lit_free hE6 0)
      have hlt := HLT.out
      have hx7 := lit_set (k := 4) (.int .u64 (q.keys : Int)) (lit_set (k := 3) (.int .u64 (q.life : Int)) (lit_set (k := 2) (.int .u64 (q.first : Int)) (lit_set (k := 1) (.int .u64 (q.weight : Int)) (lit_set (k := 0) (.string ⟨q.root.toArray⟩) (hX6)))))
      have ho7 : Only w.heap.size w6 ((((((w6).setCell ⟨w.heap.size, 0, none⟩ (.string ⟨q.root.toArray⟩)).setCell ⟨w.heap.size, 1, none⟩ (.int .u64 (q.weight : Int))).setCell ⟨w.heap.size, 2, none⟩ (.int .u64 (q.first : Int))).setCell ⟨w.heap.size, 3, none⟩ (.int .u64 (q.life : Int))).setCell ⟨w.heap.size, 4, none⟩ (.int .u64 (q.keys : Int))) := ((((((Only.refl w.heap.size w6).trans (Only.set w.heap.size 0 (.string ⟨q.root.toArray⟩) (w6))).trans (Only.set w.heap.size 1 (.int .u64 (q.weight : Int)) ((w6).setCell ⟨w.heap.size, 0, none⟩ (.string ⟨q.root.toArray⟩)))).trans (Only.set w.heap.size 2 (.int .u64 (q.first : Int)) (((w6).setCell ⟨w.heap.size, 0, none⟩ (.string ⟨q.root.toArray⟩)).setCell ⟨w.heap.size, 1, none⟩ (.int .u64 (q.weight : Int))))).trans (Only.set w.heap.size 3 (.int .u64 (q.life : Int)) ((((w6).setCell ⟨w.heap.size, 0, none⟩ (.string ⟨q.root.toArray⟩)).setCell ⟨w.heap.size, 1, none⟩ (.int .u64 (q.weight : Int))).setCell ⟨w.heap.size, 2, none⟩ (.int .u64 (q.first : Int))))).trans (Only.set w.heap.size 4 (.int .u64 (q.keys : Int)) (((((w6).setCell ⟨w.heap.size, 0, none⟩ (.string ⟨q.root.toArray⟩)).setCell ⟨w.heap.size, 1, none⟩ (.int .u64 (q.weight : Int))).setCell ⟨w.heap.size, 2, none⟩ (.int .u64 (q.first : Int))).setCell ⟨w.heap.size, 3, none⟩ (.int .u64 (q.life : Int)))))
      have he7 := (ho7.block (w.heap.size + 1) (lit_lt hE6) (by omega)).trans hE6
      have hd7 : Below w.heap.size w ((((((w6).setCell ⟨w.heap.size, 0, none⟩ (.string ⟨q.root.toArray⟩)).setCell ⟨w.heap.size, 1, none⟩ (.int .u64 (q.weight : Int))).setCell ⟨w.heap.size, 2, none⟩ (.int .u64 (q.first : Int))).setCell ⟨w.heap.size, 3, none⟩ (.int .u64 (q.life : Int))).setCell ⟨w.heap.size, 4, none⟩ (.int .u64 (q.keys : Int))) := below_duo (HB05.out.trans (hb6.mono (by omega))) (Duo.only (x := w.heap.size) ho7) (Nat.le_refl _) (Nat.le_refl _)
      generalize (((((w6).setCell ⟨w.heap.size, 0, none⟩ (.string ⟨q.root.toArray⟩)).setCell ⟨w.heap.size, 1, none⟩ (.int .u64 (q.weight : Int))).setCell ⟨w.heap.size, 2, none⟩ (.int .u64 (q.first : Int))).setCell ⟨w.heap.size, 3, none⟩ (.int .u64 (q.life : Int))).setCell ⟨w.heap.size, 4, none⟩ (.int .u64 (q.keys : Int)) = w7 at *
      have hx8 := (lit_far (w := w7) (b := w.heap.size + 1) (c := w.heap.size) (k := 0) .nilIface (by omega)).trans hx7
      have he8 := lit_set (k := 0) .nilIface he7
      have hb8 : Below w.heap.size w (w7.setCell ⟨w.heap.size + 1, 0, none⟩ .nilIface) := hd7.setCell (by simp) _
      generalize w7.setCell ⟨w.heap.size + 1, 0, none⟩ .nilIface = w8 at *
      refine leaves_cons (f := 85) (args := #[.pointer (some ⟨w.heap.size, 0, none⟩), .pointer (some ⟨w.heap.size + 1, 0, none⟩)]) (by simp) (by simp [go_sem]) ?_
      refine (readPart1_idle w.heap.size (w.heap.size + 1) w8).mono ?_
      rintro e u' w'' ⟨rfl, rfl, rfl⟩
      have z0 := (lit_cell hx8 0).trans rfl; have z1 := (lit_cell hx8 1).trans rfl; have z2 := (lit_cell hx8 2).trans rfl; have z3 := (lit_cell hx8 3).trans rfl; have z4 := (lit_cell hx8 4).trans rfl
      have z := (lit_cell he8 0).trans rfl
      refine ⟨.tuple #[partV q, .nilIface], by simp [results, Tryz.results45, go_sem, z0, z1, z2, z3, z4, z], ?_⟩
      rw [AnsPart, HA.out]
      exact ⟨rfl, hb8⟩

/-- what read answers -/
def AnsMsg (S : (List UInt8)) (w : World) (e : Ending) (w' : World) : Prop := match wholeG msgC.get S with
  | .ok p => e = .returned (.tuple #[msgV p, .nilIface]) ∧ Below w.heap.size w w'
  | .error (c, b) => c ≠ 0 ∧ (∃ v, e = .returned (.tuple #[msgV zMsg, v]) ∧ ErrV w.heap.size c b v w') ∧ Below w.heap.size w w'
set_option maxRecDepth 100000 in
set_option maxHeartbeats 4000000 in
theorem freadMsg_any (S : (List UInt8)) (w : World) (hG : GlobW w) (hS : S.length ≤ 1000000) (hgl : 4 ≤ w.heap.size) :
    Calls Tryz.prog 72 #[.string ⟨S.toArray⟩, .func (.func 70) #[] #[]] w (AnsMsg S w) := by
  have hmf : ∀ (fn : Fn) (first cap : Array Value) (w : World), (Instr.makeFunc fn first cap).run Tryz.prog w = .ok (.func fn first cap) w := fun _ _ _ _ => rfl
  have hb0 : Below w.heap.size w ((w.alloc (.cells #[.string ⟨#[]⟩, .string ⟨#[]⟩, .int .u64 0, .int .u64 0, .int .u64 0, .int .u64 0] 70)).alloc (.cells #[.nilIface] 34)) := (by0 w _).alloc (by simp) _
  have hz0 : ((w.alloc (.cells #[.string ⟨#[]⟩, .string ⟨#[]⟩, .int .u64 0, .int .u64 0, .int .u64 0, .int .u64 0] 70)).alloc (.cells #[.nilIface] 34)).heap.size = w.heap.size + 1 + 1 := by simp
  have hx0 : ((w.alloc (.cells #[.string ⟨#[]⟩, .string ⟨#[]⟩, .int .u64 0, .int .u64 0, .int .u64 0, .int .u64 0] 70)).alloc (.cells #[.nilIface] 34)).heap[w.heap.size]? = some (.cells #[.string ⟨#[]⟩, .string ⟨#[]⟩, .int .u64 0, .int .u64 0, .int .u64 0, .int .u64 0] 70 (0, 0)) := lit_old _ (heap_alloc_new w _)
  have he0 : ((w.alloc (.cells #[.string ⟨#[]⟩, .string ⟨#[]⟩, .int .u64 0, .int .u64 0, .int .u64 0, .int .u64 0] 70)).alloc (.cells #[.nilIface] 34)).heap[w.heap.size + 1]? = some (.cells #[.nilIface] 34 (0, 0)) := by
    rw [show w.heap.size + 1 = (w.alloc (.cells #[.string ⟨#[]⟩, .string ⟨#[]⟩, .int .u64 0, .int .u64 0, .int .u64 0, .int .u64 0] 70)).heap.size by simp]; exact heap_alloc_new _ _
  have HB0 := Lib.hid hb0
  have HZ0 := Lib.hid hz0
  have HX0 := Lib.hid hx0
  have HE0 := Lib.hid he0
  have HG := Lib.hid hG
  have HSL := Lib.hid hS
  have HGL := Lib.hid hgl
  have HU := Lib.hid (reader_c.new S 10240 _ (hG.u.next hb0) hS (by decide) (by decide))
  clear hb0 hz0 hx0 he0 hG hS hgl
  go_enter_defers Tryz.func72, Tryz.ntmps72
  go_upto_region 2 with fail
  generalize (w.alloc (.cells #[.string ⟨#[]⟩, .string ⟨#[]⟩, .int .u64 0, .int .u64 0, .int .u64 0, .int .u64 0] 70)).alloc (.cells #[.nilIface] 34) = w1 at *
  go_upto_region 3 with (go_at_call 86; refine HU.out.mono ?_; rintro e w2 ⟨rb, hrb, rfl, hr2, hb2⟩)
  have hz0 := HZ0.out
  have hb02 : Below w.heap.size w w2 := HB0.out.trans (hb2.mono (by omega))
  have hx2 := (hb2.block w.heap.size (by omega)).trans HX0.out
  have he2 := (hb2.block (w.heap.size + 1) (by omega)).trans HE0.out
  have hrl : rb < w2.heap.size := lit_lt hr2.r
  have hN : (w2.alloc (.cells #[.pointer (some ⟨rb, 0, none⟩)] 158)).drew.heap[w2.heap.size]? = some (.cells #[.pointer (some ⟨rb, 0, none⟩)] 158 (0, 0)) := heap_alloc_new w2 _
  have hb23 : Below w2.heap.size w2 (w2.alloc (.cells #[.pointer (some ⟨rb, 0, none⟩)] 158)).drew := (by0 w2 _).drew
  have HS3 : Hid (w2.heap.size < (w2.alloc (.cells #[.pointer (some ⟨rb, 0, none⟩)] 158)).drew.heap.size) := Lib.hid (by show _ < (w2.alloc _).heap.size; rw [World.size_alloc]; omega)
  refine wp_cel (X := .pointer (some ⟨w.heap.size, 0, none⟩)) (Y := .pointer (some ⟨w.heap.size + 1, 0, none⟩)) (D := [{ target := .fn (.func 120) #[.pointer (some ⟨w.heap.size, 0, none⟩), .pointer (some ⟨w.heap.size + 1, 0, none⟩)], args := #[] }]) ?_
  refine wp_region_held_drew (S := fun w' => w'.heap[w2.heap.size]? = some (.cells #[.pointer (some ⟨rb, 0, none⟩)] 158 (0, 0))) (by kernel_rfl) hN (fun hH => ?_)
  generalize (w2.alloc (.cells #[.pointer (some ⟨rb, 0, none⟩)] 158)).drew = w3 at *
  have HR := Lib.hid (msg_mk w3.heap.size w.heap.size 0 w3 (Nat.le_refl _))
  have HB03 := Lib.hid (hb02.trans (hb23.mono hb02.size))
  have HX3 := Lib.hid ((hb23.block w.heap.size (lit_lt hx2)).trans hx2)
  have HE3 := Lib.hid ((hb23.block (w.heap.size + 1) (lit_lt he2)).trans he2)
  have HR3 : Hid (RQ rb S 0 10240 w3) := Lib.hid ⟨(hb23.block rb hrl).trans hr2.r, hr2.m⟩
  have HRL : Hid (w.heap.size + 1 + 1 ≤ rb ∧ rb < w2.heap.size) := Lib.hid (by omega)
  clear hb02 hx2 he2 hb23 hN hr2 hb2 hrl
  refine wpAnyH_take (i := 0) (oi := ⟨some 12, .load 158 (.tmp 6), _, _, _, none⟩) (v := .agg #[.pointer (some ⟨rb, 0, none⟩)]) rfl (by kernel_rfl) (by kernel_rfl) (by kernel_rfl) (Cel.put (by decide)) (Or.inl ⟨by rfl, fun w1 hS => by have c0 := (lit_cell hS 0).trans rfl; go_simp⟩) hH ?_
  try simp only [Act.put, List.setIfInBounds_toArray, List.set_cons_succ, List.set_cons_zero]
  refine wpAnyH_take (i := 1) (oi := ⟨some 13, .move (.tmp 1), _, _, _, none⟩) (v := .func (.func 70) #[] #[]) rfl (by kernel_rfl) (by kernel_rfl) (by kernel_rfl) (Cel.put (by decide)) (Or.inl ⟨by rfl, fun _ _ => rfl⟩) hH ?_
  try simp only [Act.put, List.setIfInBounds_toArray, List.set_cons_succ, List.set_cons_zero]
  refine wpAnyH_ready (rs := [2]) (by kernel_rfl) (by simp) (AllReadyH.cons (o := ⟨some 14, .call ⟨.value (.tmp 13), #[.tmp 4], #[_]⟩, _, _, _, none⟩) rfl (fun K hK => ?_) AllReadyH.nil)
  have HK := Lib.hid hK
  clear hK
  go_simp
  refine HR.out.mono ?_
  rintro e w4 ⟨fb, fs, rfl, hK4, hb4⟩
  have hH4 := (hb4.block w2.heap.size (lit_lt hH)).trans hH
  obtain ⟨xs, hfs, hxn, hxg, hxf, hxfin⟩ := msg_rd (S := S) (rb := rb) hK4 (by have := HRL.out; have := HS3.out; omega) (by have := HRL.out; omega) HSL.out
  have HB04 := Lib.hid (HB03.out.trans (hb4.mono HB03.out.size))
  have HX4 := Lib.hid ((hb4.block w.heap.size (lit_lt HX3.out)).trans HX3.out)
  have HE4 := Lib.hid ((hb4.block (w.heap.size + 1) (lit_lt HE3.out)).trans HE3.out)
  have HR4 : Hid (RQ rb S 0 10240 w4) := Lib.hid ⟨(hb4.block rb (by have := HRL.out; have := HS3.out; omega)).trans HR3.out.r, HR3.out.m⟩
  have hflds := msg_flds
  have hGU4 := HG.out.u.next HB04.out
  have hrow := wrow_any w4 rb w.heap.size fb 0 6 S (RpMsg w.heap.size) (fun p u u' h ho => (ho.block w.heap.size (lit_lt h) (by have := HRL.out; omega)).trans h) xs hxf zMsg (by rw [hxg]; exact msg_flds) 0 w4 (by have := HRL.out; have := HGL.out; omega) HSL.out (by rw [hxn]; decide) (by rw [← hfs]; exact hK4.r.row) (lit_lt hK4.r) (by have := hK4.l; have := HRL.out; have := HS3.out; omega) (by have := lit_lt HX4.out; exact this) ⟨Duo.refl _ _ _, hGU4, HX4.out, HR4.out, Nat.zero_le _⟩
  rw [hxg, mapG_congr msg_flds hxfin, hxn, List.drop_zero] at hrow
  have HGU4 := Lib.hid hGU4
  have HROW := Lib.hid hrow
  clear hrow hfs hxn hxg hxf hxfin hK4 hb4 hflds hGU4
  refine HK.out.out _ _ hH4 (fun _ => ?_)
  clear HK K
  try simp only [Act.put, List.setIfInBounds_toArray, List.set_cons_succ, List.set_cons_zero]
  refine wpAnyH_ready (rs := [3]) (by kernel_rfl) (by simp) (AllReadyH.cons (o := ⟨some 15, .call ⟨.value (.func 87), #[.tmp 12, .tmp 14], #[158, 95]⟩, _, _, _, none⟩) rfl (fun K hK => ?_) AllReadyH.nil)
  have HK := Lib.hid hK
  clear hK
  go_simp
  refine HROW.out.mono ?_
  intro e w5 h5
  change Read rb w.heap.size S (RpMsg w.heap.size) 0 w4.heap.size w4 (msgC.get S 0) e w5 at h5
  cases hres : msgC.get S 0 with
  | error f =>
    rw [hres] at h5
    obtain ⟨hc, ⟨g, hg, rfl, hf0, hf1⟩, hd, q, hq⟩ := h5
    refine ⟨⟨rfl, rfl, rfl⟩, fun tm hm4 hm5 => ?_⟩
    have hrb := HRL.out
    have hE5 := (hd.block (w.heap.size + 1) (lit_lt HE4.out) (by omega) (by omega)).trans HE4.out
    have hgl5 := World.block_lt_of_cell? _ _ hf0
    have hg4 := lit_lt HE4.out
    refine leaves_cons (f := 120) (args := #[.pointer (some ⟨w.heap.size, 0, none⟩), .pointer (some ⟨w.heap.size + 1, 0, none⟩)]) (by simp) (by simp [go_sem]) ?_
    refine (readMsg1_catch g w.heap.size (w.heap.size + 1) _ _ _ _ _ _ .nilIface [] w5 (HGU4.out.duo hd (by have := HGL.out; omega) HGL.out).e hgl5 (by omega) hq hE5).mono ?_
    rintro e u' w'' ⟨rfl, rfl, hC⟩
    have z0 := (lit_cell hC.x 0).trans rfl; have z1 := (lit_cell hC.x 1).trans rfl; have z2 := (lit_cell hC.x 2).trans rfl; have z3 := (lit_cell hC.x 3).trans rfl; have z4 := (lit_cell hC.x 4).trans rfl; have z5 := (lit_cell hC.x 5).trans rfl
    have y0 := (lit_cell hC.e 0).trans rfl
    refine ⟨.tuple #[msgV zMsg, .iface 106 (.pointer (some ⟨g, 0, none⟩))], by simp [results, Tryz.results72, go_sem, hm4, hm5, z0, z1, z2, z3, z4, z5, y0, zMsg], ?_⟩
    have hgb : ∀ o, w''.cell? ⟨g, o, none⟩ = w5.cell? ⟨g, o, none⟩ := fun o => World.cell?_of_block (a := ⟨g, o, none⟩) (hC.d.block g hgl5 (by omega) (by omega))
    rw [AnsMsg, wholeG, hres]
    exact ⟨hc, ⟨_, rfl, by rw [ErrV, if_neg (by omega)]; exact ⟨g, by omega, rfl, (hgb 0).trans hf0, (hgb 1).trans hf1⟩⟩, below_duo (below_duo HB04.out hd (by omega) (Nat.le_refl _)) hC.d (Nat.le_refl _) (by omega)⟩
  | ok q =>
    obtain ⟨q, k⟩ := q
    rw [hres] at h5
    obtain ⟨rfl, hq, hR5, hk, hd⟩ := h5
    have hrb := HRL.out
    have hg4 := lit_lt HE4.out
    have hH5 := (hd.block w2.heap.size (lit_lt hH4) (by omega) (by omega)).trans hH4
    refine HK.out.out _ _ hH5 (fun _ => ?_)
    clear HK K
    try simp only [Act.put, List.setIfInBounds_toArray, List.set_cons_succ, List.set_cons_zero]
    refine wpAnyH_done (by kernel_rfl) ?_ _
    change Exit.then _ (bodyPostD Tryz.prog Tryz.f72 (AnsMsg S w)) Exit.normal _ _
    have hGU5 := HGU4.out.duo hd (by have := HGL.out; omega) HGL.out
    have HB05 := Lib.hid (below_duo HB04.out hd (by omega) (Nat.le_refl _))
    have hE5 := (hd.block (w.heap.size + 1) (lit_lt HE4.out) (by omega) (by omega)).trans HE4.out
    have HF := Lib.hid (reader_c.fin rb S (0 + k) 10240 w5 hR5 hGU5 HSL.out hk)
    have HQ := Lib.hid hq
    have HE5 := Lib.hid hE5
    have HGU5 := Lib.hid hGU5
    have HLT := Lib.hid (show w.heap.size + 1 < w5.heap.size from lit_lt hE5)
    have c0 := (lit_cell hH5 0).trans rfl
    clear hq hR5 hd hrb hg4 hH5 hGU5 hE5 hk hH hH4 hmf
    by_cases hl : 0 + k < S.length
    · have HA : Hid (wholeG msgC.get S = .error (5, k)) := Lib.hid (by rw [wholeG, hres]; exact if_pos (by omega))
      rw [if_pos hl] at HF
      clear hl hres
      go_wp2_with (go_at_call 88; refine HF.out.mono ?_; rintro e w6 ⟨v, rfl, hv, hb6⟩; obtain ⟨g, rfl, g1, hg, hgg, hf0, hf1⟩ := hv.shape (by decide); cases hgg)
      have hX6 := (hb6.block w.heap.size (by have := HLT.out; omega)).trans HQ.out
      have hE6 := (hb6.block (w.heap.size + 1) HLT.out).trans HE5.out
      have hgl5 := World.block_lt_of_cell? _ _ hf0
      have hlt := HLT.out
      refine leaves_cons (f := 120) (args := #[.pointer (some ⟨w.heap.size, 0, none⟩), .pointer (some ⟨w.heap.size + 1, 0, none⟩)]) (by simp) (by simp [go_sem]) ?_
      refine (readMsg1_catch g w.heap.size (w.heap.size + 1) _ _ _ _ _ _ .nilIface [] w6 (HGU5.out.next hb6).e hgl5 (by omega) hX6 hE6).mono ?_
      rintro e u' w'' ⟨rfl, rfl, hC⟩
      have z0 := (lit_cell hC.x 0).trans rfl; have z1 := (lit_cell hC.x 1).trans rfl; have z2 := (lit_cell hC.x 2).trans rfl; have z3 := (lit_cell hC.x 3).trans rfl; have z4 := (lit_cell hC.x 4).trans rfl; have z5 := (lit_cell hC.x 5).trans rfl
      have y0 := (lit_cell hC.e 0).trans rfl
      refine ⟨.tuple #[msgV zMsg, .iface 106 (.pointer (some ⟨g, 0, none⟩))], by simp [results, Tryz.results72, go_sem, z0, z1, z2, z3, z4, z5, y0, zMsg], ?_⟩
      have hgb : ∀ o, w''.cell? ⟨g, o, none⟩ = w6.cell? ⟨g, o, none⟩ := fun o => World.cell?_of_block (a := ⟨g, o, none⟩) (hC.d.block g hgl5 (by omega) (by omega))
      rw [AnsMsg, HA.out]
      exact ⟨by decide, ⟨_, rfl, by rw [ErrV, if_neg (by decide)]; exact ⟨g, by omega, rfl, (hgb 0).trans hf0, (hgb 1).trans (hf1.trans (by rw [Nat.zero_add]))⟩⟩, below_duo (HB05.out.trans (hb6.mono (by omega))) hC.d (Nat.le_refl _) (by omega)⟩
    · have HA : Hid (wholeG msgC.get S = .ok q) := Lib.hid (by rw [wholeG, hres]; exact if_neg (by omega))
      rw [if_neg hl] at HF
      clear hl hres
      go_wp2_with (go_at_call 88; refine HF.out.mono ?_; rintro e w6 ⟨v, rfl, hv, hb6⟩; have hnil := hv.nil rfl; subst hnil; have hX6 := (hb6.block w.heap.size (by have := HLT.out; omega)).trans HQ.out; have hE6 := (hb6.block (w.heap.size + 1) HLT.out).trans HE5.out; simp only [msgQ] at hX6; have p0 := (lit_cell hX6 0).trans rfl; have q0 := lit_free hX6 0; have p1 := (lit_cell hX6 1).trans rfl; have q1 := lit_free hX6 1; have p2 := (lit_cell hX6 2).trans rfl; have q2 := lit_free hX6 2; have p3 := (lit_cell hX6 3).trans rfl; have q3 := lit_free hX6 3; have p4 := (lit_cell hX6 4).trans rfl; have q4 := lit_free hX6 4; have p5 := (lit_cell hX6 5).trans rfl; have q5 := lit_free hX6 5; have y0 := (lit_cell hE6 0).trans rfl; have y1 := lit_free hE6 0)
      have hlt := HLT.out
      have hx7 := lit_set (k := 5) (.int .u64 (q.last : Int)) (lit_set (k := 4) (.int .u64 (q.first : Int)) (lit_set (k := 3) (.int .u64 (q.proven : Int)) (lit_set (k := 2) (.int .u64 (q.count : Int)) (lit_set (k := 1) (.string ⟨q.parts.toArray⟩) (lit_set (k := 0) (.string ⟨q.headers.toArray⟩) (hX6))))))
      have ho7 : Only w.heap.size w6 (((((((w6).setCell ⟨w.heap.size, 0, none⟩ (.string ⟨q.headers.toArray⟩)).setCell ⟨w.heap.size, 1, none⟩ (.string ⟨q.parts.toArray⟩)).setCell ⟨w.heap.size, 2, none⟩ (.int .u64 (q.count : Int))).setCell ⟨w.heap.size, 3, none⟩ (.int .u64 (q.proven : Int))).setCell ⟨w.heap.size, 4, none⟩ (.int .u64 (q.first : Int))).setCell ⟨w.heap.size, 5, none⟩ (.int .u64 (q.last : Int))) := (((((((Only.refl w.heap.size w6).trans (Only.set w.heap.size 0 (.string ⟨q.headers.toArray⟩) (w6))).trans (Only.set w.heap.size 1 (.string ⟨q.parts.toArray⟩) ((w6).setCell ⟨w.heap.size, 0, none⟩ (.string ⟨q.headers.toArray⟩)))).trans (Only.set w.heap.size 2 (.int .u64 (q.count : Int)) (((w6).setCell ⟨w.heap.size, 0, none⟩ (.string ⟨q.headers.toArray⟩)).setCell ⟨w.heap.size, 1, none⟩ (.string ⟨q.parts.toArray⟩)))).trans (Only.set w.heap.size 3 (.int .u64 (q.proven : Int)) ((((w6).setCell ⟨w.heap.size, 0, none⟩ (.string ⟨q.headers.toArray⟩)).setCell ⟨w.heap.size, 1, none⟩ (.string ⟨q.parts.toArray⟩)).setCell ⟨w.heap.size, 2, none⟩ (.int .u64 (q.count : Int))))).trans (Only.set w.heap.size 4 (.int .u64 (q.first : Int)) (((((w6).setCell ⟨w.heap.size, 0, none⟩ (.string ⟨q.headers.toArray⟩)).setCell ⟨w.heap.size, 1, none⟩ (.string ⟨q.parts.toArray⟩)).setCell ⟨w.heap.size, 2, none⟩ (.int .u64 (q.count : Int))).setCell ⟨w.heap.size, 3, none⟩ (.int .u64 (q.proven : Int))))).trans (Only.set w.heap.size 5 (.int .u64 (q.last : Int)) ((((((w6).setCell ⟨w.heap.size, 0, none⟩ (.string ⟨q.headers.toArray⟩)).setCell ⟨w.heap.size, 1, none⟩ (.string ⟨q.parts.toArray⟩)).setCell ⟨w.heap.size, 2, none⟩ (.int .u64 (q.count : Int))).setCell ⟨w.heap.size, 3, none⟩ (.int .u64 (q.proven : Int))).setCell ⟨w.heap.size, 4, none⟩ (.int .u64 (q.first : Int)))))
      have he7 := (ho7.block (w.heap.size + 1) (lit_lt hE6) (by omega)).trans hE6
      have hd7 : Below w.heap.size w (((((((w6).setCell ⟨w.heap.size, 0, none⟩ (.string ⟨q.headers.toArray⟩)).setCell ⟨w.heap.size, 1, none⟩ (.string ⟨q.parts.toArray⟩)).setCell ⟨w.heap.size, 2, none⟩ (.int .u64 (q.count : Int))).setCell ⟨w.heap.size, 3, none⟩ (.int .u64 (q.proven : Int))).setCell ⟨w.heap.size, 4, none⟩ (.int .u64 (q.first : Int))).setCell ⟨w.heap.size, 5, none⟩ (.int .u64 (q.last : Int))) := below_duo (HB05.out.trans (hb6.mono (by omega))) (Duo.only (x := w.heap.size) ho7) (Nat.le_refl _) (Nat.le_refl _)
      generalize ((((((w6).setCell ⟨w.heap.size, 0, none⟩ (.string ⟨q.headers.toArray⟩)).setCell ⟨w.heap.size, 1, none⟩ (.string ⟨q.parts.toArray⟩)).setCell ⟨w.heap.size, 2, none⟩ (.int .u64 (q.count : Int))).setCell ⟨w.heap.size, 3, none⟩ (.int .u64 (q.proven : Int))).setCell ⟨w.heap.size, 4, none⟩ (.int .u64 (q.first : Int))).setCell ⟨w.heap.size, 5, none⟩ (.int .u64 (q.last : Int)) = w7 at *
      have hx8 := (lit_far (w := w7) (b := w.heap.size + 1) (c := w.heap.size) (k := 0) .nilIface (by omega)).trans hx7
      have he8 := lit_set (k := 0) .nilIface he7
      have hb8 : Below w.heap.size w (w7.setCell ⟨w.heap.size + 1, 0, none⟩ .nilIface) := hd7.setCell (by simp) _
      generalize w7.setCell ⟨w.heap.size + 1, 0, none⟩ .nilIface = w8 at *
      refine leaves_cons (f := 120) (args := #[.pointer (some ⟨w.heap.size, 0, none⟩), .pointer (some ⟨w.heap.size + 1, 0, none⟩)]) (by simp) (by simp [go_sem]) ?_
      refine (readMsg1_idle w.heap.size (w.heap.size + 1) w8).mono ?_
      rintro e u' w'' ⟨rfl, rfl, rfl⟩
      have z0 := (lit_cell hx8 0).trans rfl; have z1 := (lit_cell hx8 1).trans rfl; have z2 := (lit_cell hx8 2).trans rfl; have z3 := (lit_cell hx8 3).trans rfl; have z4 := (lit_cell hx8 4).trans rfl; have z5 := (lit_cell hx8 5).trans rfl
      have z := (lit_cell he8 0).trans rfl
      refine ⟨.tuple #[msgV q, .nilIface], by simp [results, Tryz.results72, go_sem, z0, z1, z2, z3, z4, z5, z], ?_⟩
      rw [AnsMsg, HA.out]
      exact ⟨rfl, hb8⟩

/-- what read answers -/
def AnsHeader (S : (List UInt8)) (w : World) (e : Ending) (w' : World) : Prop := match wholeG hdrC.get S with
  | .ok p => e = .returned (.tuple #[hdrV p, .nilIface]) ∧ Below w.heap.size w w'
  | .error (c, b) => c ≠ 0 ∧ (∃ v, e = .returned (.tuple #[hdrV zHdr, v]) ∧ ErrV w.heap.size c b v w') ∧ Below w.heap.size w w'
set_option maxRecDepth 100000 in
set_option maxHeartbeats 4000000 in
theorem freadHeader_any (S : (List UInt8)) (w : World) (hG : GlobW w) (hS : S.length ≤ 1000000) (hgl : 4 ≤ w.heap.size) :
    Calls Tryz.prog 74 #[.string ⟨S.toArray⟩, .func (.func 71) #[] #[]] w (AnsHeader S w) := by
  have hmf : ∀ (fn : Fn) (first cap : Array Value) (w : World), (Instr.makeFunc fn first cap).run Tryz.prog w = .ok (.func fn first cap) w := fun _ _ _ _ => rfl
  have hb0 : Below w.heap.size w ((w.alloc (.cells #[.int .u64 0, .string ⟨#[]⟩, .string ⟨#[]⟩, .string ⟨#[]⟩] 72)).alloc (.cells #[.nilIface] 34)) := (by0 w _).alloc (by simp) _
  have hz0 : ((w.alloc (.cells #[.int .u64 0, .string ⟨#[]⟩, .string ⟨#[]⟩, .string ⟨#[]⟩] 72)).alloc (.cells #[.nilIface] 34)).heap.size = w.heap.size + 1 + 1 := by simp
  have hx0 : ((w.alloc (.cells #[.int .u64 0, .string ⟨#[]⟩, .string ⟨#[]⟩, .string ⟨#[]⟩] 72)).alloc (.cells #[.nilIface] 34)).heap[w.heap.size]? = some (.cells #[.int .u64 0, .string ⟨#[]⟩, .string ⟨#[]⟩, .string ⟨#[]⟩] 72 (0, 0)) := lit_old _ (heap_alloc_new w _)
  have he0 : ((w.alloc (.cells #[.int .u64 0, .string ⟨#[]⟩, .string ⟨#[]⟩, .string ⟨#[]⟩] 72)).alloc (.cells #[.nilIface] 34)).heap[w.heap.size + 1]? = some (.cells #[.nilIface] 34 (0, 0)) := by
    rw [show w.heap.size + 1 = (w.alloc (.cells #[.int .u64 0, .string ⟨#[]⟩, .string ⟨#[]⟩, .string ⟨#[]⟩] 72)).heap.size by simp]; exact heap_alloc_new _ _
  have HB0 := Lib.hid hb0
  have HZ0 := Lib.hid hz0
  have HX0 := Lib.hid hx0
  have HE0 := Lib.hid he0
  have HG := Lib.hid hG
  have HSL := Lib.hid hS
  have HGL := Lib.hid hgl
  have HU := Lib.hid (reader_c.new S 10240 _ (hG.u.next hb0) hS (by decide) (by decide))
  clear hb0 hz0 hx0 he0 hG hS hgl
  go_enter_defers Tryz.func74, Tryz.ntmps74
  go_upto_region 2 with fail
  generalize (w.alloc (.cells #[.int .u64 0, .string ⟨#[]⟩, .string ⟨#[]⟩, .string ⟨#[]⟩] 72)).alloc (.cells #[.nilIface] 34) = w1 at *
  go_upto_region 3 with (go_at_call 86; refine HU.out.mono ?_; rintro e w2 ⟨rb, hrb, rfl, hr2, hb2⟩)
  have hz0 := HZ0.out
  have hb02 : Below w.heap.size w w2 := HB0.out.trans (hb2.mono (by omega))
  have hx2 := (hb2.block w.heap.size (by omega)).trans HX0.out
  have he2 := (hb2.block (w.heap.size + 1) (by omega)).trans HE0.out
  have hrl : rb < w2.heap.size := lit_lt hr2.r
  have hN : (w2.alloc (.cells #[.pointer (some ⟨rb, 0, none⟩)] 158)).drew.heap[w2.heap.size]? = some (.cells #[.pointer (some ⟨rb, 0, none⟩)] 158 (0, 0)) := heap_alloc_new w2 _
  have hb23 : Below w2.heap.size w2 (w2.alloc (.cells #[.pointer (some ⟨rb, 0, none⟩)] 158)).drew := (by0 w2 _).drew
  have HS3 : Hid (w2.heap.size < (w2.alloc (.cells #[.pointer (some ⟨rb, 0, none⟩)] 158)).drew.heap.size) := Lib.hid (by show _ < (w2.alloc _).heap.size; rw [World.size_alloc]; omega)
  refine wp_cel (X := .pointer (some ⟨w.heap.size, 0, none⟩)) (Y := .pointer (some ⟨w.heap.size + 1, 0, none⟩)) (D := [{ target := .fn (.func 121) #[.pointer (some ⟨w.heap.size, 0, none⟩), .pointer (some ⟨w.heap.size + 1, 0, none⟩)], args := #[] }]) ?_
  refine wp_region_held_drew (S := fun w' => w'.heap[w2.heap.size]? = some (.cells #[.pointer (some ⟨rb, 0, none⟩)] 158 (0, 0))) (by kernel_rfl) hN (fun hH => ?_)
  generalize (w2.alloc (.cells #[.pointer (some ⟨rb, 0, none⟩)] 158)).drew = w3 at *
  have HR := Lib.hid (hdr_mk w3.heap.size w.heap.size 0 w3 (Nat.le_refl _))
  have HB03 := Lib.hid (hb02.trans (hb23.mono hb02.size))
  have HX3 := Lib.hid ((hb23.block w.heap.size (lit_lt hx2)).trans hx2)
  have HE3 := Lib.hid ((hb23.block (w.heap.size + 1) (lit_lt he2)).trans he2)
  have HR3 : Hid (RQ rb S 0 10240 w3) := Lib.hid ⟨(hb23.block rb hrl).trans hr2.r, hr2.m⟩
  have HRL : Hid (w.heap.size + 1 + 1 ≤ rb ∧ rb < w2.heap.size) := Lib.hid (by omega)
  clear hb02 hx2 he2 hb23 hN hr2 hb2 hrl
  refine wpAnyH_take (i := 0) (oi := ⟨some 12, .load 158 (.tmp 6), _, _, _, none⟩) (v := .agg #[.pointer (some ⟨rb, 0, none⟩)]) rfl (by kernel_rfl) (by kernel_rfl) (by kernel_rfl) (Cel.put (by decide)) (Or.inl ⟨by rfl, fun w1 hS => by have c0 := (lit_cell hS 0).trans rfl; go_simp⟩) hH ?_
  try simp only [Act.put, List.setIfInBounds_toArray, List.set_cons_succ, List.set_cons_zero]
  refine wpAnyH_take (i := 1) (oi := ⟨some 13, .move (.tmp 1), _, _, _, none⟩) (v := .func (.func 71) #[] #[]) rfl (by kernel_rfl) (by kernel_rfl) (by kernel_rfl) (Cel.put (by decide)) (Or.inl ⟨by rfl, fun _ _ => rfl⟩) hH ?_
  try simp only [Act.put, List.setIfInBounds_toArray, List.set_cons_succ, List.set_cons_zero]
  refine wpAnyH_ready (rs := [2]) (by kernel_rfl) (by simp) (AllReadyH.cons (o := ⟨some 14, .call ⟨.value (.tmp 13), #[.tmp 4], #[_]⟩, _, _, _, none⟩) rfl (fun K hK => ?_) AllReadyH.nil)
  have HK := Lib.hid hK
  clear hK
  go_simp
  refine HR.out.mono ?_
  rintro e w4 ⟨fb, fs, rfl, hK4, hb4⟩
  have hH4 := (hb4.block w2.heap.size (lit_lt hH)).trans hH
  obtain ⟨xs, hfs, hxn, hxg, hxf, hxfin⟩ := hdr_rd (S := S) (rb := rb) hK4 (by have := HRL.out; have := HS3.out; omega) (by have := HRL.out; omega) HSL.out
  have HB04 := Lib.hid (HB03.out.trans (hb4.mono HB03.out.size))
  have HX4 := Lib.hid ((hb4.block w.heap.size (lit_lt HX3.out)).trans HX3.out)
  have HE4 := Lib.hid ((hb4.block (w.heap.size + 1) (lit_lt HE3.out)).trans HE3.out)
  have HR4 : Hid (RQ rb S 0 10240 w4) := Lib.hid ⟨(hb4.block rb (by have := HRL.out; have := HS3.out; omega)).trans HR3.out.r, HR3.out.m⟩
  have hflds := hdr_flds
  have hGU4 := HG.out.u.next HB04.out
  have hrow := wrow_any w4 rb w.heap.size fb 0 4 S (RpHeader w.heap.size) (fun p u u' h ho => (ho.block w.heap.size (lit_lt h) (by have := HRL.out; omega)).trans h) xs hxf zHdr (by rw [hxg]; exact hdr_flds) 0 w4 (by have := HRL.out; have := HGL.out; omega) HSL.out (by rw [hxn]; decide) (by rw [← hfs]; exact hK4.r.row) (lit_lt hK4.r) (by have := hK4.l; have := HRL.out; have := HS3.out; omega) (by have := lit_lt HX4.out; exact this) ⟨Duo.refl _ _ _, hGU4, HX4.out, HR4.out, Nat.zero_le _⟩
  rw [hxg, mapG_congr hdr_flds hxfin, hxn, List.drop_zero] at hrow
  have HGU4 := Lib.hid hGU4
  have HROW := Lib.hid hrow
  clear hrow hfs hxn hxg hxf hxfin hK4 hb4 hflds hGU4
  refine HK.out.out _ _ hH4 (fun _ => ?_)
  clear HK K
  try simp only [Act.put, List.setIfInBounds_toArray, List.set_cons_succ, List.set_cons_zero]
  refine wpAnyH_ready (rs := [3]) (by kernel_rfl) (by simp) (AllReadyH.cons (o := ⟨some 15, .call ⟨.value (.func 87), #[.tmp 12, .tmp 14], #[158, 95]⟩, _, _, _, none⟩) rfl (fun K hK => ?_) AllReadyH.nil)
  have HK := Lib.hid hK
  clear hK
  go_simp
  refine HROW.out.mono ?_
  intro e w5 h5
  change Read rb w.heap.size S (RpHeader w.heap.size) 0 w4.heap.size w4 (hdrC.get S 0) e w5 at h5
  cases hres : hdrC.get S 0 with
  | error f =>
    rw [hres] at h5
    obtain ⟨hc, ⟨g, hg, rfl, hf0, hf1⟩, hd, q, hq⟩ := h5
    refine ⟨⟨rfl, rfl, rfl⟩, fun tm hm4 hm5 => ?_⟩
    have hrb := HRL.out
    have hE5 := (hd.block (w.heap.size + 1) (lit_lt HE4.out) (by omega) (by omega)).trans HE4.out
    have hgl5 := World.block_lt_of_cell? _ _ hf0
    have hg4 := lit_lt HE4.out
    refine leaves_cons (f := 121) (args := #[.pointer (some ⟨w.heap.size, 0, none⟩), .pointer (some ⟨w.heap.size + 1, 0, none⟩)]) (by simp) (by simp [go_sem]) ?_
    refine (readHeader1_catch g w.heap.size (w.heap.size + 1) _ _ _ _ .nilIface [] w5 (HGU4.out.duo hd (by have := HGL.out; omega) HGL.out).e hgl5 (by omega) hq hE5).mono ?_
    rintro e u' w'' ⟨rfl, rfl, hC⟩
    have z0 := (lit_cell hC.x 0).trans rfl; have z1 := (lit_cell hC.x 1).trans rfl; have z2 := (lit_cell hC.x 2).trans rfl; have z3 := (lit_cell hC.x 3).trans rfl
    have y0 := (lit_cell hC.e 0).trans rfl
    refine ⟨.tuple #[hdrV zHdr, .iface 106 (.pointer (some ⟨g, 0, none⟩))], by simp [results, Tryz.results74, go_sem, hm4, hm5, z0, z1, z2, z3, y0, zHdr], ?_⟩
    have hgb : ∀ o, w''.cell? ⟨g, o, none⟩ = w5.cell? ⟨g, o, none⟩ := fun o => World.cell?_of_block (a := ⟨g, o, none⟩) (hC.d.block g hgl5 (by omega) (by omega))
    rw [AnsHeader, wholeG, hres]
    exact ⟨hc, ⟨_, rfl, by rw [ErrV, if_neg (by omega)]; exact ⟨g, by omega, rfl, (hgb 0).trans hf0, (hgb 1).trans hf1⟩⟩, below_duo (below_duo HB04.out hd (by omega) (Nat.le_refl _)) hC.d (Nat.le_refl _) (by omega)⟩
  | ok q =>
    obtain ⟨q, k⟩ := q
    rw [hres] at h5
    obtain ⟨rfl, hq, hR5, hk, hd⟩ := h5
    have hrb := HRL.out
    have hg4 := lit_lt HE4.out
    have hH5 := (hd.block w2.heap.size (lit_lt hH4) (by omega) (by omega)).trans hH4
    refine HK.out.out _ _ hH5 (fun _ => ?_)
    clear HK K
    try simp only [Act.put, List.setIfInBounds_toArray, List.set_cons_succ, List.set_cons_zero]
    refine wpAnyH_done (by kernel_rfl) ?_ _
    change Exit.then _ (bodyPostD Tryz.prog Tryz.f74 (AnsHeader S w)) Exit.normal _ _
    have hGU5 := HGU4.out.duo hd (by have := HGL.out; omega) HGL.out
    have HB05 := Lib.hid (below_duo HB04.out hd (by omega) (Nat.le_refl _))
    have hE5 := (hd.block (w.heap.size + 1) (lit_lt HE4.out) (by omega) (by omega)).trans HE4.out
    have HF := Lib.hid (reader_c.fin rb S (0 + k) 10240 w5 hR5 hGU5 HSL.out hk)
    have HQ := Lib.hid hq
    have HE5 := Lib.hid hE5
    have HGU5 := Lib.hid hGU5
    have HLT := Lib.hid (show w.heap.size + 1 < w5.heap.size from lit_lt hE5)
    have c0 := (lit_cell hH5 0).trans rfl
    clear hq hR5 hd hrb hg4 hH5 hGU5 hE5 hk hH hH4 hmf
    by_cases hl : 0 + k < S.length
    · have HA : Hid (wholeG hdrC.get S = .error (5, k)) := Lib.hid (by rw [wholeG, hres]; exact if_pos (by omega))
      rw [if_pos hl] at HF
      clear hl hres
      go_wp2_with (go_at_call 88; refine HF.out.mono ?_; rintro e w6 ⟨v, rfl, hv, hb6⟩; obtain ⟨g, rfl, g1, hg, hgg, hf0, hf1⟩ := hv.shape (by decide); cases hgg)
      have hX6 := (hb6.block w.heap.size (by have := HLT.out; omega)).trans HQ.out
      have hE6 := (hb6.block (w.heap.size + 1) HLT.out).trans HE5.out
      have hgl5 := World.block_lt_of_cell? _ _ hf0
      have hlt := HLT.out
      refine leaves_cons (f := 121) (args := #[.pointer (some ⟨w.heap.size, 0, none⟩), .pointer (some ⟨w.heap.size + 1, 0, none⟩)]) (by simp) (by simp [go_sem]) ?_
      refine (readHeader1_catch g w.heap.size (w.heap.size + 1) _ _ _ _ .nilIface [] w6 (HGU5.out.next hb6).e hgl5 (by omega) hX6 hE6).mono ?_
      rintro e u' w'' ⟨rfl, rfl, hC⟩
      have z0 := (lit_cell hC.x 0).trans rfl; have z1 := (lit_cell hC.x 1).trans rfl; have z2 := (lit_cell hC.x 2).trans rfl; have z3 := (lit_cell hC.x 3).trans rfl
      have y0 := (lit_cell hC.e 0).trans rfl
      refine ⟨.tuple #[hdrV zHdr, .iface 106 (.pointer (some ⟨g, 0, none⟩))], by simp [results, Tryz.results74, go_sem, z0, z1, z2, z3, y0, zHdr], ?_⟩
      have hgb : ∀ o, w''.cell? ⟨g, o, none⟩ = w6.cell? ⟨g, o, none⟩ := fun o => World.cell?_of_block (a := ⟨g, o, none⟩) (hC.d.block g hgl5 (by omega) (by omega))
      rw [AnsHeader, HA.out]
      exact ⟨by decide, ⟨_, rfl, by rw [ErrV, if_neg (by decide)]; exact ⟨g, by omega, rfl, (hgb 0).trans hf0, (hgb 1).trans (hf1.trans (by rw [Nat.zero_add]))⟩⟩, below_duo (HB05.out.trans (hb6.mono (by omega))) hC.d (Nat.le_refl _) (by omega)⟩
    · have HA : Hid (wholeG hdrC.get S = .ok q) := Lib.hid (by rw [wholeG, hres]; exact if_neg (by omega))
      rw [if_neg hl] at HF
      clear hl hres
      go_wp2_with (go_at_call 88; refine HF.out.mono ?_; rintro e w6 ⟨v, rfl, hv, hb6⟩; have hnil := hv.nil rfl; subst hnil; have hX6 := (hb6.block w.heap.size (by have := HLT.out; omega)).trans HQ.out; have hE6 := (hb6.block (w.heap.size + 1) HLT.out).trans HE5.out; simp only [hdrQ] at hX6; have p0 := (lit_cell hX6 0).trans rfl; have q0 := lit_free hX6 0; have p1 := (lit_cell hX6 1).trans rfl; have q1 := lit_free hX6 1; have p2 := (lit_cell hX6 2).trans rfl; have q2 := lit_free hX6 2; have p3 := (lit_cell hX6 3).trans rfl; have q3 := lit_free hX6 3; have y0 := (lit_cell hE6 0).trans rfl; have y1 := lit_free hE6 0)
      have hlt := HLT.out
      have hx7 := lit_set (k := 3) (.string ⟨q.seed.toArray⟩) (lit_set (k := 2) (.string ⟨q.txns.toArray⟩) (lit_set (k := 1) (.string ⟨q.prev.toArray⟩) (lit_set (k := 0) (.int .u64 (q.round : Int)) (hX6))))
      have ho7 : Only w.heap.size w6 (((((w6).setCell ⟨w.heap.size, 0, none⟩ (.int .u64 (q.round : Int))).setCell ⟨w.heap.size, 1, none⟩ (.string ⟨q.prev.toArray⟩)).setCell ⟨w.heap.size, 2, none⟩ (.string ⟨q.txns.toArray⟩)).setCell ⟨w.heap.size, 3, none⟩ (.string ⟨q.seed.toArray⟩)) := (((((Only.refl w.heap.size w6).trans (Only.set w.heap.size 0 (.int .u64 (q.round : Int)) (w6))).trans (Only.set w.heap.size 1 (.string ⟨q.prev.toArray⟩) ((w6).setCell ⟨w.heap.size, 0, none⟩ (.int .u64 (q.round : Int))))).trans (Only.set w.heap.size 2 (.string ⟨q.txns.toArray⟩) (((w6).setCell ⟨w.heap.size, 0, none⟩ (.int .u64 (q.round : Int))).setCell ⟨w.heap.size, 1, none⟩ (.string ⟨q.prev.toArray⟩)))).trans (Only.set w.heap.size 3 (.string ⟨q.seed.toArray⟩) ((((w6).setCell ⟨w.heap.size, 0, none⟩ (.int .u64 (q.round : Int))).setCell ⟨w.heap.size, 1, none⟩ (.string ⟨q.prev.toArray⟩)).setCell ⟨w.heap.size, 2, none⟩ (.string ⟨q.txns.toArray⟩))))
      have he7 := (ho7.block (w.heap.size + 1) (lit_lt hE6) (by omega)).trans hE6
      have hd7 : Below w.heap.size w (((((w6).setCell ⟨w.heap.size, 0, none⟩ (.int .u64 (q.round : Int))).setCell ⟨w.heap.size, 1, none⟩ (.string ⟨q.prev.toArray⟩)).setCell ⟨w.heap.size, 2, none⟩ (.string ⟨q.txns.toArray⟩)).setCell ⟨w.heap.size, 3, none⟩ (.string ⟨q.seed.toArray⟩)) := below_duo (HB05.out.trans (hb6.mono (by omega))) (Duo.only (x := w.heap.size) ho7) (Nat.le_refl _) (Nat.le_refl _)
      generalize ((((w6).setCell ⟨w.heap.size, 0, none⟩ (.int .u64 (q.round : Int))).setCell ⟨w.heap.size, 1, none⟩ (.string ⟨q.prev.toArray⟩)).setCell ⟨w.heap.size, 2, none⟩ (.string ⟨q.txns.toArray⟩)).setCell ⟨w.heap.size, 3, none⟩ (.string ⟨q.seed.toArray⟩) = w7 at *
      have hx8 := (lit_far (w := w7) (b := w.heap.size + 1) (c := w.heap.size) (k := 0) .nilIface (by omega)).trans hx7
      have he8 := lit_set (k := 0) .nilIface he7
      have hb8 : Below w.heap.size w (w7.setCell ⟨w.heap.size + 1, 0, none⟩ .nilIface) := hd7.setCell (by simp) _
      generalize w7.setCell ⟨w.heap.size + 1, 0, none⟩ .nilIface = w8 at *
      refine leaves_cons (f := 121) (args := #[.pointer (some ⟨w.heap.size, 0, none⟩), .pointer (some ⟨w.heap.size + 1, 0, none⟩)]) (by simp) (by simp [go_sem]) ?_
      refine (readHeader1_idle w.heap.size (w.heap.size + 1) w8).mono ?_
      rintro e u' w'' ⟨rfl, rfl, rfl⟩
      have z0 := (lit_cell hx8 0).trans rfl; have z1 := (lit_cell hx8 1).trans rfl; have z2 := (lit_cell hx8 2).trans rfl; have z3 := (lit_cell hx8 3).trans rfl
      have z := (lit_cell he8 0).trans rfl
      refine ⟨.tuple #[hdrV q, .nilIface], by simp [results, Tryz.results74, go_sem, z0, z1, z2, z3, z], ?_⟩
      rw [AnsHeader, HA.out]
      exact ⟨rfl, hb8⟩
end Go.Proofs.YtbkiijndhjmkdaaGreatDoor
/- The chapter's examples: what is laid and read, by the kernel. -/
namespace Go.Proofs.YtbkiijndhjmkdaaGreatDoor
open Go.RowKit

def rL : (List UInt8) := List.replicate 32 114
def vPart : PartR := ⟨rL, 300, 0, 2, 3⟩
def vSlot : SlotR := ⟨5, true, ⟨0, [], []⟩⟩
theorem ex_part : layPartP vPart = ([132, 161, 107, 3, 161, 108, 2, 161, 114, 196, 32] ++ rL ++ [161, 119, 205, 1, 44], 0) := by kernel_rfl
theorem ex_slot0 : laySlotP zSlot = ([128], 0) := by kernel_rfl
theorem ex_slot1 : laySlotP vSlot = ([130, 161, 108, 5, 161, 115, 1], 0) := by kernel_rfl
theorem ex_part2 : layPartP ⟨rL.drop 1, 0, 0, 0, 0⟩ = ([], 2) := by kernel_rfl
theorem ex_msg : layMsgP zMsg = ([], 2) := by kernel_rfl
theorem ex_r0 : wholeG slotC.get [128] = .ok zSlot := by kernel_rfl
theorem ex_b0 : wholeG slotC.get [129, 161, 108, 0] = .error (5, 0) := by kernel_rfl
theorem ex_b1 : wholeG slotC.get [130, 161, 115, 1, 161, 108, 5] = .error (5, 0) := by kernel_rfl
theorem ex_b2 : wholeG slotC.get [129, 161, 115, 2] = .error (5, 0) := by kernel_rfl
theorem ex_l : wholeG slotC.get [128, 128] = .error (5, 1) := by kernel_rfl
theorem ex_m : wholeG partC.get [128] = .error (5, 0) := by kernel_rfl
theorem ex_n : wholeG partC.get [] = .error (4, 0) := by kernel_rfl
theorem ex_o : wholeG partC.get [129, 161, 119, 204, 5] = .error (5, 3) := by kernel_rfl
end Go.Proofs.YtbkiijndhjmkdaaGreatDoor
