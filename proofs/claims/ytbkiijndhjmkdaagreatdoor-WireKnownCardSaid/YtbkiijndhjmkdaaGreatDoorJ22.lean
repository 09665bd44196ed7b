/- A list of texts in memory. -/
import Derived.Test.YtbkiijndhjmkdaaGreatDoorJ1
import Derived.Test.YtbkiijndhjmkdaaGreatDoorJ21
namespace Go.Proofs.YtbkiijndhjmkdaaGreatDoor
open Go.RowKit

/-- the slice at ao lays the texts L -/
def Strs (ao : Option Addr) (L : List (List UInt8)) (w : World) : Prop :=
  L = [] ∨ ∃ b off, ao = some ⟨b, off, none⟩ ∧ b < w.heap.size ∧ ∀ i (h : i < L.length), w.cell? ⟨b, off + i, none⟩ = some (.string ⟨L[i].toArray⟩)
theorem Strs.below {ao : Option Addr} {L : List (List UInt8)} {w w' : World} {B : Nat} (h : Strs ao L w) (hB : w.heap.size ≤ B) (hb : Below B w w') : Strs ao L w' := by
  rcases h with h | ⟨b, off, h1, h2, h3⟩
  · exact .inl h
  · exact .inr ⟨b, off, h1, by have := hb.size; omega, fun i hi => (hb.cell (p := ⟨b, off + i, none⟩) (by show b < B; omega)).trans (h3 i hi)⟩
theorem Strs.cell {ao : Option Addr} {L : List (List UInt8)} {w : World} (h : Strs ao L w) (k : Nat) (hk : k < L.length) : ∃ b off, ao = some ⟨b, off, none⟩ ∧ w.cell? ⟨b, off + k, none⟩ = some (.string ⟨L[k].toArray⟩) := by
  rcases h with h | ⟨b, off, h1, h2, h3⟩
  · subst h; simp at hk
  · exact ⟨b, off, h1, h3 k hk⟩
end Go.Proofs.YtbkiijndhjmkdaaGreatDoor
/- The rows of a Cert, a Msg, a Header; Part, Slot, Cert, Msg, Header of the program. -/
namespace Go.Proofs.YtbkiijndhjmkdaaGreatDoor
open Go.RowKit

/-- a Cert in memory: where its lists lie -/
structure CertE where
  root : (List UInt8)
  signed : Nat
  rl : List RevE
  coins : List Nat
  sp : List (List UInt8)
  pp : List (List UInt8)
  ra : Option Addr
  rc : Nat
  ca : Option Addr
  cc : Nat
  sa : Option Addr
  sc : Nat
  pa : Option Addr
  pc : Nat
def CertE.r (c : CertE) : CertR := ⟨c.root, c.signed, c.rl.map (·.r), c.coins, c.sp, c.pp⟩
def certQ (c : CertE) : List Value := [.string ⟨c.root.toArray⟩, .int .u64 (c.signed : Int), .slice c.ra c.rl.length c.rc, .slice c.ca c.coins.length c.cc, .slice c.sa c.sp.length c.sc, .slice c.pa c.pp.length c.pc]
abbrev certV (c : CertE) : Value := .agg #[.string ⟨c.root.toArray⟩, .int .u64 (c.signed : Int), .slice c.ra c.rl.length c.rc, .slice c.ca c.coins.length c.cc, .slice c.sa c.sp.length c.sc, .slice c.pa c.pp.length c.pc]
structure CertIn (c : CertE) : Prop where
  s : c.signed < 18446744073709551616
  r : c.rl.length ≤ 9223372036854775807 ∧ ∀ x ∈ c.rl, RevIn x.r
  co : c.coins.length ≤ 9223372036854775807 ∧ ∀ x ∈ c.coins, x < 18446744073709551616
  sp : c.sp.length ≤ 9223372036854775807
  pp : c.pp.length ≤ 9223372036854775807
structure CertH (B : Nat) (w0 : World) (c : CertE) : Prop where
  r : HoldsR B w0 c.rl c.ra ∧ ∀ x ∈ c.rl, RevL B w0 x
  co : HoldsL B w0 encN c.coins c.ca
  sp : HoldsL B w0 encS c.sp c.sa
  pp : HoldsL B w0 encS c.pp c.pa
theorem coinsP_if (l : List Nat) : coinsP l = if 0 < l.length then headP 3 l.length ++ l.flatMap numP else [] := by
  unfold coinsP
  cases l <;> simp
theorem revsP_if (l : List RevE) : revsP (l.map (·.r)) = if 0 < l.length then headP 3 l.length ++ l.flatMap (fun x => mapP (revF x.r)) else [] := by
  unfold revsP
  cases l with
  | nil => rfl
  | cons x l =>
    rw [if_neg (by simp), if_pos (by simp), List.length_map, List.flatMap_map]
theorem ok_list {α : Type} (l : List α) (p : α → Bool) (n : Nat) : (!decide (0 < l.length) || (decide (l.length ≤ n) && l.all p)) = (l.all p && decide (l.length ≤ n)) := by
  cases l with
  | nil => simp
  | cons x l => rw [Bool.and_comm]; simp
set_option maxRecDepth 100000 in
theorem cert_row {B : Nat} {w0 : World} {lo t fb : Nat} {fs : List FV} (hK : CertK lo t 0 fb fs w0) (c : CertE) (ht : w0.heap[t]? = some (.cells (certQ c).toArray 60 (0, 0))) (hH : CertH B w0 c) (hI : CertIn c) : ∃ th ps, LaysRow B w0 fs 6 (certF c.r) (mayCertB c.r) th 2679751 ps := by
  obtain ⟨⟨k0, k1, k2, k3, k4, kk, k5, rfl, h0, h1, h2, h3, h4, h5⟩, _, _⟩ := hK
  refine ⟨_, [(listSFV 80 k0, strsLD c.pp 10240), (listSFV 83 k1, strsLD c.sp 10240), (digFV 99 k2, digLD c.root), (listNFV 112 k3, numsLD c.coins 640), (listRFV 114 k4, revsLD c.rl 640), (numFV 119 k5, numLD c.signed)], rfl, rfl, ⟨fun q hq => ?_, fun q hq => ?_, ?_, by simp, by simp⟩, ?_, ?_, rfl, ?_⟩
  · simp only [List.mem_cons, List.not_mem_nil, or_false] at hq
    rcases hq with rfl | rfl | rfl | rfl | rfl | rfl
    · exact lay_strs h0 (cp := c.pc) (holds_block ht (by decide) (by decide) rfl) hH.pp hI.pp (by decide)
    · exact lay_strs h1 (cp := c.sc) (holds_block ht (by decide) (by decide) rfl) hH.sp hI.sp (by decide)
    · exact lay_dig h2 (holds_block ht (by decide) (by decide) rfl)
    · exact lay_nums h3 (cp := c.cc) (holds_block ht (by decide) (by decide) rfl) hH.co hI.co.2 hI.co.1 (by decide)
    · exact lay_revs h4 (cp := c.rc) (holds_block ht (by decide) (by decide) rfl) hH.r.1 (fun x hx => ⟨hH.r.2 x hx, hI.r.2 x hx⟩) hI.r.1 (by decide)
    · exact lay_num h5 (holds_block ht (by decide) (by decide) rfl) hI.s
  · simp only [List.mem_cons, List.not_mem_nil, or_false] at hq
    rcases hq with rfl | rfl | rfl | rfl | rfl | rfl <;> first | exact numP_ne _ | (show binP _ ≠ []; rw [binP]; simp [headP_ne]) | (show headP _ _ ++ _ ≠ []; simp [headP_ne])
  · simp
  · rw [CertE.r, certF, revsP_if, coinsP_if, digsP_if, digsP_if]
    simp only [psP_cons, psP_nil, toldP, numLD, digLD, strsLD, numsLD, revsLD, Bool.false_or, Bool.true_or, if_true, decide_eq_true_eq, numZ]
    by_cases h : c.signed = 0 <;> simp [h]
  · simp only [psOk_cons, psOk_nil, toldP, numLD, digLD, strsLD, numsLD, revsLD, mayCertB, CertE.r, mayB, List.length_map, List.all_map, Bool.false_or, Bool.true_or]
    rw [ok_list, ok_list, ok_list, ok_list]
    have e : c.coins.all (fun _ => true) = true := by simp
    have e2 : (c.rl.all (mayRevB ∘ fun x => x.r)) = c.rl.all (fun x => mayRevB x.r) := rfl
    rw [e, e2]
    rw [Bool.eq_iff_iff]
    simp only [Bool.and_eq_true, decide_eq_true_eq, Bool.not_true, Bool.false_or, Bool.or_true, and_true, true_and]
    grind
  · simp only [psMx_cons, psMx_nil, numLD, digLD, strsLD, numsLD, revsLD]

/-- the other things in memory -/
def partQ (p : PartR) : List Value := [.string ⟨p.root.toArray⟩, .int .u64 (p.weight : Int), .int .u64 (p.first : Int), .int .u64 (p.life : Int), .int .u64 (p.keys : Int)]
abbrev partV (p : PartR) : Value := .agg #[.string ⟨p.root.toArray⟩, .int .u64 (p.weight : Int), .int .u64 (p.first : Int), .int .u64 (p.life : Int), .int .u64 (p.keys : Int)]
def msgQ (m : MsgR) : List Value := [.string ⟨m.headers.toArray⟩, .string ⟨m.parts.toArray⟩, .int .u64 (m.count : Int), .int .u64 (m.proven : Int), .int .u64 (m.first : Int), .int .u64 (m.last : Int)]
abbrev msgV (m : MsgR) : Value := .agg #[.string ⟨m.headers.toArray⟩, .string ⟨m.parts.toArray⟩, .int .u64 (m.count : Int), .int .u64 (m.proven : Int), .int .u64 (m.first : Int), .int .u64 (m.last : Int)]
def hdrQ (h : HdrR) : List Value := [.int .u64 (h.round : Int), .string ⟨h.prev.toArray⟩, .string ⟨h.txns.toArray⟩, .string ⟨h.seed.toArray⟩]
abbrev hdrV (h : HdrR) : Value := .agg #[.int .u64 (h.round : Int), .string ⟨h.prev.toArray⟩, .string ⟨h.txns.toArray⟩, .string ⟨h.seed.toArray⟩]
structure SlotE where
  r : SlotR
  wa : Option Addr
  wc : Nat
  pa : Option Addr
  pc : Nat
def slotQ (x : SlotE) : List Value := [.int .u64 (x.r.l : Int), .bool x.r.signed, .int .u64 (x.r.sig.index : Int), .slice x.wa x.r.sig.wots.length x.wc, .slice x.pa x.r.sig.path.length x.pc]
abbrev slotV (x : SlotE) : Value := .agg #[.int .u64 (x.r.l : Int), .bool x.r.signed, .int .u64 (x.r.sig.index : Int), .slice x.wa x.r.sig.wots.length x.wc, .slice x.pa x.r.sig.path.length x.pc]
structure MsgIn (m : MsgR) : Prop where
  c : m.count < 18446744073709551616
  p : m.proven < 18446744073709551616
  f : m.first < 18446744073709551616
  l : m.last < 18446744073709551616
set_option maxRecDepth 100000 in
theorem msg_row {B : Nat} {w0 : World} {lo t fb : Nat} {fs : List FV} (hK : MsgK lo t 0 fb fs w0) (m : MsgR) (ht : w0.heap[t]? = some (.cells (msgQ m).toArray 70 (0, 0))) (hI : MsgIn m) : ∃ th ps, LaysRow B w0 fs 6 (msgF m) (digB m.headers && digB m.parts) th 121 ps := by
  obtain ⟨⟨k0, k1, k2, k3, k4, k5, rfl, h0, h1, h2, h3, h4, h5⟩, _, _⟩ := hK
  refine ⟨_, [(numFV 102 k0, numLD m.first), (digFV 104 k1, digLD m.headers), (numFV 108 k2, numLD m.last), (numFV 110 k3, numLD m.count), (digFV 118 k4, digLD m.parts), (numFV 119 k5, numLD m.proven)], rfl, rfl, ⟨fun q hq => ?_, fun q hq => ?_, ?_, by simp, by simp⟩, ?_, ?_, rfl, ?_⟩
  · simp only [List.mem_cons, List.not_mem_nil, or_false] at hq
    rcases hq with rfl | rfl | rfl | rfl | rfl | rfl
    · exact lay_num h0 (holds_block ht (by decide) (by decide) rfl) hI.f
    · exact lay_dig h1 (holds_block ht (by decide) (by decide) rfl)
    · exact lay_num h2 (holds_block ht (by decide) (by decide) rfl) hI.l
    · exact lay_num h3 (holds_block ht (by decide) (by decide) rfl) hI.c
    · exact lay_dig h4 (holds_block ht (by decide) (by decide) rfl)
    · exact lay_num h5 (holds_block ht (by decide) (by decide) rfl) hI.p
  · simp only [List.mem_cons, List.not_mem_nil, or_false] at hq
    rcases hq with rfl | rfl | rfl | rfl | rfl | rfl <;> first | exact numP_ne _ | (show binP _ ≠ []; rw [binP]; simp [headP_ne])
  · simp
  · simp [psP, toldP, numLD, digLD, msgF, numZ]
  · simp [psOk, toldP, numLD, digLD]
  · simp only [psMx_cons, psMx_nil, numLD, digLD]
set_option maxRecDepth 100000 in
theorem hdr_row {B : Nat} {w0 : World} {lo t fb : Nat} {fs : List FV} (hK : HdrK lo t 0 fb fs w0) (h : HdrR) (ht : w0.heap[t]? = some (.cells (hdrQ h).toArray 72 (0, 0))) (hI : h.round < 18446744073709551616) : ∃ th ps, LaysRow B w0 fs 4 (hdrF h) (digB h.prev && digB h.seed && digB h.txns) th 125 ps := by
  obtain ⟨⟨k0, k1, k2, k3, rfl, h0, h1, h2, h3⟩, _, _⟩ := hK
  refine ⟨_, [(digFV 112 k0, digLD h.prev), (numFV 114 k1, numLD h.round), (digFV 115 k2, digLD h.seed), (digFV 116 k3, digLD h.txns)], rfl, rfl, ⟨fun q hq => ?_, fun q hq => ?_, ?_, by simp, by simp⟩, ?_, ?_, rfl, ?_⟩
  · simp only [List.mem_cons, List.not_mem_nil, or_false] at hq
    rcases hq with rfl | rfl | rfl | rfl
    · exact lay_dig h0 (holds_block ht (by decide) (by decide) rfl)
    · exact lay_num h1 (holds_block ht (by decide) (by decide) rfl) hI
    · exact lay_dig h2 (holds_block ht (by decide) (by decide) rfl)
    · exact lay_dig h3 (holds_block ht (by decide) (by decide) rfl)
  · simp only [List.mem_cons, List.not_mem_nil, or_false] at hq
    rcases hq with rfl | rfl | rfl | rfl <;> first | exact numP_ne _ | (show binP _ ≠ []; rw [binP]; simp [headP_ne])
  · simp
  · simp [psP, toldP, numLD, digLD, hdrF, numZ]
  · simp [psOk, toldP, numLD, digLD, Bool.and_assoc]
  · simp only [psMx_cons, psMx_nil, numLD, digLD]
/-- what the program's own tables, and reflectlite, want of memory -/
structure GlobW (w : World) : Prop where
  p : Pk.Glob w
  u : GlobU w
theorem GlobW.next {w w' : World} (h : GlobW w) (hb : Below w.heap.size w w') : GlobW w' := ⟨h.p.next hb, h.u.next hb⟩
theorem HoldsL.of_strs {w w2 : World} {L : List (List UInt8)} {ao : Option Addr} (h : Strs ao L w) (hb : Below w.heap.size w w2) {B : Nat} (hB : w.heap.size ≤ B) : HoldsL B w2 encS L ao := by
  rcases h with h | ⟨b, off, h1, h2, h3⟩
  · exact .inl h
  · refine .inr ⟨b, off, h1, fun w3 hS i x hx => ?_⟩
    obtain ⟨hi, rfl⟩ := List.getElem?_eq_some_iff.1 hx
    have e : w3.heap[b]? = w.heap[b]? := (hS.b b (by omega) (Nat.lt_of_lt_of_le h2 hb.size)).trans (hb.block b h2)
    exact (World.cell?_of_block (a := ⟨b, off + i, none⟩) e).trans (h3 i hi)
end Go.Proofs.YtbkiijndhjmkdaaGreatDoor
/- Part, Slot, Cert, Msg, Header of the program: what they lay. -/
namespace Go.Proofs.YtbkiijndhjmkdaaGreatDoor
open Go.RowKit

/-- numbers, Reveals in memory -/
def Nums (ao : Option Addr) (L : List Nat) (w : World) : Prop := L = [] ∨ ∃ b off, ao = some ⟨b, off, none⟩ ∧ b < w.heap.size ∧ ∀ i (h : i < L.length), w.cell? ⟨b, off + i, none⟩ = some (.int .u64 (L[i] : Int))
def Revs (ao : Option Addr) (L : List RevE) (w : World) : Prop := L = [] ∨ ∃ b off, ao = some ⟨b, off, none⟩ ∧ b < w.heap.size ∧ ∀ i x, L[i]? = some x → ∀ j, j < 11 → w.cell? ⟨b, off + (i * 11 + j), none⟩ = (revQ x)[j]?
theorem HoldsL.of_nums {w w2 : World} {L : List Nat} {ao : Option Addr} (h : Nums ao L w) (hb : Below w.heap.size w w2) {B : Nat} (hB : w.heap.size ≤ B) : HoldsL B w2 encN L ao := by
  rcases h with h | ⟨b, off, h1, h2, h3⟩
  · exact .inl h
  · refine .inr ⟨b, off, h1, fun w3 hS i x hx => ?_⟩
    obtain ⟨hi, rfl⟩ := List.getElem?_eq_some_iff.1 hx
    have e : w3.heap[b]? = w.heap[b]? := (hS.b b (by omega) (Nat.lt_of_lt_of_le h2 hb.size)).trans (hb.block b h2)
    exact (World.cell?_of_block (a := ⟨b, off + i, none⟩) e).trans (h3 i hi)
theorem HoldsR.of_revs {w w2 : World} {L : List RevE} {ao : Option Addr} (h : Revs ao L w) (hb : Below w.heap.size w w2) {B : Nat} (hB : w.heap.size ≤ B) : HoldsR B w2 L ao := by
  rcases h with h | ⟨b, off, h1, h2, h3⟩
  · exact .inl h
  · refine .inr ⟨b, off, h1, fun w3 hS i x hx j hj => ?_⟩
    have e : w3.heap[b]? = w.heap[b]? := (hS.b b (by omega) (Nat.lt_of_lt_of_le h2 hb.size)).trans (hb.block b h2)
    exact (World.cell?_of_block (a := ⟨b, off + (i * 11 + j), none⟩) e).trans (h3 i x hx j hj)
/-- a Slot's, a Cert's lists -/
structure SlotM (x : SlotE) (w : World) : Prop where
  ws : Strs x.wa x.r.sig.wots w
  ps : Strs x.pa x.r.sig.path w
structure CertM (c : CertE) (w : World) : Prop where
  r : Revs c.ra c.rl w
  x : ∀ x ∈ c.rl, Strs x.wa x.r.slot.sig.wots w ∧ Strs x.pa x.r.slot.sig.path w
  co : Nums c.ca c.coins w
  s : Strs c.sa c.sp w
  p : Strs c.pa c.pp w
theorem slot_holds {w w2 : World} {x : SlotE} {t : Nat} (h : SlotM x w) (hb : Below w.heap.size w w2) {B : Nat} (hB : w.heap.size ≤ B) (ht : w2.heap[t]? = some (.cells (slotQ x).toArray 48 (0, 0))) : SlotH B w2 t 0 x.r :=
  ⟨holds_block ht (by decide) (by decide) rfl, holds_block ht (by decide) (by decide) rfl, ⟨holds_block ht (by decide) (by decide) rfl, ⟨x.wa, x.wc, holds_block ht (by decide) (by decide) rfl, HoldsL.of_strs h.ws hb hB⟩, ⟨x.pa, x.pc, holds_block ht (by decide) (by decide) rfl, HoldsL.of_strs h.ps hb hB⟩⟩⟩
theorem cert_holds {w w2 : World} {c : CertE} (h : CertM c w) (hb : Below w.heap.size w w2) {B : Nat} (hB : w.heap.size ≤ B) : CertH B w2 c :=
  ⟨⟨HoldsR.of_revs h.r hb hB, fun x hx => ⟨HoldsL.of_strs (h.x x hx).1 hb hB, HoldsL.of_strs (h.x x hx).2 hb hB⟩⟩, HoldsL.of_nums h.co hb hB, HoldsL.of_strs h.s hb hB, HoldsL.of_strs h.p hb hB⟩
theorem part_holds {B : Nat} {w2 : World} {p : PartR} {t : Nat} (ht : w2.heap[t]? = some (.cells (partQ p).toArray 24 (0, 0))) : PartH B w2 t 0 p :=
  ⟨holds_block ht (by decide) (by decide) rfl, holds_block ht (by decide) (by decide) rfl, holds_block ht (by decide) (by decide) rfl, holds_block ht (by decide) (by decide) rfl, holds_block ht (by decide) (by decide) rfl⟩

set_option maxRecDepth 100000 in
set_option maxHeartbeats 1000000 in
theorem wpart_any (x : PartR) (w : World) (hG : GlobW w) (hI : PartIn x) :
    Calls Tryz.prog 11 #[partV x] w fun e w' => e = .returned (.tuple #[.string ⟨(layPartP x).1.toArray⟩, .int .i64 (layPartP x).2]) ∧ Below w.heap.size w w' := by
  have HG := Lib.hid hG
  have HI := Lib.hid hI
  have HN := Lib.hid (heap_alloc_new w (.cells (partQ x).toArray 24))
  have HB := Lib.hid (by0 w (.cells (partQ x).toArray 24))
  have HR := Lib.hid (part_mk w.heap.size w.heap.size 0 (w.alloc (.cells (partQ x).toArray 24)) (by simp))
  clear hG hI
  go_enter Tryz.func11, Tryz.ntmps11
  go_upto_region 1 with fail
  change Code.wp _ _ _ _ (w.alloc (.cells (partQ x).toArray 24))
  generalize w.alloc (.cells (partQ x).toArray 24) = w1 at *
  go_wp2_with (first | (go_at_call 42; refine HR.out.mono ?_; rintro e w2 ⟨fb, fs, rfl, hK, hb2⟩; have hb02 := HB.out.trans (hb2.mono HB.out.size); have ht2 := (hb2.block w.heap.size (lit_lt HN.out)).trans HN.out; obtain ⟨ps, hps⟩ := part_row (B := w2.heap.size + 1 + 1) hK x (part_holds ht2) HI.out; have hr : RowB fb 0 (ps.map (·.1)) w2 := (by rw [← hps.fs]; exact hK.r.row); have HF0 := flay_any ps fb 0 5 w2 (HG.out.next hb02).p (HG.out.next hb02).u.e hps.r hr (lit_lt hK.r) (by rw [hps.m]; decide); rw [hps.p, hps.o, hps.n] at HF0; have HF := Lib.hid HF0; have HB02 := Lib.hid hb02; clear hK hb2 hb02 ht2 hps hr HF0) | (go_at_call 41; refine HF.out.mono ?_; rintro e w3 ⟨rfl, hb3⟩))
  refine bodyPost_ret (v := .tuple #[.string ⟨(layPartP x).1.toArray⟩, .int .i64 (layPartP x).2]) (by simp [results, Tryz.results11, go_sem, layPartP]) rfl ⟨rfl, HB02.out.trans (hb3.mono HB02.out.size)⟩

set_option maxRecDepth 100000 in
set_option maxHeartbeats 1000000 in
theorem wslot_any (x : SlotE) (w : World) (hG : GlobW w) (hI : SlotIn x.r) (hM : SlotM x w) :
    Calls Tryz.prog 19 #[slotV x] w fun e w' => e = .returned (.tuple #[.string ⟨(laySlotP x.r).1.toArray⟩, .int .i64 (laySlotP x.r).2]) ∧ Below w.heap.size w w' := by
  have HG := Lib.hid hG
  have HI := Lib.hid hI
  have HM := Lib.hid hM
  have HN := Lib.hid (heap_alloc_new w (.cells (slotQ x).toArray 48))
  have HB := Lib.hid (by0 w (.cells (slotQ x).toArray 48))
  have HR := Lib.hid (slot_mk w.heap.size w.heap.size 0 (w.alloc (.cells (slotQ x).toArray 48)) (by simp))
  clear hG hI hM
  go_enter Tryz.func19, Tryz.ntmps19
  go_upto_region 1 with fail
  change Code.wp _ _ _ _ (w.alloc (.cells (slotQ x).toArray 48))
  generalize w.alloc (.cells (slotQ x).toArray 48) = w1 at *
  go_wp2_with (first | (go_at_call 52; refine HR.out.mono ?_; rintro e w2 ⟨fb, fs, rfl, hK, hb2⟩; have hb02 := HB.out.trans (hb2.mono HB.out.size); have ht2 := (hb2.block w.heap.size (lit_lt HN.out)).trans HN.out; obtain ⟨ps, hps⟩ := slot_row (B := w2.heap.size + 1 + 1) hK x.r (slot_holds HM.out hb02 (by have := hb02.size; omega) ht2) HI.out; have hr : RowB fb 0 (ps.map (·.1)) w2 := (by rw [← hps.fs]; exact hK.r.row); have HF0 := flay_any ps fb 0 3 w2 (HG.out.next hb02).p (HG.out.next hb02).u.e hps.r hr (lit_lt hK.r) (by rw [hps.m]; decide); rw [hps.p, hps.o, hps.n] at HF0; have HF := Lib.hid HF0; have HB02 := Lib.hid hb02; clear hK hb2 hb02 ht2 hps hr HF0) | (go_at_call 41; refine HF.out.mono ?_; rintro e w3 ⟨rfl, hb3⟩))
  refine bodyPost_ret (v := .tuple #[.string ⟨(laySlotP x.r).1.toArray⟩, .int .i64 (laySlotP x.r).2]) (by simp [results, Tryz.results19, go_sem, laySlotP]) rfl ⟨rfl, HB02.out.trans (hb3.mono HB02.out.size)⟩

set_option maxRecDepth 100000 in
set_option maxHeartbeats 1000000 in
theorem wcert_any (x : CertE) (w : World) (hG : GlobW w) (hI : CertIn x) (hM : CertM x w) :
    Calls Tryz.prog 25 #[certV x] w fun e w' => e = .returned (.tuple #[.string ⟨(layCertP x.r).1.toArray⟩, .int .i64 (layCertP x.r).2]) ∧ Below w.heap.size w w' := by
  have HG := Lib.hid hG
  have HI := Lib.hid hI
  have HM := Lib.hid hM
  have HN := Lib.hid (heap_alloc_new w (.cells (certQ x).toArray 60))
  have HB := Lib.hid (by0 w (.cells (certQ x).toArray 60))
  have HR := Lib.hid (cert_mk w.heap.size w.heap.size 0 (w.alloc (.cells (certQ x).toArray 60)) (by simp))
  clear hG hI hM
  go_enter Tryz.func25, Tryz.ntmps25
  go_upto_region 1 with fail
  change Code.wp _ _ _ _ (w.alloc (.cells (certQ x).toArray 60))
  generalize w.alloc (.cells (certQ x).toArray 60) = w1 at *
  go_wp2_with (first | (go_at_call 58; refine HR.out.mono ?_; rintro e w2 ⟨fb, fs, rfl, hK, hb2⟩; have hb02 := HB.out.trans (hb2.mono HB.out.size); have ht2 := (hb2.block w.heap.size (lit_lt HN.out)).trans HN.out; obtain ⟨th, ps, hps⟩ := cert_row (B := w2.heap.size + 1 + 1) hK x ht2 (cert_holds HM.out hb02 (by have := hb02.size; omega)) HI.out; have hr : RowB fb 0 (ps.map (·.1)) w2 := (by rw [← hps.fs]; exact hK.r.row); have HF0 := flay_any ps fb 0 6 w2 (HG.out.next hb02).p (HG.out.next hb02).u.e hps.r hr (lit_lt hK.r) (by rw [hps.m]; decide); rw [hps.p, hps.o, hps.n] at HF0; have HF := Lib.hid HF0; have HB02 := Lib.hid hb02; clear hK hb2 hb02 ht2 hps hr HF0) | (go_at_call 41; refine HF.out.mono ?_; rintro e w3 ⟨rfl, hb3⟩))
  refine bodyPost_ret (v := .tuple #[.string ⟨(layCertP x.r).1.toArray⟩, .int .i64 (layCertP x.r).2]) (by simp [results, Tryz.results25, go_sem, layCertP]) rfl ⟨rfl, HB02.out.trans (hb3.mono HB02.out.size)⟩

set_option maxRecDepth 100000 in
set_option maxHeartbeats 1000000 in
theorem wmsg_any (x : MsgR) (w : World) (hG : GlobW w) (hI : MsgIn x) :
    Calls Tryz.prog 30 #[msgV x] w fun e w' => e = .returned (.tuple #[.string ⟨(layMsgP x).1.toArray⟩, .int .i64 (layMsgP x).2]) ∧ Below w.heap.size w w' := by
  have HG := Lib.hid hG
  have HI := Lib.hid hI
  have HN := Lib.hid (heap_alloc_new w (.cells (msgQ x).toArray 70))
  have HB := Lib.hid (by0 w (.cells (msgQ x).toArray 70))
  have HR := Lib.hid (msg_mk w.heap.size w.heap.size 0 (w.alloc (.cells (msgQ x).toArray 70)) (by simp))
  clear hG hI
  go_enter Tryz.func30, Tryz.ntmps30
  go_upto_region 1 with fail
  change Code.wp _ _ _ _ (w.alloc (.cells (msgQ x).toArray 70))
  generalize w.alloc (.cells (msgQ x).toArray 70) = w1 at *
  go_wp2_with (first | (go_at_call 70; refine HR.out.mono ?_; rintro e w2 ⟨fb, fs, rfl, hK, hb2⟩; have hb02 := HB.out.trans (hb2.mono HB.out.size); have ht2 := (hb2.block w.heap.size (lit_lt HN.out)).trans HN.out; obtain ⟨th, ps, hps⟩ := msg_row (B := w2.heap.size + 1 + 1) hK x ht2 HI.out; have hr : RowB fb 0 (ps.map (·.1)) w2 := (by rw [← hps.fs]; exact hK.r.row); have HF0 := flay_any ps fb 0 6 w2 (HG.out.next hb02).p (HG.out.next hb02).u.e hps.r hr (lit_lt hK.r) (by rw [hps.m]; decide); rw [hps.p, hps.o, hps.n] at HF0; have HF := Lib.hid HF0; have HB02 := Lib.hid hb02; clear hK hb2 hb02 ht2 hps hr HF0) | (go_at_call 41; refine HF.out.mono ?_; rintro e w3 ⟨rfl, hb3⟩))
  refine bodyPost_ret (v := .tuple #[.string ⟨(layMsgP x).1.toArray⟩, .int .i64 (layMsgP x).2]) (by simp [results, Tryz.results30, go_sem, layMsgP]) rfl ⟨rfl, HB02.out.trans (hb3.mono HB02.out.size)⟩

set_option maxRecDepth 100000 in
set_option maxHeartbeats 1000000 in
theorem whdr_any (x : HdrR) (w : World) (hG : GlobW w) (hI : x.round < 18446744073709551616) :
    Calls Tryz.prog 32 #[hdrV x] w fun e w' => e = .returned (.tuple #[.string ⟨(layHdrP x).1.toArray⟩, .int .i64 (layHdrP x).2]) ∧ Below w.heap.size w w' := by
  have HG := Lib.hid hG
  have HI := Lib.hid hI
  have HN := Lib.hid (heap_alloc_new w (.cells (hdrQ x).toArray 72))
  have HB := Lib.hid (by0 w (.cells (hdrQ x).toArray 72))
  have HR := Lib.hid (hdr_mk w.heap.size w.heap.size 0 (w.alloc (.cells (hdrQ x).toArray 72)) (by simp))
  clear hG hI
  go_enter Tryz.func32, Tryz.ntmps32
  go_upto_region 1 with fail
  change Code.wp _ _ _ _ (w.alloc (.cells (hdrQ x).toArray 72))
  generalize w.alloc (.cells (hdrQ x).toArray 72) = w1 at *
  go_wp2_with (first | (go_at_call 71; refine HR.out.mono ?_; rintro e w2 ⟨fb, fs, rfl, hK, hb2⟩; have hb02 := HB.out.trans (hb2.mono HB.out.size); have ht2 := (hb2.block w.heap.size (lit_lt HN.out)).trans HN.out; obtain ⟨th, ps, hps⟩ := hdr_row (B := w2.heap.size + 1 + 1) hK x ht2 HI.out; have hr : RowB fb 0 (ps.map (·.1)) w2 := (by rw [← hps.fs]; exact hK.r.row); have HF0 := flay_any ps fb 0 4 w2 (HG.out.next hb02).p (HG.out.next hb02).u.e hps.r hr (lit_lt hK.r) (by rw [hps.m]; decide); rw [hps.p, hps.o, hps.n] at HF0; have HF := Lib.hid HF0; have HB02 := Lib.hid hb02; clear hK hb2 hb02 ht2 hps hr HF0) | (go_at_call 41; refine HF.out.mono ?_; rintro e w3 ⟨rfl, hb3⟩))
  refine bodyPost_ret (v := .tuple #[.string ⟨(layHdrP x).1.toArray⟩, .int .i64 (layHdrP x).2]) (by simp [results, Tryz.results32, go_sem, layHdrP]) rfl ⟨rfl, HB02.out.trans (hb3.mono HB02.out.size)⟩
end Go.Proofs.YtbkiijndhjmkdaaGreatDoor
/- What a field's reading does, by its kind. -/
namespace Go.Proofs.YtbkiijndhjmkdaaGreatDoor
open Go.RowKit

/-- how a number, a digest, a yes, a list lies in a thing -/
def NumL {ρ : Type} (rb t o : Nat) (T : TypeId) (Rp : ρ → World → Prop) (of : ρ → Nat) (set : ρ → Nat → ρ) : Prop := ∀ p w, Rp p w → ∃ cs, w.heap[t]? = some (.cells cs T (0, 0)) ∧ cs[o]? = some (.int .u64 (of p : Int)) ∧ ∀ (v : Nat) w', Duo rb t w w' → w'.heap[t]? = some (.cells (cs.setIfInBounds o (.int .u64 (v : Int))) T (0, 0)) → Rp (set p v) w'
def DigL {ρ : Type} (rb t o : Nat) (T : TypeId) (Rp : ρ → World → Prop) (of : ρ → (List UInt8)) (set : ρ → (List UInt8) → ρ) : Prop := ∀ p w, Rp p w → ∃ cs, w.heap[t]? = some (.cells cs T (0, 0)) ∧ cs[o]? = some (.string ⟨(of p).toArray⟩) ∧ ∀ (v : (List UInt8)) w', Duo rb t w w' → w'.heap[t]? = some (.cells (cs.setIfInBounds o (.string ⟨v.toArray⟩)) T (0, 0)) → Rp (set p v) w'
def YesL {ρ : Type} (rb t o : Nat) (T : TypeId) (Rp : ρ → World → Prop) (of : ρ → Bool) (set : ρ → Bool → ρ) : Prop := ∀ p w, Rp p w → ∃ cs, w.heap[t]? = some (.cells cs T (0, 0)) ∧ cs[o]? = some (.bool (of p)) ∧ ∀ (v : Bool) w', Duo rb t w w' → w'.heap[t]? = some (.cells (cs.setIfInBounds o (.bool v)) T (0, 0)) → Rp (set p v) w'
def ListL {ρ α : Type} (E sz : Nat) (Rel : List α → List Value → World → Prop) (rb t o : Nat) (T : TypeId) (Rp : ρ → World → Prop) (of : ρ → List α) (set : ρ → List α → ρ) : Prop := ∀ p w, Rp p w → ∃ cs ao cp, w.heap[t]? = some (.cells cs T (0, 0)) ∧ cs[o]? = some (.slice ao (of p).length cp) ∧ (of p = [] → ao = none ∧ cp = 0) ∧ ∀ (l : List α) v xs w', Duo rb t w w' → w'.heap[t]? = some (.cells (cs.setIfInBounds o v) T (0, 0)) → w'.ownsRow (w.heap.size + 1) E sz v l.length xs → (Rel l xs w' ∧ Emp l v) → Rp (set p l) w'
theorem set_self {cs : Array Value} {o : Nat} {v : Value} (h : cs[o]? = some v) : cs.setIfInBounds o v = cs := by
  apply Array.ext_getElem?
  intro j
  rw [Array.getElem?_setIfInBounds]
  split
  · rename_i e; subst e
    rw [h, if_pos (Array.getElem?_eq_some_iff.1 h).1]
  · rfl
theorem Stored.duo {rb t o : Nat} {S : (List UInt8)} {a k : Nat} {v : Value} {w : World} {e : Ending} {w' : World} {cs : Array Value} {T : TypeId} (h : Stored rb t o S a k v w e w') (hrt : t ≠ rb) (ht : w.heap[t]? = some (.cells cs T (0, 0))) : e = .returned (.tuple #[]) ∧ w'.heap[t]? = some (.cells (cs.setIfInBounds o v) T (0, 0)) ∧ RQ rb S (a + k) 10240 w' ∧ Duo rb t w w' := by
  obtain ⟨h0, w1, rfl, hr, ho⟩ := h
  exact ⟨h0, lit_set _ ((ho.block t (lit_lt ht) hrt).trans ht), ⟨(lit_far v (fun e => hrt e.symm)).trans hr.r, hr.m⟩, (Duo.only ho).trans (Duo.only2 (Only.set t o v w1))⟩

def numRd (left : (List UInt8)) (a : Nat) : Res (Option Nat) := match takeE 0 left a with
  | .error f => .error f
  | .ok ((n, _), k) => .ok (if n = 0 then none else some n, k)
def digRd (left : (List UInt8)) (a : Nat) : Res (Option (List UInt8)) := match takeE 1 left a with
  | .error f => .error f
  | .ok ((_, t), k) => if digB t then .ok (some t, k) else .error (5, 0)
def yesRd (left : (List UInt8)) (a : Nat) : Res (Option Bool) := match takeE 0 left a with
  | .error f => .error f
  | .ok ((n, _), k) => .ok (if n = 1 then some true else none, k)
theorem step_num {ρ : Type} (c : UInt8) (kb : Nat) (of : ρ → Nat) (set : ρ → Nat → ρ) (p : ρ) (left : (List UInt8)) (a : Nat) : RW.step ⟨numFV c kb, numFld c of set, numRd⟩ p left a = match takeE 0 left a with
    | .error f => .error f
    | .ok ((n, _), k) => .ok (if n = 0 then p else set p n, k) := by
  unfold RW.step numRd
  dsimp only
  cases takeE 0 left a with
  | error f => rfl
  | ok q =>
    obtain ⟨⟨n, t⟩, k⟩ := q
    dsimp only
    by_cases h : n = 0
    · rw [if_pos h, if_pos h]
    · rw [if_neg h, if_neg h]; rfl
theorem step_yes {ρ : Type} (c : UInt8) (kb : Nat) (of : ρ → Bool) (set : ρ → Bool → ρ) (p : ρ) (left : (List UInt8)) (a : Nat) : RW.step ⟨yesFV c kb, yesFld c of set, yesRd⟩ p left a = match takeE 0 left a with
    | .error f => .error f
    | .ok ((n, _), k) => .ok (if n = 1 then set p true else p, k) := by
  unfold RW.step yesRd
  dsimp only
  cases takeE 0 left a with
  | error f => rfl
  | ok q =>
    obtain ⟨⟨n, t⟩, k⟩ := q
    dsimp only
    by_cases h : n = 1
    · rw [if_pos h, if_pos h]; rfl
    · rw [if_neg h, if_neg h]
theorem step_dig {ρ : Type} (c : UInt8) (kb : Nat) (of : ρ → (List UInt8)) (set : ρ → (List UInt8) → ρ) (p : ρ) (left : (List UInt8)) (a : Nat) : RW.step ⟨digFV c kb, digFld c of set, digRd⟩ p left a = match takeE 1 left a with
    | .error f => .error f
    | .ok ((_, t), k) => if digB t then .ok (set p t, k) else .error (5, 0) := by
  unfold RW.step digRd
  dsimp only
  cases takeE 1 left a with
  | error f => rfl
  | ok q =>
    obtain ⟨⟨n, t⟩, k⟩ := q
    dsimp only
    by_cases h : digB t = true
    · rw [if_pos h, if_pos h]; rfl
    · rw [if_neg h, if_neg h]
theorem duo_cap {rb t lo k : Nat} {v : Value} {ty : TypeId} {w0 w : World} (hd : Duo rb t w0 w) (hk : New lo k v ty w0) (hlo : rb < lo ∧ t < lo) : w.cell? ⟨k, 0, none⟩ = some v :=
  kCell ((hd.block k (lit_lt hk.2) (by have := hk.1; omega) (by have := hk.1; omega)).trans hk.2)

theorem read_num {ρ : Type} {w0 : World} {rb t : Nat} {S : (List UInt8)} {Rp : ρ → World → Prop} {lo kb o : Nat} {T : TypeId} {c : UInt8} {of : ρ → Nat} {set : ρ → Nat → ρ} (hk : New lo kb (.pointer (some ⟨t, o, none⟩)) 152 w0) (hlo : rb < lo ∧ t < lo) (hrt : t ≠ rb) (hS : S.length ≤ 1000000)
    (hL : NumL rb t o T Rp of set) (hz : ∀ p, of p = 0 → set p 0 = p) : ReadF w0 rb t S Rp ⟨numFV c kb, numFld c of set, numRd⟩ where
  key := rfl
  tE := fun _ _ => by kernel_rfl
  rE := fun _ _ => by kernel_rfl
  get left a := by
    show numG left a = _
    unfold numG numRd
    dsimp only
    cases takeE 0 left a with
    | error f => rfl
    | ok q =>
      obtain ⟨⟨n, t⟩, k⟩ := q
      simp only
      by_cases h : n = 0
      · rw [if_pos h, if_pos h]; rfl
      · rw [if_neg h, if_neg h]; rfl
  there w p hd hp := by
    obtain ⟨cs, h1, h2, _⟩ := hL p w hp
    have e : ((numFld c of set).view p).isSome = (of p != 0) := by
      show (if of p = 0 then none else some (of p)).isSome = _
      by_cases h : of p = 0 <;> simp [h]
    rw [e]
    exact number1_any kb t o (of p) w (duo_cap hd hk hlo) ((lit_cell h1 o).trans h2)
  read w p a hd hg hp hv hr ha := by
    obtain ⟨cs, h1, h2, h3⟩ := hL p w hp
    have hz0 : of p = 0 := by
      by_cases h : of p = 0
      · exact h
      · exfalso
        have : (if of p = 0 then none else some (of p)) = none := hv
        rw [if_neg h] at this; cases this
    have hkn : kb ≠ rb ∧ t ≠ rb ∧ kb ≠ t := by have := hk.1; omega
    obtain ⟨P, hP⟩ : ∃ P, takeP (S.drop a) 10240 0 = P := ⟨_, rfl⟩
    obtain ⟨hT, _, hle⟩ := took4 S a 0 ha P hP
    show Calls _ _ _ w (Read rb t S Rp a w.heap.size w (RW.step ⟨numFV c kb, numFld c of set, numRd⟩ p (S.drop a) a))
    rw [step_num, hT]
    by_cases hc : P.c = 0
    · rw [if_pos hc]
      refine (number3_ok rb kb t o S a P _ w ⟨hr, hg, hS, ha⟩ hP hc (duo_cap hd hk hlo) ((lit_cell h1 o).trans h2) (lit_free h1 o) hkn).mono ?_
      intro e w' hst
      obtain ⟨k1, k2, k3, k4⟩ := hst.duo hrt h1
      have hR := h3 P.n w' k4 k2
      by_cases hn : P.n = 0
      · simp only [hn, if_true]
        rw [hn, hz p hz0] at hR
        exact ⟨k1, hR, k3, hle, k4⟩
      · simp only [hn, if_false]
        exact ⟨k1, hR, k3, hle, k4⟩
    · rw [if_neg hc]
      refine (number3_bad rb kb t o P.c a _ w (fun w1 hb => rnumber_bad rb S a P w1 ((RdS.mk hr hg hS ha).next hb) hP hc) (duo_cap hd hk hlo) ((lit_cell h1 o).trans h2) (lit_free h1 o)).mono ?_
      rintro e w' ⟨hu, ho⟩
      exact ⟨hc, hu, Duo.only ho, _, h3 (of p) w' (Duo.only ho) (((ho.block t (lit_lt h1) hrt).trans h1).trans (by rw [set_self h2]))⟩
theorem read_yes {ρ : Type} {w0 : World} {rb t : Nat} {S : (List UInt8)} {Rp : ρ → World → Prop} {lo kb o : Nat} {T : TypeId} {c : UInt8} {of : ρ → Bool} {set : ρ → Bool → ρ} (hk : New lo kb (.pointer (some ⟨t, o, none⟩)) 188 w0) (hlo : rb < lo ∧ t < lo) (hrt : t ≠ rb) (hS : S.length ≤ 1000000)
    (hL : YesL rb t o T Rp of set) (hz : ∀ p, of p = false → set p false = p) : ReadF w0 rb t S Rp ⟨yesFV c kb, yesFld c of set, yesRd⟩ where
  key := rfl
  tE := fun _ _ => by kernel_rfl
  rE := fun _ _ => by kernel_rfl
  get left a := by
    show yesG left a = _
    unfold yesG yesRd
    dsimp only
    cases takeE 0 left a with
    | error f => rfl
    | ok q =>
      obtain ⟨⟨n, t⟩, k⟩ := q
      simp only
      by_cases h : n = 1
      · rw [if_pos h, if_pos h]; rfl
      · rw [if_neg h, if_neg h]; rfl
  there w p hd hp := by
    obtain ⟨cs, h1, h2, _⟩ := hL p w hp
    have e : ((yesFld c of set).view p).isSome = of p := by
      show (if of p then some true else none).isSome = _
      cases of p <;> rfl
    rw [e]
    exact yes1_any kb t o (of p) w (duo_cap hd hk hlo) ((lit_cell h1 o).trans h2)
  read w p a hd hg hp hv hr ha := by
    obtain ⟨cs, h1, h2, h3⟩ := hL p w hp
    have hz0 : of p = false := by
      cases h : of p with
      | false => rfl
      | true =>
        exfalso
        have : (if of p then some true else none) = none := hv
        rw [h] at this; cases this
    have hkn : kb ≠ rb ∧ t ≠ rb ∧ kb ≠ t := by have := hk.1; omega
    obtain ⟨P, hP⟩ : ∃ P, takeP (S.drop a) 10240 0 = P := ⟨_, rfl⟩
    obtain ⟨hT, _, hle⟩ := took4 S a 0 ha P hP
    show Calls _ _ _ w (Read rb t S Rp a w.heap.size w (RW.step ⟨yesFV c kb, yesFld c of set, yesRd⟩ p (S.drop a) a))
    rw [step_yes, hT]
    by_cases hc : P.c = 0
    · rw [if_pos hc]
      refine (yes3_ok rb kb t o S a P _ w ⟨hr, hg, hS, ha⟩ hP hc (duo_cap hd hk hlo) ((lit_cell h1 o).trans h2) (lit_free h1 o) hkn).mono ?_
      intro e w' hst
      obtain ⟨k1, k2, k3, k4⟩ := hst.duo hrt h1
      have hR := h3 (P.n == 1) w' k4 k2
      by_cases hn : P.n = 1
      · simp only [hn, if_true]
        rw [hn] at hR
        exact ⟨k1, hR, k3, hle, k4⟩
      · simp only [hn, if_false]
        rw [show (P.n == 1) = false by simpa using hn, hz p hz0] at hR
        exact ⟨k1, hR, k3, hle, k4⟩
    · rw [if_neg hc]
      refine (yes3_bad rb kb t o P.c a _ w (fun w1 hb => rnumber_bad rb S a P w1 ((RdS.mk hr hg hS ha).next hb) hP hc) (duo_cap hd hk hlo) ((lit_cell h1 o).trans h2) (lit_free h1 o)).mono ?_
      rintro e w' ⟨hu, ho⟩
      exact ⟨hc, hu, Duo.only ho, _, h3 (of p) w' (Duo.only ho) (((ho.block t (lit_lt h1) hrt).trans h1).trans (by rw [set_self h2]))⟩
theorem read_dig {ρ : Type} {w0 : World} {rb t : Nat} {S : (List UInt8)} {Rp : ρ → World → Prop} {lo kb o : Nat} {T : TypeId} {c : UInt8} {of : ρ → (List UInt8)} {set : ρ → (List UInt8) → ρ} (hk : New lo kb (.pointer (some ⟨t, o, none⟩)) 154 w0) (hlo : rb < lo ∧ t < lo) (hrt : t ≠ rb) (hS : S.length ≤ 1000000)
    (hL : DigL rb t o T Rp of set) : ReadF w0 rb t S Rp ⟨digFV c kb, digFld c of set, digRd⟩ where
  key := rfl
  tE := fun _ _ => by kernel_rfl
  rE := fun _ _ => by kernel_rfl
  get left a := by
    show digG left a = _
    unfold digG digRd
    dsimp only
    cases takeE 1 left a with
    | error f => rfl
    | ok q =>
      obtain ⟨⟨n, t⟩, k⟩ := q
      simp only
      by_cases h : digB t = true
      · rw [if_pos h, if_pos h]; rfl
      · rw [if_neg h, if_neg h]; rfl
  there w p hd hp := by
    obtain ⟨cs, h1, h2, _⟩ := hL p w hp
    have e : ((digFld c of set).view p).isSome = !(of p).isEmpty := by
      show (if of p = [] then none else some (of p)).isSome = _
      cases of p <;> rfl
    rw [e]
    exact digest1_any kb t o (of p) w (duo_cap hd hk hlo) ((lit_cell h1 o).trans h2)
  read w p a hd hg hp hv hr ha := by
    obtain ⟨cs, h1, h2, h3⟩ := hL p w hp
    have hkn : kb ≠ rb ∧ t ≠ rb ∧ kb ≠ t := by have := hk.1; omega
    obtain ⟨P, hP⟩ : ∃ P, takeP (S.drop a) 10240 1 = P := ⟨_, rfl⟩
    obtain ⟨hT, _, hle⟩ := took4 S a 1 ha P hP
    show Calls _ _ _ w (Read rb t S Rp a w.heap.size w (RW.step ⟨digFV c kb, digFld c of set, digRd⟩ p (S.drop a) a))
    rw [step_dig, hT]
    by_cases hc : P.c = 0
    · rw [if_pos hc]
      by_cases hl : P.t.length = 32
      · have hd1 : digB P.t = true := by simp [digB, hl]
        simp only [hd1, if_true]
        refine (digest3_ok rb kb t o S a P _ w ⟨hr, hg, hS, ha⟩ hP hc hl (duo_cap hd hk hlo) ((lit_cell h1 o).trans h2) (lit_free h1 o) hkn).mono ?_
        intro e w' hst
        obtain ⟨k1, k2, k3, k4⟩ := hst.duo hrt h1
        exact ⟨k1, h3 P.t w' k4 k2, k3, hle, k4⟩
      · have hd1 : digB P.t = false := by simp [digB, hl]
        simp only [hd1, Bool.false_eq_true, if_false]
        refine (digest3_bad rb kb t o 5 0 _ w (fun w1 hb => rdigest_len rb S a P w1 ((RdS.mk hr hg hS ha).next hb) hP hc hl) (duo_cap hd hk hlo) ((lit_cell h1 o).trans h2) (lit_free h1 o)).mono ?_
        rintro e w' ⟨hu, ho⟩
        exact ⟨by decide, hu, Duo.only ho, _, h3 (of p) w' (Duo.only ho) (((ho.block t (lit_lt h1) hrt).trans h1).trans (by rw [set_self h2]))⟩
    · rw [if_neg hc]
      refine (digest3_bad rb kb t o P.c a _ w (fun w1 hb => rdigest_bad rb S a P w1 ((RdS.mk hr hg hS ha).next hb) hP hc) (duo_cap hd hk hlo) ((lit_cell h1 o).trans h2) (lit_free h1 o)).mono ?_
      rintro e w' ⟨hu, ho⟩
      exact ⟨hc, hu, Duo.only ho, _, h3 (of p) w' (Duo.only ho) (((ho.block t (lit_lt h1) hrt).trans h1).trans (by rw [set_self h2]))⟩
end Go.Proofs.YtbkiijndhjmkdaaGreatDoor
/- Lists as fields that are read; a thing as a field that is read. -/
namespace Go.Proofs.YtbkiijndhjmkdaaGreatDoor
open Go.RowKit

theorem erd_dig (rb : Nat) (S : (List UInt8)) (a : Nat) (w : World) (h : RdS rb S a w) : Calls Tryz.prog 144 #[.agg #[.pointer (some ⟨rb, 0, none⟩)]] w (ERdS rb S a w (digG (S.drop a) a)) := by
  obtain ⟨P, hP⟩ : ∃ P, takeP (S.drop a) 10240 1 = P := ⟨_, rfl⟩
  obtain ⟨hT, _, hle⟩ := took4 S a 1 h.a P hP
  rw [digG, hT]
  by_cases hc : P.c = 0
  · rw [if_pos hc]
    by_cases hl : P.t.length = 32
    · simp only [show digB P.t = true by simp [digB, hl], if_true]
      refine (rdigest_ok rb S a P w h hP hc hl).mono ?_
      rintro e w' ⟨h1, h2, h3⟩
      exact ⟨h1, h2, hle, h3⟩
    · simp only [show digB P.t = false by simp [digB, hl], Bool.false_eq_true, if_false]
      refine (rdigest_len rb S a P w h hP hc hl).mono ?_
      rintro e w' ⟨h1, h2⟩
      exact ⟨by decide, h1, h2⟩
  · rw [if_neg hc]
    refine (rdigest_bad rb S a P w h hP hc).mono ?_
    rintro e w' ⟨h1, h2⟩
    exact ⟨hc, h1, h2⟩
theorem erd_num (rb : Nat) (S : (List UInt8)) (a : Nat) (w : World) (h : RdS rb S a w) : Calls Tryz.prog 138 #[.agg #[.pointer (some ⟨rb, 0, none⟩)]] w (ERdN rb S a w (anyG (S.drop a) a)) := by
  obtain ⟨P, hP⟩ : ∃ P, takeP (S.drop a) 10240 0 = P := ⟨_, rfl⟩
  obtain ⟨hT, _, hle⟩ := took4 S a 0 h.a P hP
  rw [anyG, hT]
  by_cases hc : P.c = 0
  · rw [if_pos hc]
    refine (rnumber_ok rb S a P w h hP hc).mono ?_
    rintro e w' ⟨h1, h2, h3⟩
    exact ⟨h1, h2, hle, h3⟩
  · rw [if_neg hc]
    refine (rnumber_bad rb S a P w h hP hc).mono ?_
    rintro e w' ⟨h1, h2⟩
    exact ⟨hc, h1, h2⟩
theorem lst_some {α : Type} (l : List α) : (lst l).isSome = decide (0 < l.length) := by cases l <;> simp [lst]
theorem lst_none {α : Type} {l : List α} (h : lst l = none) : l = [] := by
  cases l with
  | nil => rfl
  | cons x l => cases h
set_option maxRecDepth 100000 in
theorem read_strs {ρ : Type} {w0 : World} {rb t : Nat} {S : (List UInt8)} {Rp : ρ → World → Prop} {lo N o most : Nat} {T : TypeId} {c : UInt8} {of : ρ → List (List UInt8)} {set : ρ → List (List UInt8) → ρ} (hm : most ≤ 10240) (hk : NewS lo N t o most w0) (hlo : rb < lo ∧ t < lo) (hrt : t ≠ rb) (hS : S.length ≤ 1000000) (hG : 4 ≤ rb ∧ 4 ≤ t)
    (hL : ListL 9 1 RelS rb t o T Rp of set) (hz : ∀ p, of p = [] → set p [] = p) : ReadF w0 rb t S Rp ⟨listSFV c N, listFld c most hm digC of set, lrd most digG⟩ where
  key := rfl
  tE := fun _ _ => by kernel_rfl
  rE := fun _ _ => by kernel_rfl
  get left a := by
    refine (listG_lrd most digG left a).trans ?_
    dsimp only
    cases lrd most digG left a with
    | error f => rfl
    | ok q =>
      obtain ⟨vo, k⟩ := q
      cases vo <;> rfl
  there w p hd hp := by
    obtain ⟨cs, ao, cp, h1, h2, _⟩ := hL p w hp
    have e : ((listFld c most hm digC of set).view p).isSome = decide (0 < (of p).length) := lst_some (of p)
    rw [e]
    exact listS1_any N t o (of p).length cp ao w (kCell ((hd.block N (lit_lt hk.2.a) (by have := hk.1; omega) (by have := hk.1; omega)).trans hk.2.a)) ((lit_cell h1 o).trans h2)
  read w p a hd hg hp hv hr ha := by
    obtain ⟨cs, ao, cp, h1, h2, h3, h4⟩ := hL p w hp
    have hz0 : of p = [] := lst_none hv
    obtain ⟨rfl, rfl⟩ := h3 hz0
    rw [hz0] at h2
    have hN := hk.1
    have hb := fun k (h : N ≤ k) (hk0 : k < w0.heap.size) => hd.block k hk0 (by omega) (by omega)
    refine (listS3_any N (N + 1) (N + 1 + 1 + 1) t o rb 144 most #[] T cs digG S a w (fun _ _ => by kernel_rfl) ⟨hr, hg, hS, ha⟩ (kCell ((hb N (by omega) (lit_lt hk.2.a)).trans hk.2.a)) (kCell ((hb (N + 1) (by omega) (lit_lt hk.2.m)).trans hk.2.m)) (kCell ((hb (N + 1 + 1 + 1) (by omega) (lit_lt hk.2.r)).trans hk.2.r)) h1 h2 (by omega) hG hm (fun a1 w1 _ h => erd_dig rb S a1 w1 h)).mono ?_
    intro e w' hres
    show Read rb t S Rp a w.heap.size w (RW.step ⟨listSFV c N, listFld c most hm digC of set, lrd most digG⟩ p (S.drop a) a) e w'
    unfold RW.step lrd
    dsimp only
    cases hl : lraw most digG (S.drop a) a with
    | error f =>
      obtain ⟨c1, b1⟩ := f
      rw [hl] at hres
      obtain ⟨k1, k2, k3, l, v, xs, k4, k5, k6⟩ := hres
      exact ⟨k1, k2, k3, _, h4 l v xs w' k3 k4 k5 k6⟩
    | ok q =>
      obtain ⟨l, k⟩ := q
      rw [hl] at hres
      obtain ⟨k1, ⟨v, xs, k2, k3, k4⟩, k5, k6, k7⟩ := hres
      have hR := h4 l v xs w' k7 k2 k3 k4
      cases l with
      | nil =>
        rw [hz p hz0] at hR
        exact ⟨k1, hR, k5, k6, k7⟩
      | cons x l => exact ⟨k1, hR, k5, k6, k7⟩
set_option maxRecDepth 100000 in
theorem read_nums {ρ : Type} {w0 : World} {rb t : Nat} {S : (List UInt8)} {Rp : ρ → World → Prop} {lo N o most : Nat} {T : TypeId} {c : UInt8} {of : ρ → List Nat} {set : ρ → List Nat → ρ} (hm : most ≤ 10240) (hk : NewN lo N t o most w0) (hlo : rb < lo ∧ t < lo) (hrt : t ≠ rb) (hS : S.length ≤ 1000000) (hG : 4 ≤ rb ∧ 4 ≤ t)
    (hL : ListL 22 1 RelN rb t o T Rp of set) (hz : ∀ p, of p = [] → set p [] = p) : ReadF w0 rb t S Rp ⟨listNFV c N, listFld c most hm anyC of set, lrd most anyG⟩ where
  key := rfl
  tE := fun _ _ => by kernel_rfl
  rE := fun _ _ => by kernel_rfl
  get left a := by
    refine (listG_lrd most anyG left a).trans ?_
    dsimp only
    cases lrd most anyG left a with
    | error f => rfl
    | ok q =>
      obtain ⟨vo, k⟩ := q
      cases vo <;> rfl
  there w p hd hp := by
    obtain ⟨cs, ao, cp, h1, h2, _⟩ := hL p w hp
    have e : ((listFld c most hm anyC of set).view p).isSome = decide (0 < (of p).length) := lst_some (of p)
    rw [e]
    exact listN1_any N t o (of p).length cp ao w (kCell ((hd.block N (lit_lt hk.2.a) (by have := hk.1; omega) (by have := hk.1; omega)).trans hk.2.a)) ((lit_cell h1 o).trans h2)
  read w p a hd hg hp hv hr ha := by
    obtain ⟨cs, ao, cp, h1, h2, h3, h4⟩ := hL p w hp
    have hz0 : of p = [] := lst_none hv
    obtain ⟨rfl, rfl⟩ := h3 hz0
    rw [hz0] at h2
    have hN := hk.1
    have hb := fun k (h : N ≤ k) (hk0 : k < w0.heap.size) => hd.block k hk0 (by omega) (by omega)
    refine (listN3_any N (N + 1) (N + 1 + 1 + 1) t o rb 138 most #[] T cs anyG S a w (fun _ _ => by kernel_rfl) ⟨hr, hg, hS, ha⟩ (kCell ((hb N (by omega) (lit_lt hk.2.a)).trans hk.2.a)) (kCell ((hb (N + 1) (by omega) (lit_lt hk.2.m)).trans hk.2.m)) (kCell ((hb (N + 1 + 1 + 1) (by omega) (lit_lt hk.2.r)).trans hk.2.r)) h1 h2 (by omega) hG hm (fun a1 w1 _ h => erd_num rb S a1 w1 h)).mono ?_
    intro e w' hres
    show Read rb t S Rp a w.heap.size w (RW.step ⟨listNFV c N, listFld c most hm anyC of set, lrd most anyG⟩ p (S.drop a) a) e w'
    unfold RW.step lrd
    dsimp only
    cases hl : lraw most anyG (S.drop a) a with
    | error f =>
      obtain ⟨c1, b1⟩ := f
      rw [hl] at hres
      obtain ⟨k1, k2, k3, l, v, xs, k4, k5, k6⟩ := hres
      exact ⟨k1, k2, k3, _, h4 l v xs w' k3 k4 k5 k6⟩
    | ok q =>
      obtain ⟨l, k⟩ := q
      rw [hl] at hres
      obtain ⟨k1, ⟨v, xs, k2, k3, k4⟩, k5, k6, k7⟩ := hres
      have hR := h4 l v xs w' k7 k2 k3 k4
      cases l with
      | nil =>
        rw [hz p hz0] at hR
        exact ⟨k1, hR, k5, k6, k7⟩
      | cons x l => exact ⟨k1, hR, k5, k6, k7⟩

set_option maxRecDepth 100000 in
theorem thing3_any {σ : Type} (k rb fb cp n : Nat) (S : (List UInt8)) (Rp : σ → World → Prop) (a lo t : Nat) (res : Res σ) (w : World) (hk : w.cell? ⟨k, 0, none⟩ = some (.slice (some ⟨fb, 0, none⟩) n cp)) (hlo : lo ≤ w.heap.size)
    (hrow : ∀ w1, Below w.heap.size w w1 → Calls Tryz.prog 87 #[.agg #[.pointer (some ⟨rb, 0, none⟩)], .slice (some ⟨fb, 0, none⟩) n cp] w1 (Read rb t S Rp a w1.heap.size w1 res)) :
    Calls Tryz.prog 163 #[.agg #[.pointer (some ⟨rb, 0, none⟩)], .pointer (some ⟨k, 0, none⟩)] w (Read rb t S Rp a lo w res) := by
  have hk0 : k < w.heap.size := World.block_lt_of_cell? w _ hk
  have HB := Lib.hid (by0 w (.cells #[.pointer (some ⟨rb, 0, none⟩)] 158))
  have HC := Lib.hid (hrow _ HB.out)
  have hk1 := (World.cell?_alloc_lt w (.cells #[.pointer (some ⟨rb, 0, none⟩)] 158) ⟨k, 0, none⟩ hk0).trans hk
  have HLO := Lib.hid hlo
  clear hrow hk hlo
  cases res with
  | error f =>
    obtain ⟨c, b⟩ := f
    go_enter Tryz.func163, Tryz.ntmps163
    go_wp2_with (go_at_call 87; refine HC.out.mono ?_; rintro e w1 ⟨hc, ⟨f, hf, rfl, hf0, hf1⟩, hd, hq⟩)
    exact ⟨rfl, hc, ⟨f, by have := HB.out.size; have := HLO.out; omega, rfl, hf0, hf1⟩, (Duo.below HB.out).trans hd, hq⟩
  | ok q =>
    obtain ⟨p, j⟩ := q
    go_enter Tryz.func163, Tryz.ntmps163
    go_wp2_with (go_at_call 87; refine HC.out.mono ?_; rintro e w1 ⟨rfl, h1, h2, h3, h4⟩)
    exact bodyPost_end (results_none rfl _ _ _) rfl ⟨rfl, h1, h2, h3, (Duo.below HB.out).trans h4⟩

/-- a row of a thing within a thing -/
structure SubRow {σ : Type} (w0 : World) (rb t fb : Nat) (S : (List UInt8)) (fs : List FV) (zero : σ) (Rs : (σ → World → Prop) → Prop) (xs : List (RW σ)) : Prop where
  e : fs = xs.map (·.f)
  n : xs.length ≤ 8
  r : RowAt fb fs w0
  F : Flds (xs.map (·.g)) zero
  f : ∀ Rp, Rs Rp → ∀ x ∈ xs, ReadF w0 rb t S Rp x
theorem pairs_okV {ρ : Type} {fs : List (Fld ρ)} {zero : ρ} (F : Flds fs zero) {n : Nat} {left : (List UInt8)} {a k : Nat} {p : ρ} (h : pairsG n fs zero left a = .ok (p, k)) : okV fs p :=
  (pairs_back F n fs [] zero p left a k rfl (fun f hf v hv => by rw [F.none f hf] at hv; cases hv) F.none h).1
theorem mapG_congr {ρ : Type} {fs : List (Fld ρ)} {zero : ρ} (F : Flds fs zero) {fin fin' : ρ → Bool} (h : ∀ p, okV fs p → fin p = fin' p) (left : (List UInt8)) (a : Nat) : mapG fs zero fin left a = mapG fs zero fin' left a := by
  rw [mapG, mapG]
  cases takeE 4 left a with
  | error f => rfl
  | ok q =>
    obtain ⟨⟨n, t⟩, k⟩ := q
    dsimp only
    cases hp : pairsG n fs zero (left.drop k) (a + k) with
    | error f => rfl
    | ok r =>
      obtain ⟨p, k2⟩ := r
      dsimp only
      rw [h p (pairs_okV F hp)]
end Go.Proofs.YtbkiijndhjmkdaaGreatDoor
