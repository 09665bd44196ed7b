/- Layer 14's law: spoilt: what is kept in boxes, two rows that grow. -/
import Derived.Test.YtmnklonoelpidaaGreatDoorJ37
import Derived.Test.YtmnklonoelpidaaGreatDoorJ35
import Derived.Test.YtmnklonoelpidaaGreatDoorJ8
import Derived.Laws.AppendOwnNone
namespace Go.Proofs.YtmnklonoelpidaaGreatDoor
open Go.RowKit

/-- the signature, the participant and how they are spoilt in their boxes, and the results' -/
structure Sp14 (w0 : World) (A : Nat) (cs ds xs : Array Value) (wz : World) : Prop where
  sz : w0.heap.size = A
  o : Below A w0 wz
  m : A + 5 ≤ wz.heap.size
  a : wz.heap[A]? = some (.cells cs 48 (0, 0))
  b : wz.heap[A + 1]? = some (.cells ds 39 (0, 0))
  x : wz.heap[A + 2]? = some (.cells xs 54 (0, 0))
  r : wz.heap[A + 3]? = some (.cells #[.int .u64 0, .slice none 0 0, .slice none 0 0] 48 (0, 0))
  q : wz.heap[A + 4]? = some (.cells #[.string ⟨#[]⟩, .int .u64 0, .int .u64 0, .int .u64 0, .int .u64 0] 39 (0, 0))
theorem Sp14.kept {w0 : World} {A : Nat} {cs ds xs : Array Value} {wz wa : World} (h : Sp14 w0 A cs ds xs wz) (hk : Kept (fun j => j < A + 5) wz wa) : Sp14 w0 A cs ds xs wa := by
  have hm := h.m
  exact ⟨h.sz, h.o.trans (hk.below (by omega) (fun j hj => show j < A + 5 by omega)), Nat.le_trans hm hk.size, (hk.block _ (lit_lt h.a) (show A < A + 5 by omega)).trans h.a, (hk.block _ (lit_lt h.b) (show A + 1 < A + 5 by omega)).trans h.b, (hk.block _ (lit_lt h.x) (show A + 2 < A + 5 by omega)).trans h.x, (hk.block _ (lit_lt h.r) (show A + 3 < A + 5 by omega)).trans h.r, (hk.block _ (lit_lt h.q) (show A + 4 < A + 5 by omega)).trans h.q⟩
theorem Sp14.next {w0 : World} {A : Nat} {cs ds xs : Array Value} {wz wa : World} (h : Sp14 w0 A cs ds xs wz) (hb : Below wz.heap.size wz wa) : Sp14 w0 A cs ds xs wa := h.kept (Kept.of_below hb (fun j hj => by have := h.m; omega))
theorem Sp14.grown {w0 : World} {A b : Nat} {cs ds xs : Array Value} {wz wa : World} (h : Sp14 w0 A cs ds xs wz) (hg : wz.grownBy wa (some b)) (hb : A + 5 ≤ b) : Sp14 w0 A cs ds xs wa := h.kept ((Kept.of_grown hg).less (fun j _ hj => show j ≠ b by omega))
theorem Sp14.grown2 {w0 : World} {A : Nat} {r : Option Nat} {cs ds xs : Array Value} {wz wa : World} (h : Sp14 w0 A cs ds xs wz) (hg : wz.grownBy wa r) (hr : ∀ b, some b = r → A + 5 ≤ b) : Sp14 w0 A cs ds xs wa := h.kept ((Kept.refl (fun j => j < A + 5) wz).grown hg (fun j e _ hj => by have := hr j e; omega))
theorem Sp14.cell {w0 : World} {A g k : Nat} {v : Value} {cs ds xs : Array Value} {wz : World} (h : Sp14 w0 A cs ds xs wz) (hg : A + 5 ≤ g) : Sp14 w0 A cs ds xs (wz.setCell ⟨g, k, none⟩ v) := h.kept ((Kept.refl _ wz).setCell g k _ (fun _ hj => by omega))
theorem Sp14.putA {w0 : World} {A k : Nat} {v : Value} {cs ds xs : Array Value} {wz : World} (h : Sp14 w0 A cs ds xs wz) : Sp14 w0 A (cs.setIfInBounds k v) ds xs (wz.setCell ⟨A, k, none⟩ v) := by
  have hk : Kept (fun j => j ≠ A) wz (wz.setCell ⟨A, k, none⟩ v) := (Kept.refl _ wz).setCell A k _ (fun _ h => h rfl)
  exact ⟨h.sz, h.o.setCell (p := ⟨A, k, none⟩) (Nat.le_refl _) _, Nat.le_trans h.m hk.size, lit_set (k := k) v h.a, (hk.block _ (lit_lt h.b) (by omega)).trans h.b, (hk.block _ (lit_lt h.x) (by omega)).trans h.x, (hk.block _ (lit_lt h.r) (by omega)).trans h.r, (hk.block _ (lit_lt h.q) (by omega)).trans h.q⟩
theorem Sp14.putB {w0 : World} {A k : Nat} {v : Value} {cs ds xs : Array Value} {wz : World} (h : Sp14 w0 A cs ds xs wz) : Sp14 w0 A cs (ds.setIfInBounds k v) xs (wz.setCell ⟨A + 1, k, none⟩ v) := by
  have hk : Kept (fun j => j ≠ A + 1) wz (wz.setCell ⟨A + 1, k, none⟩ v) := (Kept.refl _ wz).setCell (A + 1) k _ (fun _ h => h rfl)
  exact ⟨h.sz, h.o.setCell (p := ⟨A + 1, k, none⟩) (show A ≤ A + 1 by omega) _, Nat.le_trans h.m hk.size, (hk.block _ (lit_lt h.a) (by omega)).trans h.a, lit_set (k := k) v h.b, (hk.block _ (lit_lt h.x) (by omega)).trans h.x, (hk.block _ (lit_lt h.r) (by omega)).trans h.r, (hk.block _ (lit_lt h.q) (by omega)).trans h.q⟩
/-- how far a row is: not begun, an empty literal, appended to -/
inductive RS14 where
  | no
  | lit (b : Nat)
  | row (v : Value)
def RS14.is (s : RS14) (L : List (List UInt8)) (B : Nat) (w : World) : Prop := match s with
  | .no => True
  | .lit b => B ≤ b ∧ w.heap[b]? = some (.cells #[] 9 (0, 0))
  | .row v => TRow B L v w
def RS14.blk : RS14 → Option Nat
  | .no => none
  | .lit b => some b
  | .row v => v.ownBlock
theorem RS14.lt {s : RS14} {L : List (List UInt8)} {B b : Nat} {w : World} (h : s.is L B w) (hb : s.blk = some b) : B ≤ b ∧ b < w.heap.size := by
  cases s with
  | no => cases hb
  | lit c => cases hb; exact ⟨h.1, lit_lt h.2⟩
  | row v => exact World.ownsRow.lt h b hb
theorem RS14.grown {s : RS14} {L : List (List UInt8)} {B c : Nat} {w w' : World} (h : s.is L B w) (hg : w.grownBy w' (some c)) (hc : s.blk ≠ some c) : s.is L B w' := by
  cases s with
  | no => trivial
  | lit d => exact ⟨h.1, (hg.block d (lit_lt h.2) hc).trans h.2⟩
  | row v => exact World.ownsRow.kept h hg (.inr hc)
theorem RS14.next {s : RS14} {L : List (List UInt8)} {B : Nat} {w w' : World} (h : s.is L B w) (hb : Below w.heap.size w w') : s.is L B w' := by
  cases s with
  | no => trivial
  | lit d => exact ⟨h.1, (hb.block d (lit_lt h.2)).trans h.2⟩
  | row v => exact trow_next h hb
/-- two rows, each somewhere -/
structure Rg14 (w0 : World) (A : Nat) (cs ds xs : Array Value) (s t : RS14) (L M : List (List UInt8)) (w : World) : Prop where
  p : Sp14 w0 A cs ds xs w
  u : s.is L (A + 5) w
  v : t.is M (A + 5) w
  d : ∀ b, s.blk = some b → t.blk ≠ some b
theorem Rg14.swap {w0 : World} {A : Nat} {cs ds xs : Array Value} {s t : RS14} {L M : List (List UInt8)} {w : World} (h : Rg14 w0 A cs ds xs s t L M w) : Rg14 w0 A cs ds xs t s M L w := ⟨h.p, h.v, h.u, fun b hb hs => h.d b hs hb⟩
theorem Rg14.start {w0 : World} {A : Nat} {cs ds xs : Array Value} {L M : List (List UInt8)} {w : World} (h : Sp14 w0 A cs ds xs w) : Rg14 w0 A cs ds xs .no .no L M w := ⟨h, trivial, trivial, fun _ hb => by cases hb⟩
theorem Rg14.al {w0 : World} {A : Nat} {cs ds xs : Array Value} {t : RS14} {L M : List (List UInt8)} {w : World} (h : Rg14 w0 A cs ds xs .no t L M w) : Rg14 w0 A cs ds xs (.lit w.heap.size) t L M (w.alloc (.cells #[] 9)) :=
  ⟨h.p.next (by0 w _), ⟨h.p.m, heap_alloc_new w _⟩, RS14.next h.v (by0 w _), fun b hb ht => by cases hb; have := (RS14.lt h.v ht).2; omega⟩
theorem Rg14.al2 {w0 : World} {A b : Nat} {cs ds xs : Array Value} {t : RS14} {L M : List (List UInt8)} {w : World} (h : Rg14 w0 A cs ds xs .no t L M w) (hb : w.heap.size = b) : Rg14 w0 A cs ds xs (.lit b) t L M (w.alloc (.cells #[] 9)) := by
  subst hb
  exact h.al
theorem Rg14.next {w0 : World} {A : Nat} {cs ds xs : Array Value} {s t : RS14} {L M : List (List UInt8)} {w w' : World} (h : Rg14 w0 A cs ds xs s t L M w) (hb : Below w.heap.size w w') : Rg14 w0 A cs ds xs s t L M w' := ⟨h.p.next hb, RS14.next h.u hb, RS14.next h.v hb, h.d⟩
theorem Rg14.drew {w0 : World} {A : Nat} {cs ds xs : Array Value} {s t : RS14} {L M : List (List UInt8)} {w : World} (h : Rg14 w0 A cs ds xs s t L M w) : Rg14 w0 A cs ds xs s t L M w.drew := h.next (Below.refl _ _).drew
theorem run_append_none14 {w : World} {base : Nat} {v : Value} {L : List (List UInt8)} {ty : TypeId} {c : Nat} (hown : TRow base L v w) : (Builtin.append_ #[41, 41] ty #[v, .slice none 0 c]).run Tryz.prog w = .ok v w := by
  obtain ⟨i0, hi, hz0, hz1, hz2⟩ := info_parts info_str
  rcases hown.2 with ⟨rfl, _⟩ | ⟨g, cap, cur, rfl, _, _, hnc, _⟩
  · simp [Builtin.append_, run_underlying (P := Tryz.prog) Tryz.underlying41, sizeOf, typeInfo, hi, Builtin.lenOf, Builtin.firstCells]
  · simp [Builtin.append_, run_underlying (P := Tryz.prog) Tryz.underlying41, sizeOf, typeInfo, hi, Builtin.lenOf, Builtin.firstCells, hnc, storeCells]
set_option maxHeartbeats 2000000 in
/-- append of any list of texts onto an empty literal, beside another row -/
theorem step_app14 {ops : Array Oper} {o : Oper} {a : Act} {K : Act → World → Prop} {Q : Exit → Act → World → Prop} {E : Prop} {w0 : World} {A : Nat} {cs ds xs : Array Value} {t : RS14} {L M : List (List UInt8)} {wz : World} {b n cap : Nat} {ao : Option Addr} (hgd : o.guard = none) (s x : Operand)
    (ho : o.op = .call { callee := .builtin .append, args := #[s, x], argTypes := #[41, 41] })
    (hs : a.eval s = .slice (some ⟨b, 0, none⟩) 0 0) (hx : a.eval x = .slice ao n cap) (hLn : L.length = n) (hS : Strs ao L w0) (hn : L.length ≤ 100000) (hR : Rg14 w0 A cs ds xs (.lit b) t L M wz)
    (h : ∀ v' w', Rg14 w0 A cs ds xs (.row v') t L M w' → K (a.put o.dst v') w') :
    if Region.wanted o (yielded ops a.tmps) = true then Oper.wp Tryz.prog o a wz K Q else E := by
  subst hLn
  obtain ⟨i0, hi, hz0, hz1, hz2⟩ := info_parts info_str
  have hE := hR.u
  have hown : wz.ownsRow (A + 5) 9 1 (.slice (some ⟨b, 0, none⟩) 0 0) 0 [] := ⟨rfl, .inr ⟨b, 0, #[], rfl, hE.1, hE.2, Nat.le_refl _, Nat.zero_le _, rfl, rfl⟩⟩
  have hSz : Strs ao L wz := hS.below (Nat.le_refl _) (by have := hR.p.o; rwa [← hR.p.sz] at this)
  have hbl := lit_lt hE.2
  by_cases hL : L.length = 0
  · have hL0 : L = [] := List.length_eq_zero_iff.1 hL
    subst hL0
    have hw : Region.wanted o (yielded ops a.tmps) = true := by simp [Region.wanted, hgd]
    rw [if_pos hw]
    have hfin : K (a.put o.dst (.slice (some ⟨b, 0, none⟩) 0 0)) wz := h _ _ ⟨hR.p, hown, hR.v, fun c hc => hR.d c hc⟩
    have hrun : (Builtin.append_ #[41, 41] o.type #[.slice (some ⟨b, 0, none⟩) 0 0, .slice ao 0 cap]).run Tryz.prog wz = .ok (.slice (some ⟨b, 0, none⟩) 0 0) wz := by
      cases ao with
      | none => exact run_append_none14 (base := A + 5) (L := []) hown
      | some ad => simp [Builtin.append_, run_underlying (P := Tryz.prog) Tryz.underlying41, sizeOf, typeInfo, hi, Builtin.lenOf, Builtin.firstCells, loadCells, loadCellsFrom, storeCells]
    unfold Oper.wp
    rw [List.length_nil] at hx
    simp [execOp, ho, resolve, invoke, builtin, hs, hx, hrun, Result.andThen]
    exact hfin
  · obtain ⟨c, off, rfl, h2, h3⟩ : ∃ c off, ao = some ⟨c, off, none⟩ ∧ c < wz.heap.size ∧ ∀ i (hi : i < L.length), wz.cell? ⟨c, off + i, none⟩ = some (.string ⟨L[i].toArray⟩) := by
      rcases hSz with h0 | h0
      · exact absurd (by rw [h0]; rfl) hL
      · exact h0
    refine step_append_lies _ hgd s x 41 ho (A + 5) 9 i0 (.string ⟨#[]⟩) 1 16 Tryz.underlying41 hi hz0 hz1 hz2 rfl (by decide) _ 0 [] hs hown ⟨c, off, none⟩ L.length cap (strC L) hx (by rw [strC_len, Nat.mul_one]) ?_ (strC_one L) (by omega) (by unfold maxLen; omega) (by omega) (Nat.le_trans hE.1 (Nat.le_of_lt hbl)) wz.heap.size rfl ?_
    · intro j u hu
      have hj : j < L.length := by
        have := (List.getElem?_eq_some_iff.1 hu).1
        rwa [strC_len] at this
      rw [strC_get hj] at hu
      cases hu
      rw [Addr.add_mid]
      exact h3 j hj
    · intro g cp w' hown' hg hat hgl
      rw [Nat.zero_add, List.nil_append] at hown'
      rw [Nat.zero_add]
      refine h _ w' ⟨hR.p.grown hg hE.1, hown', RS14.grown hR.v hg (hR.d b rfl), fun e he ht => ?_⟩
      have he : g = e := by simpa [RS14.blk, Value.ownBlock] using he
      subst he
      rcases hat with h1 | h1
      · have h1 : b = g := by simpa [Value.ownBlock] using h1
        subst h1
        exact hR.d b rfl ht
      · have := (RS14.lt hR.v ht).2
        omega
/-- texts that lie in a block from B on -/
def StB (B : Nat) (ao : Option Addr) (L : List (List UInt8)) (w : World) : Prop := L = [] ∨ ∃ b off, ao = some ⟨b, off, none⟩ ∧ B ≤ b ∧ b < w.heap.size ∧ ∀ i (h : i < L.length), w.cell? ⟨b, off + i, none⟩ = some (.string ⟨L[i].toArray⟩)
theorem StB.strs {B : Nat} {ao : Option Addr} {L : List (List UInt8)} {w : World} (h : StB B ao L w) : Strs ao L w := by
  rcases h with h | ⟨b, off, h1, _, h2, h3⟩
  · exact .inl h
  · exact .inr ⟨b, off, h1, h2, h3⟩
theorem StB.take {B : Nat} {ao : Option Addr} {L : List (List UInt8)} {w : World} (h : StB B ao L w) (m : Nat) : StB B ao (L.take m) w := by
  rcases h with h | ⟨b, off, h1, h2, h3, h4⟩
  · exact .inl (by rw [h, List.take_nil])
  · exact .inr ⟨b, off, h1, h2, h3, fun i hi => by rw [List.getElem_take]; exact h4 i (by rw [List.length_take] at hi; omega)⟩
theorem StB.kept {B : Nat} {ao : Option Addr} {L : List (List UInt8)} {w w' : World} (h : StB B ao L w) (hk : Kept (fun j => B ≤ j) w w') : StB B ao L w' := by
  rcases h with h | ⟨b, off, h1, h2, h3, h4⟩
  · exact .inl h
  · exact .inr ⟨b, off, h1, h2, Nat.lt_of_lt_of_le h3 hk.size, fun i hi => (World.cell?_of_block (a := ⟨b, off + i, none⟩) (hk.block b h3 h2)).trans (h4 i hi)⟩
theorem trow_stB {B : Nat} {X : List (List UInt8)} {v : Value} {w : World} (h : TRow B X v w) : ∃ ao cp, v = .slice ao X.length cp ∧ StB B ao X w ∧ X.length ≤ cp := by
  obtain ⟨ao, cp, rfl, h1, h2⟩ := strs_cap_of_row h
  refine ⟨ao, cp, rfl, ?_, h2⟩
  by_cases hX : X = []
  · exact .inl hX
  · rcases h1 with h1 | ⟨b, off, rfl, h3, h4⟩
    · exact .inl h1
    · exact .inr ⟨b, off, rfl, (World.ownsRow.lt h b rfl).1, h3, h4⟩
/-- a signature and a participant -/
structure SpD where
  i : Nat
  f : Nat
  l : Nat
  n : Nat
  W : List (List UInt8)
  P : List (List UInt8)
  wo : Option Addr
  po : Option Addr
  wc : Nat
  pc : Nat
  root : (List UInt8)
structure SpOk (B : Nat) (D : SpD) (w : World) : Prop where
  hW : StB B D.wo D.W w
  hP : StB B D.po D.P w
  wl : D.W.length ≤ 1000
  wb : ∀ x ∈ D.W, x.length ≤ 1000
  pc : D.P.length ≤ D.pc
  pl : D.P.length ≤ 2000
  pb : ∀ x ∈ D.P, x.length ≤ 1000
  rl : D.root.length ≤ 1000
  hi : D.i < 18446744073709551616
  hf : D.f < 18446744073709551616
  hl : D.l < 18446744073709551616
  hn : D.n < 18446744073709551616
theorem SpOk.kept {B : Nat} {D : SpD} {w w' : World} (h : SpOk B D w) (hk : Kept (fun j => B ≤ j) w w') : SpOk B D w' := ⟨h.hW.kept hk, h.hP.kept hk, h.wl, h.wb, h.pc, h.pl, h.pb, h.rl, h.hi, h.hf, h.hl, h.hn⟩
theorem kept3 (w : World) (A : Nat) (a b c : Value) : Kept (fun j => j ≠ A + 3) w (((w.setCell ⟨A + 3, 0, none⟩ a).setCell ⟨A + 3, 1, none⟩ b).setCell ⟨A + 3, 2, none⟩ c) := (((Kept.refl _ w).setCell (A + 3) 0 _ (fun _ h => h rfl)).setCell (A + 3) 1 _ (fun _ h => h rfl)).setCell (A + 3) 2 _ (fun _ h => h rfl)
theorem kept4 (w : World) (A : Nat) (s0 s1 s2 s3 s4 : Value) : Kept (fun j => j ≠ A + 4) w (((((w.setCell ⟨A + 4, 0, none⟩ s0).setCell ⟨A + 4, 1, none⟩ s1).setCell ⟨A + 4, 2, none⟩ s2).setCell ⟨A + 4, 3, none⟩ s3).setCell ⟨A + 4, 4, none⟩ s4) := (((((Kept.refl _ w).setCell (A + 4) 0 _ (fun _ h => h rfl)).setCell (A + 4) 1 _ (fun _ h => h rfl)).setCell (A + 4) 2 _ (fun _ h => h rfl)).setCell (A + 4) 3 _ (fun _ h => h rfl)).setCell (A + 4) 4 _ (fun _ h => h rfl)
/-- the end: the results' boxes are filled -/
def End34 (w0 : World) (A : Nat) (D : SpD) (a b c s0 s1 s2 s3 s4 : Value) (w : World) : Prop := w.cell? ⟨A + 3, 0, none⟩ = some a ∧ w.cell? ⟨A + 3, 1, none⟩ = some b ∧ w.cell? ⟨A + 3, 2, none⟩ = some c ∧ w.cell? ⟨A + 4, 0, none⟩ = some s0 ∧ w.cell? ⟨A + 4, 1, none⟩ = some s1 ∧ w.cell? ⟨A + 4, 2, none⟩ = some s2 ∧ w.cell? ⟨A + 4, 3, none⟩ = some s3 ∧ w.cell? ⟨A + 4, 4, none⟩ = some s4 ∧ SpOk (A + 5) D w ∧ Below A w0 w
theorem fin34 {w0 : World} {A : Nat} {cs ds xs : Array Value} {D : SpD} {w : World} (h : Sp14 w0 A cs ds xs w) (hD : SpOk (A + 5) D w) (a b c s0 s1 s2 s3 s4 : Value) : ((((((((w.setCell ⟨A + 3, 0, none⟩ a).setCell ⟨A + 3, 1, none⟩ b).setCell ⟨A + 3, 2, none⟩ c).setCell ⟨A + 4, 0, none⟩ s0).setCell ⟨A + 4, 1, none⟩ s1).setCell ⟨A + 4, 2, none⟩ s2).setCell ⟨A + 4, 3, none⟩ s3).setCell ⟨A + 4, 4, none⟩ s4).cell? ⟨A + 3, 0, none⟩ = some a ∧ ((((((((w.setCell ⟨A + 3, 0, none⟩ a).setCell ⟨A + 3, 1, none⟩ b).setCell ⟨A + 3, 2, none⟩ c).setCell ⟨A + 4, 0, none⟩ s0).setCell ⟨A + 4, 1, none⟩ s1).setCell ⟨A + 4, 2, none⟩ s2).setCell ⟨A + 4, 3, none⟩ s3).setCell ⟨A + 4, 4, none⟩ s4).cell? ⟨A + 3, 1, none⟩ = some b ∧ ((((((((w.setCell ⟨A + 3, 0, none⟩ a).setCell ⟨A + 3, 1, none⟩ b).setCell ⟨A + 3, 2, none⟩ c).setCell ⟨A + 4, 0, none⟩ s0).setCell ⟨A + 4, 1, none⟩ s1).setCell ⟨A + 4, 2, none⟩ s2).setCell ⟨A + 4, 3, none⟩ s3).setCell ⟨A + 4, 4, none⟩ s4).cell? ⟨A + 3, 2, none⟩ = some c ∧ ((((((((w.setCell ⟨A + 3, 0, none⟩ a).setCell ⟨A + 3, 1, none⟩ b).setCell ⟨A + 3, 2, none⟩ c).setCell ⟨A + 4, 0, none⟩ s0).setCell ⟨A + 4, 1, none⟩ s1).setCell ⟨A + 4, 2, none⟩ s2).setCell ⟨A + 4, 3, none⟩ s3).setCell ⟨A + 4, 4, none⟩ s4).cell? ⟨A + 4, 0, none⟩ = some s0 ∧ ((((((((w.setCell ⟨A + 3, 0, none⟩ a).setCell ⟨A + 3, 1, none⟩ b).setCell ⟨A + 3, 2, none⟩ c).setCell ⟨A + 4, 0, none⟩ s0).setCell ⟨A + 4, 1, none⟩ s1).setCell ⟨A + 4, 2, none⟩ s2).setCell ⟨A + 4, 3, none⟩ s3).setCell ⟨A + 4, 4, none⟩ s4).cell? ⟨A + 4, 1, none⟩ = some s1 ∧ ((((((((w.setCell ⟨A + 3, 0, none⟩ a).setCell ⟨A + 3, 1, none⟩ b).setCell ⟨A + 3, 2, none⟩ c).setCell ⟨A + 4, 0, none⟩ s0).setCell ⟨A + 4, 1, none⟩ s1).setCell ⟨A + 4, 2, none⟩ s2).setCell ⟨A + 4, 3, none⟩ s3).setCell ⟨A + 4, 4, none⟩ s4).cell? ⟨A + 4, 2, none⟩ = some s2 ∧ ((((((((w.setCell ⟨A + 3, 0, none⟩ a).setCell ⟨A + 3, 1, none⟩ b).setCell ⟨A + 3, 2, none⟩ c).setCell ⟨A + 4, 0, none⟩ s0).setCell ⟨A + 4, 1, none⟩ s1).setCell ⟨A + 4, 2, none⟩ s2).setCell ⟨A + 4, 3, none⟩ s3).setCell ⟨A + 4, 4, none⟩ s4).cell? ⟨A + 4, 3, none⟩ = some s3 ∧ ((((((((w.setCell ⟨A + 3, 0, none⟩ a).setCell ⟨A + 3, 1, none⟩ b).setCell ⟨A + 3, 2, none⟩ c).setCell ⟨A + 4, 0, none⟩ s0).setCell ⟨A + 4, 1, none⟩ s1).setCell ⟨A + 4, 2, none⟩ s2).setCell ⟨A + 4, 3, none⟩ s3).setCell ⟨A + 4, 4, none⟩ s4).cell? ⟨A + 4, 4, none⟩ = some s4 ∧ SpOk (A + 5) D ((((((((w.setCell ⟨A + 3, 0, none⟩ a).setCell ⟨A + 3, 1, none⟩ b).setCell ⟨A + 3, 2, none⟩ c).setCell ⟨A + 4, 0, none⟩ s0).setCell ⟨A + 4, 1, none⟩ s1).setCell ⟨A + 4, 2, none⟩ s2).setCell ⟨A + 4, 3, none⟩ s3).setCell ⟨A + 4, 4, none⟩ s4) ∧ Below A w0 ((((((((w.setCell ⟨A + 3, 0, none⟩ a).setCell ⟨A + 3, 1, none⟩ b).setCell ⟨A + 3, 2, none⟩ c).setCell ⟨A + 4, 0, none⟩ s0).setCell ⟨A + 4, 1, none⟩ s1).setCell ⟨A + 4, 2, none⟩ s2).setCell ⟨A + 4, 3, none⟩ s3).setCell ⟨A + 4, 4, none⟩ s4) := by
  have k3 := kept3 w A a b c
  have hr := lit_set (k := 2) c (lit_set (k := 1) b (lit_set (k := 0) a h.r))
  have hq := (k3.block _ (lit_lt h.q) (by omega)).trans h.q
  have o1 := ((h.o.setCell (p := ⟨A + 3, 0, none⟩) (show A ≤ A + 3 by omega) a).setCell (p := ⟨A + 3, 1, none⟩) (show A ≤ A + 3 by omega) b).setCell (p := ⟨A + 3, 2, none⟩) (show A ≤ A + 3 by omega) c
  generalize (((w.setCell ⟨A + 3, 0, none⟩ a).setCell ⟨A + 3, 1, none⟩ b).setCell ⟨A + 3, 2, none⟩ c) = w1 at *
  have k4 := kept4 w1 A s0 s1 s2 s3 s4
  have hq2 := lit_set (k := 4) s4 (lit_set (k := 3) s3 (lit_set (k := 2) s2 (lit_set (k := 1) s1 (lit_set (k := 0) s0 hq))))
  have hr2 := (k4.block _ (lit_lt hr) (by omega)).trans hr
  have o2 := ((((o1.setCell (p := ⟨A + 4, 0, none⟩) (show A ≤ A + 4 by omega) s0).setCell (p := ⟨A + 4, 1, none⟩) (show A ≤ A + 4 by omega) s1).setCell (p := ⟨A + 4, 2, none⟩) (show A ≤ A + 4 by omega) s2).setCell (p := ⟨A + 4, 3, none⟩) (show A ≤ A + 4 by omega) s3).setCell (p := ⟨A + 4, 4, none⟩) (show A ≤ A + 4 by omega) s4
  generalize (((((w1.setCell ⟨A + 4, 0, none⟩ s0).setCell ⟨A + 4, 1, none⟩ s1).setCell ⟨A + 4, 2, none⟩ s2).setCell ⟨A + 4, 3, none⟩ s3).setCell ⟨A + 4, 4, none⟩ s4) = w2 at *
  exact ⟨(lit_cell hr2 0).trans rfl, (lit_cell hr2 1).trans rfl, (lit_cell hr2 2).trans rfl, (lit_cell hq2 0).trans rfl, (lit_cell hq2 1).trans rfl, (lit_cell hq2 2).trans rfl, (lit_cell hq2 3).trans rfl, (lit_cell hq2 4).trans rfl, hD.kept ((k3.less (fun j _ hj => show j ≠ A + 3 by omega)).trans (k4.less (fun j _ hj => show j ≠ A + 4 by omega))), o2⟩
theorem fin43 {w0 : World} {A : Nat} {cs ds xs : Array Value} {D : SpD} {w : World} (h : Sp14 w0 A cs ds xs w) (hD : SpOk (A + 5) D w) (a b c s0 s1 s2 s3 s4 : Value) : ((((((((w.setCell ⟨A + 4, 0, none⟩ s0).setCell ⟨A + 4, 1, none⟩ s1).setCell ⟨A + 4, 2, none⟩ s2).setCell ⟨A + 4, 3, none⟩ s3).setCell ⟨A + 4, 4, none⟩ s4).setCell ⟨A + 3, 0, none⟩ a).setCell ⟨A + 3, 1, none⟩ b).setCell ⟨A + 3, 2, none⟩ c).cell? ⟨A + 3, 0, none⟩ = some a ∧ ((((((((w.setCell ⟨A + 4, 0, none⟩ s0).setCell ⟨A + 4, 1, none⟩ s1).setCell ⟨A + 4, 2, none⟩ s2).setCell ⟨A + 4, 3, none⟩ s3).setCell ⟨A + 4, 4, none⟩ s4).setCell ⟨A + 3, 0, none⟩ a).setCell ⟨A + 3, 1, none⟩ b).setCell ⟨A + 3, 2, none⟩ c).cell? ⟨A + 3, 1, none⟩ = some b ∧ ((((((((w.setCell ⟨A + 4, 0, none⟩ s0).setCell ⟨A + 4, 1, none⟩ s1).setCell ⟨A + 4, 2, none⟩ s2).setCell ⟨A + 4, 3, none⟩ s3).setCell ⟨A + 4, 4, none⟩ s4).setCell ⟨A + 3, 0, none⟩ a).setCell ⟨A + 3, 1, none⟩ b).setCell ⟨A + 3, 2, none⟩ c).cell? ⟨A + 3, 2, none⟩ = some c ∧ ((((((((w.setCell ⟨A + 4, 0, none⟩ s0).setCell ⟨A + 4, 1, none⟩ s1).setCell ⟨A + 4, 2, none⟩ s2).setCell ⟨A + 4, 3, none⟩ s3).setCell ⟨A + 4, 4, none⟩ s4).setCell ⟨A + 3, 0, none⟩ a).setCell ⟨A + 3, 1, none⟩ b).setCell ⟨A + 3, 2, none⟩ c).cell? ⟨A + 4, 0, none⟩ = some s0 ∧ ((((((((w.setCell ⟨A + 4, 0, none⟩ s0).setCell ⟨A + 4, 1, none⟩ s1).setCell ⟨A + 4, 2, none⟩ s2).setCell ⟨A + 4, 3, none⟩ s3).setCell ⟨A + 4, 4, none⟩ s4).setCell ⟨A + 3, 0, none⟩ a).setCell ⟨A + 3, 1, none⟩ b).setCell ⟨A + 3, 2, none⟩ c).cell? ⟨A + 4, 1, none⟩ = some s1 ∧ ((((((((w.setCell ⟨A + 4, 0, none⟩ s0).setCell ⟨A + 4, 1, none⟩ s1).setCell ⟨A + 4, 2, none⟩ s2).setCell ⟨A + 4, 3, none⟩ s3).setCell ⟨A + 4, 4, none⟩ s4).setCell ⟨A + 3, 0, none⟩ a).setCell ⟨A + 3, 1, none⟩ b).setCell ⟨A + 3, 2, none⟩ c).cell? ⟨A + 4, 2, none⟩ = some s2 ∧ ((((((((w.setCell ⟨A + 4, 0, none⟩ s0).setCell ⟨A + 4, 1, none⟩ s1).setCell ⟨A + 4, 2, none⟩ s2).setCell ⟨A + 4, 3, none⟩ s3).setCell ⟨A + 4, 4, none⟩ s4).setCell ⟨A + 3, 0, none⟩ a).setCell ⟨A + 3, 1, none⟩ b).setCell ⟨A + 3, 2, none⟩ c).cell? ⟨A + 4, 3, none⟩ = some s3 ∧ ((((((((w.setCell ⟨A + 4, 0, none⟩ s0).setCell ⟨A + 4, 1, none⟩ s1).setCell ⟨A + 4, 2, none⟩ s2).setCell ⟨A + 4, 3, none⟩ s3).setCell ⟨A + 4, 4, none⟩ s4).setCell ⟨A + 3, 0, none⟩ a).setCell ⟨A + 3, 1, none⟩ b).setCell ⟨A + 3, 2, none⟩ c).cell? ⟨A + 4, 4, none⟩ = some s4 ∧ SpOk (A + 5) D ((((((((w.setCell ⟨A + 4, 0, none⟩ s0).setCell ⟨A + 4, 1, none⟩ s1).setCell ⟨A + 4, 2, none⟩ s2).setCell ⟨A + 4, 3, none⟩ s3).setCell ⟨A + 4, 4, none⟩ s4).setCell ⟨A + 3, 0, none⟩ a).setCell ⟨A + 3, 1, none⟩ b).setCell ⟨A + 3, 2, none⟩ c) ∧ Below A w0 ((((((((w.setCell ⟨A + 4, 0, none⟩ s0).setCell ⟨A + 4, 1, none⟩ s1).setCell ⟨A + 4, 2, none⟩ s2).setCell ⟨A + 4, 3, none⟩ s3).setCell ⟨A + 4, 4, none⟩ s4).setCell ⟨A + 3, 0, none⟩ a).setCell ⟨A + 3, 1, none⟩ b).setCell ⟨A + 3, 2, none⟩ c) := by
  have k4 := kept4 w A s0 s1 s2 s3 s4
  have hq := lit_set (k := 4) s4 (lit_set (k := 3) s3 (lit_set (k := 2) s2 (lit_set (k := 1) s1 (lit_set (k := 0) s0 h.q))))
  have hr := (k4.block _ (lit_lt h.r) (by omega)).trans h.r
  have o1 := ((((h.o.setCell (p := ⟨A + 4, 0, none⟩) (show A ≤ A + 4 by omega) s0).setCell (p := ⟨A + 4, 1, none⟩) (show A ≤ A + 4 by omega) s1).setCell (p := ⟨A + 4, 2, none⟩) (show A ≤ A + 4 by omega) s2).setCell (p := ⟨A + 4, 3, none⟩) (show A ≤ A + 4 by omega) s3).setCell (p := ⟨A + 4, 4, none⟩) (show A ≤ A + 4 by omega) s4
  generalize (((((w.setCell ⟨A + 4, 0, none⟩ s0).setCell ⟨A + 4, 1, none⟩ s1).setCell ⟨A + 4, 2, none⟩ s2).setCell ⟨A + 4, 3, none⟩ s3).setCell ⟨A + 4, 4, none⟩ s4) = w1 at *
  have k3 := kept3 w1 A a b c
  have hr2 := lit_set (k := 2) c (lit_set (k := 1) b (lit_set (k := 0) a hr))
  have hq2 := (k3.block _ (lit_lt hq) (by omega)).trans hq
  have o2 := ((o1.setCell (p := ⟨A + 3, 0, none⟩) (show A ≤ A + 3 by omega) a).setCell (p := ⟨A + 3, 1, none⟩) (show A ≤ A + 3 by omega) b).setCell (p := ⟨A + 3, 2, none⟩) (show A ≤ A + 3 by omega) c
  generalize (((w1.setCell ⟨A + 3, 0, none⟩ a).setCell ⟨A + 3, 1, none⟩ b).setCell ⟨A + 3, 2, none⟩ c) = w2 at *
  exact ⟨(lit_cell hr2 0).trans rfl, (lit_cell hr2 1).trans rfl, (lit_cell hr2 2).trans rfl, (lit_cell hq2 0).trans rfl, (lit_cell hq2 1).trans rfl, (lit_cell hq2 2).trans rfl, (lit_cell hq2 3).trans rfl, (lit_cell hq2 4).trans rfl, hD.kept ((k4.less (fun j _ hj => show j ≠ A + 4 by omega)).trans (k3.less (fun j _ hj => show j ≠ A + 3 by omega))), o2⟩
theorem end34 {w0 : World} {A : Nat} {cs ds xs : Array Value} {D : SpD} {w : World} {a b c s0 s1 s2 s3 s4 : Value} (h : Sp14 w0 A cs ds xs w) (hD : SpOk (A + 5) D w) : End34 w0 A D a b c s0 s1 s2 s3 s4 ((((((((w.setCell ⟨A + 3, 0, none⟩ a).setCell ⟨A + 3, 1, none⟩ b).setCell ⟨A + 3, 2, none⟩ c).setCell ⟨A + 4, 0, none⟩ s0).setCell ⟨A + 4, 1, none⟩ s1).setCell ⟨A + 4, 2, none⟩ s2).setCell ⟨A + 4, 3, none⟩ s3).setCell ⟨A + 4, 4, none⟩ s4) := fin34 h hD a b c s0 s1 s2 s3 s4
theorem end43 {w0 : World} {A : Nat} {cs ds xs : Array Value} {D : SpD} {w : World} {a b c s0 s1 s2 s3 s4 : Value} (h : Sp14 w0 A cs ds xs w) (hD : SpOk (A + 5) D w) : End34 w0 A D a b c s0 s1 s2 s3 s4 ((((((((w.setCell ⟨A + 4, 0, none⟩ s0).setCell ⟨A + 4, 1, none⟩ s1).setCell ⟨A + 4, 2, none⟩ s2).setCell ⟨A + 4, 3, none⟩ s3).setCell ⟨A + 4, 4, none⟩ s4).setCell ⟨A + 3, 0, none⟩ a).setCell ⟨A + 3, 1, none⟩ b).setCell ⟨A + 3, 2, none⟩ c) := fin43 h hD a b c s0 s1 s2 s3 s4
theorem End34.drew {w0 : World} {A : Nat} {D : SpD} {a b c s0 s1 s2 s3 s4 : Value} {w : World} (h : End34 w0 A D a b c s0 s1 s2 s3 s4 w) : End34 w0 A D a b c s0 s1 s2 s3 s4 w.drew := by
  obtain ⟨h0, h1, h2, h3, h4, h5, h6, h7, h8, h9⟩ := h
  exact ⟨h0, h1, h2, h3, h4, h5, h6, h7, h8.kept (Kept.refl _ _).drew, h9.drew⟩
/-- what spoilt answers: some signature and participant -/
def SpO (wt : Nat) (w : World) (e : Ending) (w' : World) : Prop := ∃ D : SpD, e = .returned (.tuple #[.agg #[.int .u64 (D.i : Int), .slice D.wo D.W.length D.wc, .slice D.po D.P.length D.pc], .agg #[.string ⟨D.root.toArray⟩, .int .u64 (wt : Int), .int .u64 (D.f : Int), .int .u64 (D.l : Int), .int .u64 (D.n : Int)]]) ∧ SpOk (w.heap.size + 5) D w' ∧ Below w.heap.size w w'
theorem SpO.from {wt : Nat} {w : World} {D : SpD} {w' : World} (h : SpOk (w.heap.size + 5) D w') (hb : Below w.heap.size w w') : SpO wt w (.returned (.tuple #[.agg #[.int .u64 (D.i : Int), .slice D.wo D.W.length D.wc, .slice D.po D.P.length D.pc], .agg #[.string ⟨D.root.toArray⟩, .int .u64 (wt : Int), .int .u64 (D.f : Int), .int .u64 (D.l : Int), .int .u64 (D.n : Int)]])) w' := ⟨D, rfl, h, hb⟩
end Go.Proofs.YtmnklonoelpidaaGreatDoor
/- Layer 14's law: LadderVerifies: what lies in memory where a signature is spoilt, in whatever order. -/
namespace Go.Proofs.YtmnklonoelpidaaGreatDoor
open Go.RowKit

/-- behind u: a signature's box, if it is there, and a participant's -/
structure R13 (u : World) (o1 o2 : Option Nat) (wz : World) : Prop where
  b : Below u.heap.size u wz
  z1 : ∀ X, o1 = some X → u.heap.size ≤ X ∧ wz.heap[X]? = some (.cells #[.int .u64 0, .slice none 0 0, .slice none 0 0] 48 (0, 0))
  z2 : ∀ Y, o2 = some Y → u.heap.size ≤ Y ∧ wz.heap[Y]? = some (.cells #[.string ⟨#[]⟩, .int .u64 0, .int .u64 0, .int .u64 0, .int .u64 0] 39 (0, 0))
theorem R13.start (u : World) : R13 u none none u.drew := ⟨(Below.refl _ _).drew, (fun _ h => by cases h), (fun _ h => by cases h)⟩
theorem R13.next {u wz wa : World} {o1 o2 : Option Nat} (h : R13 u o1 o2 wz) (hb : Below wz.heap.size wz wa) : R13 u o1 o2 wa :=
  ⟨h.b.trans (hb.mono h.b.size), fun X e => ⟨(h.z1 X e).1, (hb.block _ (lit_lt (h.z1 X e).2)).trans (h.z1 X e).2⟩, fun Y e => ⟨(h.z2 Y e).1, (hb.block _ (lit_lt (h.z2 Y e).2)).trans (h.z2 Y e).2⟩⟩
theorem R13.al1 {u wz : World} {o2 : Option Nat} (h : R13 u none o2 wz) : R13 u (some wz.heap.size) o2 (wz.alloc (.cells #[.int .u64 0, .slice none 0 0, .slice none 0 0] 48)) := by
  have h2 := h.next (by0 wz (.cells #[.int .u64 0, .slice none 0 0, .slice none 0 0] 48))
  exact ⟨h2.b, fun X e => by cases e; exact ⟨h.b.size, heap_alloc_new wz _⟩, h2.z2⟩
theorem R13.al2 {u wz : World} {o1 : Option Nat} (h : R13 u o1 none wz) : R13 u o1 (some wz.heap.size) (wz.alloc (.cells #[.string ⟨#[]⟩, .int .u64 0, .int .u64 0, .int .u64 0, .int .u64 0] 39)) := by
  have h2 := h.next (by0 wz (.cells #[.string ⟨#[]⟩, .int .u64 0, .int .u64 0, .int .u64 0, .int .u64 0] 39))
  exact ⟨h2.b, h2.z1, fun Y e => by cases e; exact ⟨h.b.size, heap_alloc_new wz _⟩⟩
/-- the same, and what spoilt answered in the world wh -/
structure Q13 (u : World) (D : SpD) (Bs : Nat) (wh : World) (o1 o2 : Option Nat) (wz : World) : Prop where
  r : R13 u o1 o2 wz
  k : SpOk Bs D wh
  e : ∀ j, Bs ≤ j → j < wh.heap.size → wz.heap[j]? = wh.heap[j]?
  s : wh.heap.size ≤ wz.heap.size
  bs : u.heap.size ≤ Bs
  n1 : ∀ X, o1 = some X → X < Bs ∨ wh.heap.size ≤ X
  n2 : ∀ Y, o2 = some Y → Y < Bs ∨ wh.heap.size ≤ Y
theorem R13.spoilt {u wc wh : World} {D : SpD} {o1 o2 : Option Nat} (h : R13 u o1 o2 wc) (hb : Below wc.heap.size wc wh) (hk : SpOk (wc.heap.size + 5) D wh) : Q13 u D (wc.heap.size + 5) wh o1 o2 wh :=
  ⟨h.next hb, hk, fun _ _ _ => rfl, Nat.le_refl _, by have := h.b.size; omega, fun X e => .inl (by have := lit_lt (h.z1 X e).2; omega), fun Y e => .inl (by have := lit_lt (h.z2 Y e).2; omega)⟩
theorem Q13.next {u wh wz wa : World} {D : SpD} {Bs : Nat} {o1 o2 : Option Nat} (h : Q13 u D Bs wh o1 o2 wz) (hb : Below wz.heap.size wz wa) : Q13 u D Bs wh o1 o2 wa :=
  ⟨h.r.next hb, h.k, fun j h1 h2 => (hb.block j (by have := h.s; omega)).trans (h.e j h1 h2), Nat.le_trans h.s hb.size, h.bs, h.n1, h.n2⟩
theorem Q13.al1 {u wh wz : World} {D : SpD} {Bs : Nat} {o2 : Option Nat} (h : Q13 u D Bs wh none o2 wz) : Q13 u D Bs wh (some wz.heap.size) o2 (wz.alloc (.cells #[.int .u64 0, .slice none 0 0, .slice none 0 0] 48)) := by
  have h2 := h.next (by0 wz (.cells #[.int .u64 0, .slice none 0 0, .slice none 0 0] 48))
  exact ⟨h.r.al1, h.k, h2.e, h2.s, h.bs, fun X e => by cases e; exact .inr h.s, h.n2⟩
theorem Q13.al2 {u wh wz : World} {D : SpD} {Bs : Nat} {o1 : Option Nat} (h : Q13 u D Bs wh o1 none wz) : Q13 u D Bs wh o1 (some wz.heap.size) (wz.alloc (.cells #[.string ⟨#[]⟩, .int .u64 0, .int .u64 0, .int .u64 0, .int .u64 0] 39)) := by
  have h2 := h.next (by0 wz (.cells #[.string ⟨#[]⟩, .int .u64 0, .int .u64 0, .int .u64 0, .int .u64 0] 39))
  exact ⟨h.r.al2, h.k, h2.e, h2.s, h.bs, h.n1, fun Y e => by cases e; exact .inr h.s⟩
theorem SpOk.same {Bs : Nat} {D : SpD} {wh wz : World} (h : SpOk Bs D wh) (he : ∀ j, Bs ≤ j → j < wh.heap.size → wz.heap[j]? = wh.heap[j]?) (hs : wh.heap.size ≤ wz.heap.size) : SpOk Bs D wz := by
  have hg : ∀ {ao : Option Addr} {L : List (List UInt8)}, StB Bs ao L wh → StB Bs ao L wz := fun hL => by
    rcases hL with h0 | ⟨b, off, h1, h2, h3, h4⟩
    · exact .inl h0
    · exact .inr ⟨b, off, h1, h2, by omega, fun i hi => (World.cell?_of_block (a := ⟨b, off + i, none⟩) (he b h2 h3)).trans (h4 i hi)⟩
  exact ⟨hg h.hW, hg h.hP, h.wl, h.wb, h.pc, h.pl, h.pb, h.rl, h.hi, h.hf, h.hl, h.hn⟩
/-- the end: both boxes are filled -/
structure F13 (u : World) (D : SpD) (wt X Y : Nat) (wz : World) : Prop where
  b : Below u.heap.size u wz
  x : wz.heap[X]? = some (.cells #[.int .u64 (D.i : Int), .slice D.wo D.W.length D.wc, .slice D.po D.P.length D.pc] 48 (0, 0))
  y : wz.heap[Y]? = some (.cells #[.string ⟨D.root.toArray⟩, .int .u64 (wt : Int), .int .u64 (D.f : Int), .int .u64 (D.l : Int), .int .u64 (D.n : Int)] 39 (0, 0))
  k : ∃ Bs, u.heap.size ≤ Bs ∧ SpOk Bs D wz
  hx : u.heap.size ≤ X
  hy : u.heap.size ≤ Y
theorem F13.next {u wz wa : World} {D : SpD} {wt X Y : Nat} (h : F13 u D wt X Y wz) (hb : Below wz.heap.size wz wa) : F13 u D wt X Y wa := by
  obtain ⟨Bs, hbs, hk⟩ := h.k
  exact ⟨h.b.trans (hb.mono h.b.size), (hb.block _ (lit_lt h.x)).trans h.x, (hb.block _ (lit_lt h.y)).trans h.y, ⟨Bs, hbs, hk.same (fun j _ h2 => hb.block j h2) hb.size⟩, h.hx, h.hy⟩
theorem Q13.mid {u wh wz : World} {D : SpD} {Bs X Y : Nat} (h : Q13 u D Bs wh (some X) (some Y) wz) (a b c : Value) : (((wz.setCell ⟨X, 0, none⟩ a).setCell ⟨X, 1, none⟩ b).setCell ⟨X, 2, none⟩ c).heap[Y]? = some (.cells #[.string ⟨#[]⟩, .int .u64 0, .int .u64 0, .int .u64 0, .int .u64 0] 39 (0, 0)) ∧ Below u.heap.size u (((wz.setCell ⟨X, 0, none⟩ a).setCell ⟨X, 1, none⟩ b).setCell ⟨X, 2, none⟩ c) := by
  obtain ⟨hx0, hx⟩ := h.r.z1 X rfl
  obtain ⟨hy0, hy⟩ := h.r.z2 Y rfl
  have hne : X ≠ Y := fun e => by
    rw [e, hy] at hx
    cases hx
  have kx : Kept (fun j => j ≠ X) wz (((wz.setCell ⟨X, 0, none⟩ a).setCell ⟨X, 1, none⟩ b).setCell ⟨X, 2, none⟩ c) := (((Kept.refl _ wz).setCell X 0 _ (fun _ h => h rfl)).setCell X 1 _ (fun _ h => h rfl)).setCell X 2 _ (fun _ h => h rfl)
  exact ⟨(kx.block Y (lit_lt hy) (fun e => hne e.symm)).trans hy, ((h.r.b.setCell (p := ⟨X, 0, none⟩) hx0 a).setCell (p := ⟨X, 1, none⟩) hx0 b).setCell (p := ⟨X, 2, none⟩) hx0 c⟩
theorem Q13.end {u wh wz : World} {D : SpD} {Bs X Y wt : Nat} (h : Q13 u D Bs wh (some X) (some Y) wz) : F13 u D wt X Y ((((((((wz.setCell ⟨X, 0, none⟩ (.int .u64 (D.i : Int))).setCell ⟨X, 1, none⟩ (.slice D.wo D.W.length D.wc)).setCell ⟨X, 2, none⟩ (.slice D.po D.P.length D.pc)).setCell ⟨Y, 0, none⟩ (.string ⟨D.root.toArray⟩)).setCell ⟨Y, 1, none⟩ (.int .u64 (wt : Int))).setCell ⟨Y, 2, none⟩ (.int .u64 (D.f : Int))).setCell ⟨Y, 3, none⟩ (.int .u64 (D.l : Int))).setCell ⟨Y, 4, none⟩ (.int .u64 (D.n : Int))) := by
  obtain ⟨hx0, hx⟩ := h.r.z1 X rfl
  obtain ⟨hy0, hy⟩ := h.r.z2 Y rfl
  have hne : X ≠ Y := fun e => by
    rw [e, hy] at hx
    cases hx
  have kx : Kept (fun j => j ≠ X) wz (((wz.setCell ⟨X, 0, none⟩ (.int .u64 (D.i : Int))).setCell ⟨X, 1, none⟩ (.slice D.wo D.W.length D.wc)).setCell ⟨X, 2, none⟩ (.slice D.po D.P.length D.pc)) := (((Kept.refl _ wz).setCell X 0 _ (fun _ h => h rfl)).setCell X 1 _ (fun _ h => h rfl)).setCell X 2 _ (fun _ h => h rfl)
  have hx3 := lit_set (k := 2) (.slice D.po D.P.length D.pc) (lit_set (k := 1) (.slice D.wo D.W.length D.wc) (lit_set (k := 0) (.int .u64 (D.i : Int)) hx))
  have hy3 := (kx.block Y (lit_lt hy) (fun e => hne e.symm)).trans hy
  have b3 := ((h.r.b.setCell (p := ⟨X, 0, none⟩) hx0 (.int .u64 (D.i : Int))).setCell (p := ⟨X, 1, none⟩) hx0 (.slice D.wo D.W.length D.wc)).setCell (p := ⟨X, 2, none⟩) hx0 (.slice D.po D.P.length D.pc)
  generalize ((wz.setCell ⟨X, 0, none⟩ (.int .u64 (D.i : Int))).setCell ⟨X, 1, none⟩ (.slice D.wo D.W.length D.wc)).setCell ⟨X, 2, none⟩ (.slice D.po D.P.length D.pc) = w1 at *
  have ky : Kept (fun j => j ≠ Y) w1 (((((w1.setCell ⟨Y, 0, none⟩ (.string ⟨D.root.toArray⟩)).setCell ⟨Y, 1, none⟩ (.int .u64 (wt : Int))).setCell ⟨Y, 2, none⟩ (.int .u64 (D.f : Int))).setCell ⟨Y, 3, none⟩ (.int .u64 (D.l : Int))).setCell ⟨Y, 4, none⟩ (.int .u64 (D.n : Int))) := (((((Kept.refl _ w1).setCell Y 0 _ (fun _ h => h rfl)).setCell Y 1 _ (fun _ h => h rfl)).setCell Y 2 _ (fun _ h => h rfl)).setCell Y 3 _ (fun _ h => h rfl)).setCell Y 4 _ (fun _ h => h rfl)
  have hy5 := lit_set (k := 4) (.int .u64 (D.n : Int)) (lit_set (k := 3) (.int .u64 (D.l : Int)) (lit_set (k := 2) (.int .u64 (D.f : Int)) (lit_set (k := 1) (.int .u64 (wt : Int)) (lit_set (k := 0) (.string ⟨D.root.toArray⟩) hy3))))
  have hx5 := (ky.block X (lit_lt hx3) hne).trans hx3
  have b5 := ((((b3.setCell (p := ⟨Y, 0, none⟩) hy0 (.string ⟨D.root.toArray⟩)).setCell (p := ⟨Y, 1, none⟩) hy0 (.int .u64 (wt : Int))).setCell (p := ⟨Y, 2, none⟩) hy0 (.int .u64 (D.f : Int))).setCell (p := ⟨Y, 3, none⟩) hy0 (.int .u64 (D.l : Int))).setCell (p := ⟨Y, 4, none⟩) hy0 (.int .u64 (D.n : Int))
  generalize ((((w1.setCell ⟨Y, 0, none⟩ (.string ⟨D.root.toArray⟩)).setCell ⟨Y, 1, none⟩ (.int .u64 (wt : Int))).setCell ⟨Y, 2, none⟩ (.int .u64 (D.f : Int))).setCell ⟨Y, 3, none⟩ (.int .u64 (D.l : Int))).setCell ⟨Y, 4, none⟩ (.int .u64 (D.n : Int)) = w2 at *
  exact ⟨b5, hx5, hy5, ⟨Bs, h.bs, h.k.same (fun j h1 h2 => ((ky.block j (by have := h.s; have := kx.size; omega) (fun e => by rcases h.n2 Y rfl with g | g <;> omega)).trans (kx.block j (by have := h.s; omega) (fun e => by rcases h.n1 X rfl with g | g <;> omega))).trans (h.e j h1 h2)) (Nat.le_trans h.s (Nat.le_trans kx.size ky.size))⟩, hx0, hy0⟩
/-- the end's picture: what came in, cut; the signature and the participant -/
structure E13 (c : World → Prop) (D : SpD) (wt X Y : Nat) (wz : World) : Prop where
  v : c wz
  x : wz.heap[X]? = some (.cells #[.int .u64 (D.i : Int), .slice D.wo D.W.length D.wc, .slice D.po D.P.length D.pc] 48 (0, 0))
  y : wz.heap[Y]? = some (.cells #[.string ⟨D.root.toArray⟩, .int .u64 (wt : Int), .int .u64 (D.f : Int), .int .u64 (D.l : Int), .int .u64 (D.n : Int)] 39 (0, 0))
  k : ∃ Bs, SpOk Bs D wz
theorem E13.next {c : World → Prop} {D : SpD} {wt X Y : Nat} {wz wa : World} (hc : ∀ wz wa, c wz → Below wz.heap.size wz wa → c wa) (h : E13 c D wt X Y wz) (hb : Below wz.heap.size wz wa) : E13 c D wt X Y wa := by
  obtain ⟨Bs, hk⟩ := h.k
  exact ⟨hc _ _ h.v hb, (hb.block _ (lit_lt h.x)).trans h.x, (hb.block _ (lit_lt h.y)).trans h.y, Bs, hk.same (fun j _ h2 => hb.block j h2) hb.size⟩
theorem F13.e {u wz wa : World} {c : World → Prop} {D : SpD} {wt X Y : Nat} (h : F13 u D wt X Y wz) (hk : Kept (fun j => u.heap.size ≤ j) wz wa) (hc : c wa) : E13 c D wt X Y wa := by
  obtain ⟨Bs, hbs, ho⟩ := h.k
  exact ⟨hc, (hk.block _ (lit_lt h.x) h.hx).trans h.x, (hk.block _ (lit_lt h.y) h.hy).trans h.y, Bs, ho.kept (hk.less (fun j _ hj => Nat.le_trans hbs hj))⟩
end Go.Proofs.YtmnklonoelpidaaGreatDoor
