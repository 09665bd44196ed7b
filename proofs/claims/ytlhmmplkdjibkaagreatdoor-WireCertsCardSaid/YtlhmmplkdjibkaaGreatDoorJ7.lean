/- The first row that says a number of a sort. -/
import Derived.Test.YtlhmmplkdjibkaaGreatDoorJ6
import Derived.Laws.NewBlocks
import Derived.Lib.AppendStr
import Derived.RegionTactic
import Derived.Deep.RegionHeld3
import Derived.StillTailTactics
namespace Go.Proofs.YtlhmmplkdjibkaaGreatDoor.Pk
open Go.RowKit

/-- what lies while the rows are gone through: the sort, the number, the answer's place, the row that is looked at -/
structure Look (B : Nat) (w0 : World) (s : Int) (n i : Nat) (wr : World) : Prop where
  g : Glob wr
  cs : wr.heap[B]? = some (.cells #[.int .i64 s] 3 (0, 0))
  cn : wr.heap[B + 1]? = some (.cells #[.int .u64 (n : Int)] 22 (0, 0))
  cr : wr.heap[B + 1 + 1]? = some (.cells #[.int .i64 0, .int .u64 0, .int .u8 0, .int .i64 0] 250 (0, 0))
  ca : wr.heap[B + 1 + 1 + 1]? = some (.cells #[.int .i64 (i : Int)] 3 (0, 0))
  hb : Below B w0 wr
theorem Look.next {B : Nat} {w0 wr wx : World} {s : Int} {n i : Nat} (h : Look B w0 s n i wr) (hb : Below wr.heap.size wr wx) : Look B w0 s n i wx := by
  have z : B + 1 + 1 + 1 < wr.heap.size := (Array.getElem?_eq_some_iff.1 h.ca).1
  exact ⟨h.g.next hb, (hb.block _ (by omega)).trans h.cs, (hb.block _ (by omega)).trans h.cn, (hb.block _ (by omega)).trans h.cr, (hb.block _ z).trans h.ca, h.hb.trans (hb.mono (by omega))⟩
theorem Look.start (w : World) (s : Int) (n : Nat) (hg : Glob w) : Look w.heap.size w s n 0 ((((w.alloc (.cells #[.int .i64 s] 3)).alloc (.cells #[.int .u64 (n : Int)] 22)).alloc (.cells #[.int .i64 0, .int .u64 0, .int .u8 0, .int .i64 0] 250)).alloc (.cells #[.int .i64 0] 3)) := by
  have hb : Below w.heap.size w ((((w.alloc (.cells #[.int .i64 s] 3)).alloc (.cells #[.int .u64 (n : Int)] 22)).alloc (.cells #[.int .i64 0, .int .u64 0, .int .u8 0, .int .i64 0] 250)).alloc (.cells #[.int .i64 0] 3)) :=
    ((((Below.refl _ _).alloc (Nat.le_refl _) _).alloc (by simp) _).alloc (by simp <;> omega) _).alloc (by simp <;> omega) _
  refine ⟨hg.next hb, ?_, ?_, ?_, ?_, hb⟩
  · rw [heap_alloc_old (h := by simp <;> omega), heap_alloc_old (h := by simp <;> omega), heap_alloc_old (h := by simp), heap_alloc_new]
  · rw [heap_alloc_old (h := by simp <;> omega), heap_alloc_old (h := by simp), show w.heap.size + 1 = (w.alloc (.cells #[.int .i64 s] 3)).heap.size by simp, heap_alloc_new]
  · rw [heap_alloc_old (h := by simp), show w.heap.size + 1 + 1 = ((w.alloc (.cells #[.int .i64 s] 3)).alloc (.cells #[.int .u64 (n : Int)] 22)).heap.size by simp, heap_alloc_new]
  · rw [show w.heap.size + 1 + 1 + 1 = (((w.alloc (.cells #[.int .i64 s] 3)).alloc (.cells #[.int .u64 (n : Int)] 22)).alloc (.cells #[.int .i64 0, .int .u64 0, .int .u8 0, .int .i64 0] 250)).heap.size by simp, heap_alloc_new]; rfl
theorem Look.step {B : Nat} {w0 wr : World} {s : Int} {n i : Nat} (h : Look B w0 s n i wr) (z : Int) (hz : z = ((i + 1 : Nat) : Int)) (h0 : 1 < w0.heap.size) (hB : B = w0.heap.size) : Look B w0 s n (i + 1) (wr.setCell ⟨B + 1 + 1 + 1, 0, none⟩ (.int .i64 z)) := by
  subst hz
  have z : B + 1 + 1 + 1 < wr.heap.size := (Array.getElem?_eq_some_iff.1 h.ca).1
  have hb : Below B wr (wr.setCell ⟨B + 1 + 1 + 1, 0, none⟩ (.int .i64 ((i + 1 : Nat) : Int))) := (Below.refl _ _).setCell (by show B ≤ B + 1 + 1 + 1; omega) _
  exact ⟨h.g.below (by omega) hb, (lit_far _ (by omega)).trans h.cs, (lit_far _ (by omega)).trans h.cn, (lit_far _ (by omega)).trans h.cr, (lit_set _ h.ca).trans rfl, h.hb.trans hb⟩

set_option maxRecDepth 100000 in
set_option maxHeartbeats 1000000 in
theorem shortest_any (s : Int) (n : Nat) (w : World) (hg : Glob w) :
    Calls Tryz.prog 175 #[.int .i64 s, .int .u64 (n : Int)] w fun e w' =>
      ((∃ i, i < 14 ∧ saysB (rowAt i) s n = true ∧ (∀ j, j < i → saysB (rowAt j) s n = false) ∧ e = .returned (.tuple #[.agg (rowV (rowAt i)).toArray, .bool true])) ∨
        ((∀ j, j < 14 → saysB (rowAt j) s n = false) ∧ e = .returned (.tuple #[.agg #[.int .i64 0, .int .u64 0, .int .u8 0, .int .i64 0], .bool false]))) ∧ Below w.heap.size w w' := by
  have HG := Lib.hid hg
  clear hg
  go_enter Tryz.func175, Tryz.ntmps175
  go_wp2
  have HL0 := Lib.hid (Look.start w s n HG.out)
  go_loopw [] (fun wr => ∃ i : Nat, i < 14 ∧ Hid (∀ j, j < i → saysB (rowAt j) s n = false) ∧ Hid (Look w.heap.size w s n i wr))
    (fun wr => 14 - (match wr.cell? ⟨w.heap.size + 1 + 1 + 1, 0, none⟩ with | some (.int _ i) => i.toNat | _ => 0))
  case atStart => exact ⟨0, by decide, Lib.hid (fun j hj => by omega), HL0⟩
  case round =>
    obtain ⟨i, hi, HJ, HL⟩ := hrel
    have HS := Lib.hid (says_any (w.heap.size + 1 + 1 + 1) w.heap.size (w.heap.size + 1) i s n wr hi HL.out.g (lit_cell HL.out.ca 0) (lit_cell HL.out.cs 0) (lit_cell HL.out.cn 0))
    have z0 := (lit_cell HL.out.ca 0).trans rfl
    generalize hm : (14 - (match wr.cell? ⟨w.heap.size + 1 + 1 + 1, 0, none⟩ with | some (.int _ i) => i.toNat | _ => 0)) = M at *
    rw [z0] at hm
    have hM : M = 14 - i := by rw [← hm]; simp
    clear z0 hm HL0
    generalize hb : saysB (rowAt i) s n = b at HS
    have Hb := Lib.hid hb
    clear hb
    have i0 : (0 : Int) ≤ (i : Int) := by omega
    have i1 : (i : Int) < 14 := by omega
    cases b with
    | true =>
      go_wp2_with (go_at_call 185; refine HS.out.mono ?_; rintro e w1 ⟨rfl, b1⟩; have HL2 := Lib.hid (HL.out.next b1); have c0 := (lit_cell HL2.out.ca 0).trans rfl; obtain ⟨g0, g1, g2, g3⟩ := HL2.out.g.cells i hi; have r0 := (lit_cell HL2.out.cr 0).trans rfl; have r1 := (lit_cell HL2.out.cr 1).trans rfl; have r2 := (lit_cell HL2.out.cr 2).trans rfl; have r3 := (lit_cell HL2.out.cr 3).trans rfl; have f0 := lit_free HL2.out.cr 0; have f1 := lit_free HL2.out.cr 1; have f2 := lit_free HL2.out.cr 2; have f3 := lit_free HL2.out.cr 3)
      have HL2 := Lib.hid (HL.out.next b1)
      refine bodyPost_ret (v := .tuple #[.agg (rowV (rowAt i)).toArray, .bool true]) ?_ rfl ⟨.inl ⟨i, hi, Hb.out, HJ.out, rfl⟩, ?_⟩
      · simp [results, Tryz.results175, go_sem, rowV, *]
      · have hN : w.heap.size ≤ w.heap.size + 1 + 1 := by omega
        exact (((HL2.out.hb.setCell hN _).setCell hN _).setCell hN _).setCell hN _
    | false =>
      by_cases hl : i = 13
      · have e1 : ((i : Int) + 1 == 14) = true := by rw [hl]; rfl
        go_wp2_with (go_at_call 185; refine HS.out.mono ?_; rintro e w1 ⟨rfl, b1⟩; have HL2 := Lib.hid (HL.out.next b1); have c0 := (lit_cell HL2.out.ca 0).trans rfl; have fa := lit_free HL2.out.ca 0; have r0 := (lit_cell HL2.out.cr 0).trans rfl; have r1 := (lit_cell HL2.out.cr 1).trans rfl; have r2 := (lit_cell HL2.out.cr 2).trans rfl; have r3 := (lit_cell HL2.out.cr 3).trans rfl; have f0 := lit_free HL2.out.cr 0; have f1 := lit_free HL2.out.cr 1; have f2 := lit_free HL2.out.cr 2; have f3 := lit_free HL2.out.cr 3)
        refine bodyPost_ret (v := .tuple #[.agg #[.int .i64 0, .int .u64 0, .int .u8 0, .int .i64 0], .bool false]) ?_ rfl ⟨.inr ⟨fun j hj => ?_, rfl⟩, ?_⟩
        · simp [results, Tryz.results175, go_sem, *]
        · by_cases hji : j < i
          · exact HJ.out j hji
          · obtain rfl : j = i := by omega
            exact Hb.out
        · have hN : w.heap.size ≤ w.heap.size + 1 + 1 := by omega
          have hM : w.heap.size ≤ w.heap.size + 1 + 1 + 1 := by omega
          exact ((((HL2.out.hb.setCell hM _).setCell hN _).setCell hN _).setCell hN _).setCell hN _
      · have e1 : ((i : Int) + 1 == 14) = false := by rw [beq_eq_false_iff_ne]; omega
        go_wp2_with (go_at_call 185; refine HS.out.mono ?_; rintro e w1 ⟨rfl, b1⟩; have HL2 := Lib.hid (HL.out.next b1); have c0 := (lit_cell HL2.out.ca 0).trans rfl; have fa := lit_free HL2.out.ca 0)
        refine ⟨⟨i + 1, by omega, Lib.hid (fun j hj => ?_), Lib.hid (HL2.out.step _ (by omega) (by have := HG.out.size; omega) rfl)⟩, ?_⟩
        · by_cases hji : j < i
          · exact HJ.out j hji
          · obtain rfl : j = i := by omega
            exact Hb.out
        · have hz := (lit_cell (HL2.out.step ((i : Int) + 1) (by omega) (by have := HG.out.size; omega) rfl).ca 0).trans rfl
          rw [hz, hM]
          simp
          omega
end Go.Proofs.YtlhmmplkdjibkaaGreatDoor.Pk
/- A number laid in a row's way, behind what lies already. -/
namespace Go.Proofs.YtlhmmplkdjibkaaGreatDoor.Pk
open Go.RowKit

/-- the bytes of a text, as memory has them -/
def byV (L : List UInt8) : List Value := L.map fun b => .int .u8 (b.toNat : Int)
theorem byV_cat (L M : List UInt8) : byV (L ++ M) = byV L ++ byV M := List.map_append ..
theorem info5a : (Tryz.prog.info? 5).map (fun i => (i.zero, i.size, i.bytes)) = some (some (.int .u8 0), 1, 1) := by kernel_rfl
theorem info5b : ∃ i0, Tryz.prog.info? 5 = some i0 ∧ i0.zero = some (.int .u8 0) ∧ i0.size = 1 ∧ i0.bytes = 1 := info_parts info5a
theorem one_cell {wr wa : World} {v : Value} (hc : wa.cell? ⟨wr.heap.size, 0, none⟩ = some v) : ∀ (j : Nat) (u : Value), [v][j]? = some u → wa.cell? ((⟨wr.heap.size, 0, none⟩ : Addr).add j) = some u := by
  intro j u hj
  match j, hj with
  | 0, hj => simp at hj; subst hj; simpa [Addr.add] using hc

/-- a block that a writer may turn: bytes, or a writer -/
def Wild (o : Obj) : Prop := ∃ cs fl, o = .cells cs 5 fl ∨ o = .cells cs 165 fl
/-- below B all is as it was; and so is all that a writer may not turn -/
structure Bel (B : Nat) (w w' : World) : Prop where
  b : Below B w w'
  k : ∀ (k : Nat) (o : Obj), w.heap[k]? = some o → ¬ Wild o → w'.heap[k]? = some o
theorem Bel.refl (B : Nat) (w : World) : Bel B w w := ⟨Below.refl _ _, fun _ _ h _ => h⟩
theorem Bel.trans {B : Nat} {w w1 w2 : World} (h : Bel B w w1) (k : Bel B w1 w2) : Bel B w w2 := ⟨h.b.trans k.b, fun i o hi hn => k.k i o (h.k i o hi hn) hn⟩
theorem Bel.mono {B B' : Nat} {w w1 : World} (h : Bel B w w1) (hB : B' ≤ B) : Bel B' w w1 := ⟨h.b.mono hB, h.k⟩
theorem Bel.size {B : Nat} {w w1 : World} (h : Bel B w w1) : w.heap.size ≤ w1.heap.size := h.b.size
theorem Bel.block {B : Nat} {w w1 : World} (h : Bel B w w1) (k : Nat) (hk : k < B) : w1.heap[k]? = w.heap[k]? := h.b.block k hk
theorem Bel.fresh {B : Nat} {w w1 : World} (h : Below w.heap.size w w1) (hB : B ≤ w.heap.size) : Bel B w w1 := ⟨h.mono hB, fun k _ hk _ => (h.block k (lit_lt hk)).trans hk⟩
theorem Bel.alloc {B : Nat} {w w1 : World} (h : Bel B w w1) (hB : B ≤ w1.heap.size) (o : Obj) : Bel B w (w1.alloc o) := h.trans (Bel.fresh (by0 w1 o) hB)
theorem Bel.setW {B b j : Nat} {w w1 : World} {cs : Array Value} (h : Bel B w w1) (hB : B ≤ b) (hb : w1.heap[b]? = some (.cells cs 165 (0, 0))) (v : Value) : Bel B w (w1.setCell ⟨b, j, none⟩ v) :=
  h.trans ⟨(Below.refl _ _).setCell hB _, fun k o hk hn => (lit_far v (fun e => hn (by subst e; rw [hb] at hk; cases hk; exact ⟨_, _, .inr rfl⟩))).trans hk⟩
theorem Bel.grown {w w1 : World} {base : Nat} {v : Value} {n : Nat} {xs : List Value} (hown : w.ownsRow base 5 1 v n xs) (hg : w.grownBy w1 v.ownBlock) (hb : base ≤ w.heap.size) : Bel base w w1 :=
  ⟨(Below.refl _ _).grown hg hb (fun k e => (hown.lt k e).1), fun k o hk hn => (hg.block k (lit_lt hk) (fun e => hn (by
    rcases hown.2 with ⟨rfl, _⟩ | ⟨g, cap, cur, rfl, _, h2, _⟩
    · cases e
    · cases e; rw [h2] at hk; cases hk; exact ⟨_, _, .inl rfl⟩))).trans hk⟩

/-- append of one byte to the bytes that lie so far -/
theorem append_byte {ops : Array Oper} {rest : List Oper} {o : Oper} {a : Act} {Q : Exit → Act → World → Prop} {wr : World} {base : Nat} {L : List UInt8} {v : Value} {c : Int} {n : Nat} (b : UInt8) (N : Nat) (hN : wr.heap.size = N) (hgd : o.guard = none) (s x : Operand)
    (ho : o.op = .call { callee := .builtin .append, args := #[s, x], argTypes := #[77, 77] })
    (hs : a.eval s = v) (hx : a.eval x = .slice (some ⟨N, 0, none⟩) 1 1) (hn : L.length = n) (hown : wr.ownsRow base 5 1 v n (byV L)) (hc : c = (b.toNat : Int)) (hm : n ≤ 100000000) (h0 : base ≤ wr.heap.size)
    (h : ∀ v' w', w'.ownsRow base 5 1 v' (n + 1) (byV (L ++ [b])) → Bel base wr w' → (∀ k, k < wr.heap.size → v.ownBlock ≠ some k → w'.heap[k]? = wr.heap[k]?) → wpList Tryz.prog ops Q rest (a.put o.dst v') w') :
    wpList Tryz.prog ops Q (o :: rest) a (wr.alloc (.cells #[.int .u8 c] 5)) := by
  subst hN
  obtain ⟨i0, hi, hz0, hz1, hz2⟩ := info5b
  refine wpList_append_own _ hgd s x 77 ho base 5 i0 (.int .u8 0) 1 1 Tryz.underlying77 hi hz0 hz1 hz2 rfl (by decide) v n _ hs (hown.alloc _) ⟨wr.heap.size, 0, none⟩ 1 1 [.int .u8 c] hx rfl ?_ ?_ (by unfold maxLen; omega) (by omega) (by rw [World.size_alloc]; omega) ?_
  · exact one_cell ((lit_cell (heap_alloc_new wr _) 0).trans rfl)
  · intro u hu; simp at hu; subst hu; rfl
  · intro v' w' hown' hg _
    have e : byV L ++ [.int .u8 c] = byV (L ++ [b]) := by rw [byV_cat, hc]; rfl
    rw [e] at hown'
    exact h v' w' hown' ((Bel.fresh (by0 wr _) h0).trans (Bel.grown (hown.alloc _) hg (by rw [World.size_alloc]; omega)))
      (fun k hk hne => (hg.block k (by rw [World.size_alloc]; omega) (fun e => hne e.symm)).trans (heap_alloc_old _ _ hk))

/-- a number laid in a row's way -/
def rowP (r : RowP) (n : Nat) : List UInt8 := if r.size = 0 then [UInt8.ofNat (r.f + n)] else UInt8.ofNat r.f :: be n r.size
set_option maxRecDepth 100000 in
set_option maxHeartbeats 1000000 in
theorem head_any (r : RowP) (n : Nat) (base : Nat) (v : Value) (L : List UInt8) (w : World) (hr : r.size ≤ 8) (hf : r.f < 256) (hfn : r.size = 0 → r.f + n < 256) (hn : n < 18446744073709551616) (hL : L.length ≤ 50000000)
    (hown : w.ownsRow base 5 1 v L.length (byV L)) (h0 : base ≤ w.heap.size) :
    Calls Tryz.prog 176 #[.agg (rowV r).toArray, v, .int .u64 (n : Int)] w fun e w' => ∃ v', e = .returned v' ∧ w'.ownsRow base 5 1 v' (L ++ rowP r n).length (byV (L ++ rowP r n)) ∧ Bel base w w' := by
  obtain ⟨rs, rl, rf, rz⟩ := r
  have hf : rf < 256 := hf
  have hfn : rz = 0 → rf + n < 256 := hfn
  have hr : rz ≤ 8 := hr
  have ho1 := hown.alloc (.cells #[.int .i64 rs, .int .u64 (rl : Int), .int .u8 (rf : Int), .int .i64 (rz : Int)] 250)
  have hb1 : Bel base w (w.alloc (.cells #[.int .i64 rs, .int .u64 (rl : Int), .int .u8 (rf : Int), .int .i64 (rz : Int)] 250)) := Bel.fresh (by0 w _) h0
  have hz1 : base ≤ (w.alloc (.cells #[.int .i64 rs, .int .u64 (rl : Int), .int .u8 (rf : Int), .int .i64 (rz : Int)] 250)).heap.size := by rw [World.size_alloc]; omega
  have hcz := fun i => lit_cell (heap_alloc_new w (.cells #[.int .i64 rs, .int .u64 (rl : Int), .int .u8 (rf : Int), .int .i64 (rz : Int)] 250)) i
  have hne : v.ownBlock ≠ some w.heap.size := fun e => by have := (hown.lt _ e).2; omega
  clear hown
  by_cases hz : rz = 0
  · subst hz
    have hn' := hfn rfl
    have e0 : rowP ⟨rs, rl, rf, 0⟩ n = [UInt8.ofNat (rf + n)] := rfl
    rw [e0]
    have hc : (rf : Int) + (n : Int) = ((UInt8.ofNat (rf + n)).toNat : Int) := by rw [UInt8.toNat_ofNat']; omega
    obtain ⟨c, hcc⟩ : ∃ c, UInt8.ofNat (rf + n) = c := ⟨_, rfl⟩
    rw [hcc] at hc ⊢
    have HC := Lib.hid hc
    clear hc hcz hcc
    show Calls _ _ #[.agg #[.int .i64 rs, .int .u64 (rl : Int), .int .u8 (rf : Int), .int .i64 0], v, _] _ _
    go_enter Tryz.func176, Tryz.ntmps176
    go_wp2_with (at_builtin; refine append_byte c (w.heap.size + 1) (by simp) rfl _ _ rfl rfl rfl rfl ho1 HC.out (by omega) hz1 ?_)
    intro v' w1 ho2 hb2 _
    go_wp2
    go_ret
    exact ⟨v', rfl, by rw [List.length_append]; exact ho2, hb1.trans hb2⟩
  · have e0 : rowP ⟨rs, rl, rf, rz⟩ n = UInt8.ofNat rf :: be n rz := if_neg hz
    rw [e0]
    have HC := Lib.hid (show (rf : Int) = ((UInt8.ofNat rf).toNat : Int) by rw [UInt8.toNat_ofNat']; omega)
    have e1 : ((rz : Int) == 0) = false := by rw [beq_eq_false_iff_ne]; omega
    have HZ := Lib.hid (show 0 < rz ∧ rz ≤ 8 by omega)
    clear hz hr hfn e0
    show Calls _ _ #[.agg #[.int .i64 rs, .int .u64 (rl : Int), .int .u8 (rf : Int), .int .i64 (rz : Int)], v, _] _ _
    have c3 := (hcz 3).trans rfl
    go_enter Tryz.func176, Tryz.ntmps176
    go_wp2_with (at_builtin; refine append_byte (UInt8.ofNat rf) (w.heap.size + 1) (by simp) rfl _ _ rfl rfl rfl rfl ho1 HC.out (by omega) hz1 ?_)
    intro v1 w1 ho2 hb2 hk2
    have c4 := (lit_cell ((hk2 w.heap.size (by simp) hne).trans (heap_alloc_new _ _)) 3).trans rfl
    have hb3 := hb1.trans hb2
    clear hb1 hb2 hk2 c3 hz1 ho1
    go_wp2
    have HL := Lib.hid hL
    clear e1 c4 hL
    go_loopw [1, 7] (fun v i wr => ∃ j : Nat, ∃ D : List UInt8, j ≤ rz ∧ Hid (D ++ be n j = be n rz) ∧ D.length = rz - j ∧ i = .int .i64 ((j : Int) - 1) ∧ wr.ownsRow base 5 1 v (L.length + 1 + D.length) (byV ((L ++ [UInt8.ofNat rf]) ++ D)) ∧ base ≤ wr.heap.size ∧ Bel base w wr)
      (fun _ i _ => ((intOf i) + 1).toNat)
    case atStart => exact ⟨rz, [], Nat.le_refl _, Lib.hid rfl, by simp, by go_num, by simpa using ho2, by have := hb3.size; omega, hb3⟩
    case round =>
      obtain ⟨j, D, hj, HD, hDl, rfl, hown, hz, hbe⟩ := hrel
      cases j with
      | zero =>
        have hD : D = be n rz := by have := HD.out; rwa [be, List.append_nil] at this
        rw [hD, List.append_assoc] at hown
        have hl : L.length + 1 + (be n rz).length = (L ++ UInt8.ofNat rf :: be n rz).length := by simp; omega
        rw [hl] at hown
        go_wp2
        go_ret
        exact ⟨_, rfl, hown, hbe⟩
      | succ k =>
        have a1 : ((k + 1 : Nat) : Int) - 1 = (k : Int) := by omega
        have hq : (n : Int) / 2 ^ (8 * k) % 256 = ((UInt8.ofNat (n / 256 ^ k)).toNat : Int) := by
          rw [← byte_mod, show (2 : Int) ^ (8 * k) = ((256 ^ k : Nat) : Int) by rw [Int.pow_mul]; push_cast; rfl]
          push_cast
          rfl
        rw [a1]
        have HQ := Lib.hid hq
        have HD2 := Lib.hid (show (D ++ [UInt8.ofNat (n / 256 ^ k)]) ++ be n k = be n rz by rw [← HD.out, List.append_assoc]; rfl)
        obtain ⟨c, hcc⟩ : ∃ c, UInt8.ofNat (n / 256 ^ k) = c := ⟨_, rfl⟩
        rw [hcc] at HQ HD2
        clear hq hcc a1
        have hll : ((L ++ [UInt8.ofNat rf]) ++ D).length = L.length + 1 + D.length := by simp; omega
        have HLL := Lib.hid hll
        have HM := Lib.hid (show L.length + 1 + D.length ≤ 100000000 by have := HL.out; have := HZ.out; omega)
        clear hll
        go_wp2_with (at_builtin; refine append_byte c wr.heap.size rfl rfl _ _ rfl rfl rfl HLL.out hown HQ.out HM.out hz ?_)
        intro v2 w2 hown2 hb2 _
        go_wp2
        go_roundw
        case rel =>
          have e : L.length + 1 + (D ++ [c]).length = L.length + 1 + (rz - (k + 1)) + 1 := by simp; omega
          refine ⟨k, D ++ [c], by omega, HD2, by simp; omega, by go_num, ?_, by have := hb2.size; omega, hbe.trans hb2⟩
          rw [e]
          simpa using hown2
        case measure => simp [intOf] <;> omega
end Go.Proofs.YtlhmmplkdjibkaaGreatDoor.Pk
/- A thing's row, and what it counts, laid behind what lies already. -/
namespace Go.Proofs.YtlhmmplkdjibkaaGreatDoor.Pk
open Go.RowKit

/-- append of a text, as a step of a region that draws -/
theorem step_append_str {ops : Array Oper} {o : Oper} {a : Act} {K : Act → World → Prop} {Q : Exit → Act → World → Prop} {E : Prop} {w : World} (hgd : o.guard = none) (s x : Operand)
    (ho : o.op = .call { callee := .builtin .append, args := #[s, x], argTypes := #[77, 9] }) (base : Nat) (v : Value) (L T : List UInt8) (hs : a.eval s = v) (hx : a.eval x = .string ⟨T.toArray⟩)
    (hown : w.ownsRow base 5 1 v L.length (byV L)) (hm : L.length + T.length ≤ 100000000) (h0 : base ≤ w.heap.size)
    (h : ∀ v' w', w'.ownsRow base 5 1 v' (L ++ T).length (byV (L ++ T)) → Bel base w w' → K (a.put o.dst v') w') :
    if Region.wanted o (yielded ops a.tmps) = true then Oper.wp Tryz.prog o a w K Q else E := by
  have hw : Region.wanted o (yielded ops a.tmps) = true := by simp [Region.wanted, hgd]
  rw [if_pos hw]
  obtain ⟨i0, hi, hz0, hz1, hz2⟩ := info5b
  obtain ⟨v', w', hr, h2, h3, _⟩ := Lib.run_append_own_string (P := Tryz.prog) w base 77 9 o.type 5 i0 Tryz.underlying77 Tryz.underlying9 hi hz0 hz1 hz2 v L.length _ hown ⟨T.toArray⟩ (by show L.length + T.length ≤ maxLen; unfold maxLen; omega) (by show L.length + T.length ≤ _; omega) h0
  unfold Oper.wp execOp
  simp only [ho, resolve, invoke, builtin, Sem.run_bind, Sem.run_pure, Result.andThen_ok, List.map_toArray, List.map_cons, List.map_nil, hs, hx, hr]
  refine h v' w' ?_ (Bel.grown hown h3 h0)
  have e : byV L ++ Lib.strCells ⟨T.toArray⟩ = byV (L ++ T) := by rw [byV_cat]; rfl
  rw [← e, List.length_append]
  exact h2

theorem shortest_yes (s : Int) (n i : Nat) (w : World) (hg : Glob w) (hi : i < 14) (hs : saysB (rowAt i) s n = true) (hj : ∀ j, j < i → saysB (rowAt j) s n = false) :
    Calls Tryz.prog 175 #[.int .i64 s, .int .u64 (n : Int)] w fun e w' => e = .returned (.tuple #[.agg (rowV (rowAt i)).toArray, .bool true]) ∧ Below w.heap.size w w' := by
  refine (shortest_any s n w hg).mono ?_
  rintro e w' ⟨⟨k, _, hk, hk2, rfl⟩ | ⟨hk, _⟩, hb⟩
  · have : k = i := by
      rcases Nat.lt_trichotomy k i with h | h | h
      · have := hj k h; rw [hk] at this; cases this
      · exact h
      · have := hk2 i h; rw [hs] at this; cases this
    exact ⟨by rw [this], hb⟩
  · have := hk i hi; rw [hs] at this; cases this
theorem shortest_no (s : Int) (n : Nat) (w : World) (hg : Glob w) (hj : ∀ j, j < 14 → saysB (rowAt j) s n = false) :
    Calls Tryz.prog 175 #[.int .i64 s, .int .u64 (n : Int)] w fun e w' => e = .returned (.tuple #[.agg #[.int .i64 0, .int .u64 0, .int .u8 0, .int .i64 0], .bool false]) ∧ Below w.heap.size w w' := by
  refine (shortest_any s n w hg).mono ?_
  rintro e w' ⟨⟨k, hk0, hk, hk2, rfl⟩ | ⟨hk, rfl⟩, hb⟩
  · have := hj k hk0; rw [hk] at this; cases this
  · exact ⟨rfl, hb⟩
theorem slice_of_own {w : World} {base : Nat} {v : Value} {n : Nat} {xs : List Value} (h : w.ownsRow base 5 1 v n xs) : ∃ ao ln cp, v = .slice ao ln cp := by
  rcases h.2 with ⟨rfl, _⟩ | ⟨g, cap, cur, rfl, _⟩
  · exact ⟨_, _, _, rfl⟩
  · exact ⟨_, _, _, rfl⟩
theorem rowP_len (r : RowP) (n : Nat) (h : r.size ≤ 8) : (rowP r n).length ≤ 9 := by
  unfold rowP
  split
  · simp
  · rw [List.length_cons, be_length]; omega
theorem rows_fit : ∀ i, i < 14 → (rowAt i).size ≤ 8 ∧ (rowAt i).f < 256 ∧ ((rowAt i).size = 0 → (rowAt i).f + (rowAt i).last < 256) := by decide
theorem says_le {r : RowP} {s : Int} {n : Nat} (h : saysB r s n = true) : n ≤ r.last := by
  unfold saysB at h
  simp at h
  exact h.2

/-- at block b lies a writer whose bytes are L, all of its memory from block B on; the table lies -/
structure Wr (B b : Nat) (L : List UInt8) (w : World) : Prop where
  pos : 1 < B
  hB : B ≤ b
  g : Glob w
  h : ∃ v, w.heap[b]? = some (.cells #[v] 165 (0, 0)) ∧ w.ownsRow (b + 1) 5 1 v L.length (byV L)
theorem Wr.lt {B b : Nat} {L : List UInt8} {w : World} (h : Wr B b L w) : b < w.heap.size := by
  obtain ⟨v, h1, _⟩ := h.h
  exact (Array.getElem?_eq_some_iff.1 h1).1
theorem Wr.next {B b : Nat} {L : List UInt8} {w w' : World} (h : Wr B b L w) (hb : Below w.heap.size w w') : Wr B b L w' := by
  have hl := h.lt
  obtain ⟨v, h1, h2⟩ := h.h
  exact ⟨h.pos, h.hB, h.g.next hb, v, (hb.block _ hl).trans h1, h2.kept (w' := w') (row := none) ⟨hb.os, hb.tape, hb.output, hb.size, fun k hk _ => hb.block k hk⟩ (by
    cases hv : v.ownBlock with
    | none => exact .inl rfl
    | some k => exact .inr (fun e => by cases e))⟩

theorem Wr.stored {B b : Nat} {L : List UInt8} {w : World} {v x : Value} (hp : 1 < B) (hB : B ≤ b) (g : Glob w) (hb : w.heap[b]? = some (.cells #[x] 165 (0, 0))) (hown : w.ownsRow (b + 1) 5 1 v L.length (byV L)) :
    Wr B b L (w.setCell ⟨b, 0, none⟩ v) := by
  have hlt : Below B w (w.setCell ⟨b, 0, none⟩ v) := (Below.refl _ _).setCell hB _
  refine ⟨hp, hB, g.below hp hlt, v, (lit_set v hb).trans rfl, hown.kept (w' := w.setCell ⟨b, 0, none⟩ v) (row := some b) ⟨rfl, rfl, rfl, hlt.size, fun k _ hk => lit_far v (fun e => hk (by rw [e]))⟩ ?_⟩
  cases hv : v.ownBlock with
  | none => exact .inl rfl
  | some k => exact .inr (fun e => by cases e; have := (hown.lt _ hv).1; omega)

set_option maxRecDepth 100000 in
set_option maxHeartbeats 1000000 in
theorem lay_yes (B b : Nat) (L T : List UInt8) (s : Int) (n : Nat) (i : Nat) (w : World) (hW : Wr B b L w) (hL : L.length < 10000000) (hT : T.length < 10000000) (hn : n < 18446744073709551616)
    (hi : i < 14) (hs : saysB (rowAt i) s n = true) (hj : ∀ j, j < i → saysB (rowAt j) s n = false) :
    Calls Tryz.prog 140 #[.pointer (some ⟨b, 0, none⟩), .int .i64 s, .int .u64 (n : Int), .string ⟨T.toArray⟩] w fun e w' => e = .returned (.int .i64 0) ∧ Wr B b (L ++ (rowP (rowAt i) n ++ T)) w' ∧ Bel B w w' := by
  have HS := Lib.hid (shortest_yes s n i w hW.g hi hs hj)
  have HF := Lib.hid (rows_fit i hi)
  have HN := Lib.hid (says_le hs)
  have HW := Lib.hid hW
  clear hs hj hi hW
  generalize rowAt i = r at *
  obtain ⟨rs, rl, rf, rz⟩ := r
  simp only [rowV] at HS
  have hrl : (rowP ⟨rs, rl, rf, rz⟩ n).length ≤ 9 := rowP_len _ _ HF.out.1
  obtain ⟨P, hP⟩ : ∃ P, rowP ⟨rs, rl, rf, rz⟩ n = P := ⟨_, rfl⟩
  rw [hP] at hrl ⊢
  have HPL := Lib.hid hrl
  clear hrl
  go_enter Tryz.func140, Tryz.ntmps140
  go_wp2_with (go_at_call 175; refine HS.out.mono ?_; rintro e w1 ⟨rfl, b1⟩)
  have hz1 := b1.size
  have HW2 := Lib.hid ((HW.out.next b1).next (by0 w1 (.cells #[.int .i64 rs, .int .u64 (rl : Int), .int .u8 (rf : Int), .int .i64 (rz : Int)] 250)))
  have HW2 := Lib.hid (HW2.out.next (Below.refl _ _).drew)
  have HB2 := Lib.hid ((b1.trans ((by0 w1 (.cells #[.int .i64 rs, .int .u64 (rl : Int), .int .u8 (rf : Int), .int .i64 (rz : Int)] 250)).mono hz1)).drew)
  have HR := Lib.hid (fun i => lit_cell (w := (w1.alloc (.cells #[.int .i64 rs, .int .u64 (rl : Int), .int .u8 (rf : Int), .int .i64 (rz : Int)] 250)).drew) (heap_alloc_new w1 (.cells #[.int .i64 rs, .int .u64 (rl : Int), .int .u8 (rf : Int), .int .i64 (rz : Int)] 250)) i)
  refine wp_region_any (by kernel_rfl) ?_
  change wpAny _ _ _ _ _ _ _ (World.drew _)
  generalize (w1.alloc (.cells #[.int .i64 rs, .int .u64 (rl : Int), .int .u8 (rf : Int), .int .i64 (rz : Int)] 250)).drew = w2 at *
  generalize w1.heap.size = N at *
  obtain ⟨v, hv, hown⟩ := HW2.out.h
  have HV := Lib.hid hv
  have HO := Lib.hid hown
  have hlt := HW2.out.lt
  have HH := Lib.hid (head_any ⟨rs, rl, rf, rz⟩ n (b + 1) v L w2 HF.out.1 HF.out.2.1 (fun e => by have h1 := HF.out.2.2 e; have h2 := HN.out; show rf + n < 256; omega) hn (by omega) hown (by omega))
  simp only [rowV, hP] at HH
  have hl9 := hL
  have HP := Lib.hid HW2.out.pos
  have HBb := Lib.hid HW2.out.hB
  have HG2 := Lib.hid HW2.out.g
  have HSZ := Lib.hid (show B ≤ w.heap.size by have := HW.out.lt; have := HW.out.hB; omega)
  clear hown HS b1 hz1
  refine wpAny_take (i := 0) (oi := ⟨some 21, .move (.tmp 0), _, _, _, none⟩) (v := .pointer (some ⟨b, 0, none⟩)) rfl (by kernel_rfl) (by kernel_rfl) (by kernel_rfl) (fun _ _ _ h => h) (Or.inl ⟨by rfl, fun _ => rfl⟩) ?_
  simp only [Act.put, List.setIfInBounds_toArray, List.set_cons_succ, List.set_cons_zero]
  refine wpAny_take (i := 2) (oi := ⟨some 23, .move (.tmp 0), _, _, _, none⟩) (v := .pointer (some ⟨b, 0, none⟩)) rfl (by kernel_rfl) (by kernel_rfl) (by kernel_rfl) (fun _ _ _ h => h) (Or.inl ⟨by rfl, fun _ => rfl⟩) ?_
  simp only [Act.put, List.setIfInBounds_toArray, List.set_cons_succ, List.set_cons_zero]
  refine wpAny_take (i := 3) (oi := ⟨some 24, .nilCheck (.tmp 23), _, _, _, none⟩) (v := .pointer (some ⟨b, 0, none⟩)) rfl (by kernel_rfl) (by kernel_rfl) (by kernel_rfl) (fun _ _ _ h => h) (Or.inl ⟨by rfl, fun _ => rfl⟩) ?_
  simp only [Act.put, List.setIfInBounds_toArray, List.set_cons_succ, List.set_cons_zero]
  refine wpAny_take (i := 4) (oi := ⟨some 25, .fieldAddr 165 (.tmp 24) 0, _, _, _, none⟩) (v := .pointer (some ⟨b, 0, none⟩)) rfl (by kernel_rfl) (by kernel_rfl) (by kernel_rfl) (fun _ _ _ h => h) (Or.inl ⟨by rfl, fun _ => by kernel_rfl⟩) ?_
  simp only [Act.put, List.setIfInBounds_toArray, List.set_cons_succ, List.set_cons_zero]
  refine wpAny_take (i := 6) (oi := ⟨some 27, .move (.tmp 2), _, _, _, none⟩) (v := .int .u64 (n : Int)) rfl (by kernel_rfl) (by kernel_rfl) (by kernel_rfl) (fun _ _ _ h => h) (Or.inl ⟨by rfl, fun _ => rfl⟩) ?_
  simp only [Act.put, List.setIfInBounds_toArray, List.set_cons_succ, List.set_cons_zero]
  refine wpAny_take (i := 8) (oi := ⟨some 29, .move (.tmp 3), _, _, _, none⟩) (v := .string ⟨T.toArray⟩) rfl (by kernel_rfl) (by kernel_rfl) (by kernel_rfl) (fun _ _ _ h => h) (Or.inl ⟨by rfl, fun _ => rfl⟩) ?_
  simp only [Act.put, List.setIfInBounds_toArray, List.set_cons_succ, List.set_cons_zero]
  have r0 := (HR.out 0).trans rfl
  have r1 := (HR.out 1).trans rfl
  have r2 := (HR.out 2).trans rfl
  have r3 := (HR.out 3).trans rfl
  have rv := (lit_cell HV.out 0).trans rfl
  refine wpAny_ready (rs := [1, 5]) (by kernel_rfl) (by simp) (AllReady.cons (o := ⟨some 22, .load 250 (.tmp 9), _, _, _, none⟩) rfl (fun K hK => ?_) (AllReady.cons (o := ⟨some 26, .load 77 (.tmp 25), _, _, _, none⟩) rfl (fun K hK => ?_) AllReady.nil))
  · go_simp
    refine hK _ _ ?_
    clear hK K
    try simp only [Act.put, List.setIfInBounds_toArray, List.set_cons_succ, List.set_cons_zero]
    refine wpAny_ready (rs := [5]) (by kernel_rfl) (by simp) (AllReady.cons (o := ⟨some 26, .load 77 (.tmp 25), _, _, _, none⟩) rfl (fun K hK => ?_) AllReady.nil)
    go_simp
    refine hK _ _ ?_
    clear hK K
    try simp only [Act.put, List.setIfInBounds_toArray, List.set_cons_succ, List.set_cons_zero]
    refine wpAny_ready (rs := [7]) (by kernel_rfl) (by simp) (AllReady.cons (o := ⟨some 28, .call ⟨.value (.func 176), #[.tmp 22, .tmp 26, .tmp 27], #[250, 77, 22]⟩, _, _, _, none⟩) rfl (fun K hK => ?_) AllReady.nil)
    have HK := Lib.hid hK
    clear hK
    go_simp
    refine HH.out.mono ?_
    rintro e w3 ⟨v3, rfl, hown3, hb3⟩
    refine HK.out _ _ ?_
    clear HK K
    try simp only [Act.put, List.setIfInBounds_toArray, List.set_cons_succ, List.set_cons_zero]
    have hrl := HPL.out
    have hsz3 := hb3.size
    refine wpAny_ready (rs := [9]) (by kernel_rfl) (by simp) (AllReady.cons (o := ⟨some 30, .call ⟨.builtin .append, #[.tmp 28, .tmp 29], #[77, 9]⟩, _, _, _, none⟩) rfl (fun K hK => ?_) AllReady.nil)
    refine step_append_str rfl (.tmp 28) (.tmp 29) rfl (b + 1) v3 (L ++ P) T rfl rfl hown3 (by rw [List.length_append]; omega) (by omega) ?_
    intro v4 w4 hown4 hb4
    refine hK _ _ ?_
    clear hK K
    try simp only [Act.put, List.setIfInBounds_toArray, List.set_cons_succ, List.set_cons_zero]
    refine wpAny_take (i := 10) (oi := ⟨some 31, .nilCheck (.tmp 21), _, _, _, none⟩) (v := .pointer (some ⟨b, 0, none⟩)) rfl (by kernel_rfl) (by kernel_rfl) (by kernel_rfl) (fun _ _ _ h => h) (Or.inl ⟨by rfl, fun _ => rfl⟩) ?_
    simp only [Act.put, List.setIfInBounds_toArray, List.set_cons_succ, List.set_cons_zero]
    refine wpAny_take (i := 11) (oi := ⟨some 32, .fieldAddr 165 (.tmp 31) 0, _, _, _, none⟩) (v := .pointer (some ⟨b, 0, none⟩)) rfl (by kernel_rfl) (by kernel_rfl) (by kernel_rfl) (fun _ _ _ h => h) (Or.inl ⟨by rfl, fun _ => by kernel_rfl⟩) ?_
    simp only [Act.put, List.setIfInBounds_toArray, List.set_cons_succ, List.set_cons_zero]
    obtain ⟨ao, ln, cp, rfl⟩ := slice_of_own hown4
    have hv4 := (hb4.block b (by omega)).trans ((hb3.block b (by omega)).trans HV.out)
    have rv4 := (lit_cell hv4 0).trans rfl
    have rf4 := lit_free hv4 0
    refine wpAny_ready (rs := [12]) (by kernel_rfl) (by simp) (AllReady.cons (o := ⟨none, .store 77 (.tmp 32) (.tmp 30), _, _, _, none⟩) rfl (fun K hK => ?_) AllReady.nil)
    go_simp
    refine hK _ _ ?_
    clear hK K
    try simp only [Act.put, List.setIfInBounds_toArray, List.set_cons_succ, List.set_cons_zero]
    refine wpAny_done (by kernel_rfl) ?_ _
    have hb34 := hb3.trans hb4
    have hW4 : Wr B b (L ++ (P ++ T)) (w4.setCell ⟨b, 0, none⟩ (.slice ao ln cp)) := by
      rw [← List.append_assoc]
      exact Wr.stored HP.out HBb.out (HG2.out.below (by have := HP.out; have := HBb.out; omega) hb34.b) hv4 hown4
    have hB4 : Bel B w (w4.setCell ⟨b, 0, none⟩ (.slice ao ln cp)) := ((Bel.fresh HB2.out HSZ.out).trans (hb34.mono (by have := HBb.out; omega))).setW HBb.out hv4 _
    clear hv4 rv4 rf4 hown4 hown3
    generalize (w4.setCell ⟨b, 0, none⟩ (.slice ao ln cp)) = w5 at *
    go_wp2
    go_ret
    exact ⟨rfl, hW4, hB4⟩
  · go_simp
    refine hK _ _ ?_
    clear hK K
    try simp only [Act.put, List.setIfInBounds_toArray, List.set_cons_succ, List.set_cons_zero]
    refine wpAny_ready (rs := [1]) (by kernel_rfl) (by simp) (AllReady.cons (o := ⟨some 22, .load 250 (.tmp 9), _, _, _, none⟩) rfl (fun K hK => ?_) AllReady.nil)
    go_simp
    refine hK _ _ ?_
    clear hK K
    try simp only [Act.put, List.setIfInBounds_toArray, List.set_cons_succ, List.set_cons_zero]
    refine wpAny_ready (rs := [7]) (by kernel_rfl) (by simp) (AllReady.cons (o := ⟨some 28, .call ⟨.value (.func 176), #[.tmp 22, .tmp 26, .tmp 27], #[250, 77, 22]⟩, _, _, _, none⟩) rfl (fun K hK => ?_) AllReady.nil)
    have HK := Lib.hid hK
    clear hK
    go_simp
    refine HH.out.mono ?_
    rintro e w3 ⟨v3, rfl, hown3, hb3⟩
    refine HK.out _ _ ?_
    clear HK K
    try simp only [Act.put, List.setIfInBounds_toArray, List.set_cons_succ, List.set_cons_zero]
    have hrl := HPL.out
    have hsz3 := hb3.size
    refine wpAny_ready (rs := [9]) (by kernel_rfl) (by simp) (AllReady.cons (o := ⟨some 30, .call ⟨.builtin .append, #[.tmp 28, .tmp 29], #[77, 9]⟩, _, _, _, none⟩) rfl (fun K hK => ?_) AllReady.nil)
    refine step_append_str rfl (.tmp 28) (.tmp 29) rfl (b + 1) v3 (L ++ P) T rfl rfl hown3 (by rw [List.length_append]; omega) (by omega) ?_
    intro v4 w4 hown4 hb4
    refine hK _ _ ?_
    clear hK K
    try simp only [Act.put, List.setIfInBounds_toArray, List.set_cons_succ, List.set_cons_zero]
    refine wpAny_take (i := 10) (oi := ⟨some 31, .nilCheck (.tmp 21), _, _, _, none⟩) (v := .pointer (some ⟨b, 0, none⟩)) rfl (by kernel_rfl) (by kernel_rfl) (by kernel_rfl) (fun _ _ _ h => h) (Or.inl ⟨by rfl, fun _ => rfl⟩) ?_
    simp only [Act.put, List.setIfInBounds_toArray, List.set_cons_succ, List.set_cons_zero]
    refine wpAny_take (i := 11) (oi := ⟨some 32, .fieldAddr 165 (.tmp 31) 0, _, _, _, none⟩) (v := .pointer (some ⟨b, 0, none⟩)) rfl (by kernel_rfl) (by kernel_rfl) (by kernel_rfl) (fun _ _ _ h => h) (Or.inl ⟨by rfl, fun _ => by kernel_rfl⟩) ?_
    simp only [Act.put, List.setIfInBounds_toArray, List.set_cons_succ, List.set_cons_zero]
    obtain ⟨ao, ln, cp, rfl⟩ := slice_of_own hown4
    have hv4 := (hb4.block b (by omega)).trans ((hb3.block b (by omega)).trans HV.out)
    have rv4 := (lit_cell hv4 0).trans rfl
    have rf4 := lit_free hv4 0
    refine wpAny_ready (rs := [12]) (by kernel_rfl) (by simp) (AllReady.cons (o := ⟨none, .store 77 (.tmp 32) (.tmp 30), _, _, _, none⟩) rfl (fun K hK => ?_) AllReady.nil)
    go_simp
    refine hK _ _ ?_
    clear hK K
    try simp only [Act.put, List.setIfInBounds_toArray, List.set_cons_succ, List.set_cons_zero]
    refine wpAny_done (by kernel_rfl) ?_ _
    have hb34 := hb3.trans hb4
    have hW4 : Wr B b (L ++ (P ++ T)) (w4.setCell ⟨b, 0, none⟩ (.slice ao ln cp)) := by
      rw [← List.append_assoc]
      exact Wr.stored HP.out HBb.out (HG2.out.below (by have := HP.out; have := HBb.out; omega) hb34.b) hv4 hown4
    have hB4 : Bel B w (w4.setCell ⟨b, 0, none⟩ (.slice ao ln cp)) := ((Bel.fresh HB2.out HSZ.out).trans (hb34.mono (by have := HBb.out; omega))).setW HBb.out hv4 _
    clear hv4 rv4 rf4 hown4 hown3
    generalize (w4.setCell ⟨b, 0, none⟩ (.slice ao ln cp)) = w5 at *
    go_wp2
    go_ret
    exact ⟨rfl, hW4, hB4⟩
end Go.Proofs.YtlhmmplkdjibkaaGreatDoor.Pk
/- The writer's calls, from lay's contract. -/
namespace Go.Proofs.YtlhmmplkdjibkaaGreatDoor.Pk
open Go.RowKit

theorem none_below {s : Int} {n i : Nat} (h : ((List.range i).all fun j => !saysB (rowAt j) s n) = true) : ∀ j, j < i → saysB (rowAt j) s n = false := by
  intro j hj
  have := List.all_eq_true.1 h j (by simpa using hj)
  simpa using this
/-- the first row that says a number of a sort -/
def First (s : Int) (n i : Nat) : Prop := i < 14 ∧ saysB (rowAt i) s n = true ∧ ∀ j, j < i → saysB (rowAt j) s n = false
theorem num_row (n : Nat) (hn : n < 18446744073709551616) : ∃ i, First 0 n i ∧ rowP (rowAt i) n = numP n := by
  unfold numP
  by_cases h0 : n < 128
  · refine ⟨0, ⟨by decide, by simp [saysB, rowAt, rowsL]; omega, fun j hj => by omega⟩, ?_⟩
    rw [if_pos h0]; simp [rowP, rowAt, rowsL]
  · rw [if_neg h0]
    by_cases h1 : n < 256
    · refine ⟨1, ⟨by decide, by simp [saysB, rowAt, rowsL]; omega, none_below (by simp [saysB, rowAt, rowsL, List.range, List.range.loop]; omega)⟩, ?_⟩
      rw [if_pos h1]; simp [rowP, rowAt, rowsL]
    · rw [if_neg h1]
      by_cases h2 : n < 65536
      · refine ⟨2, ⟨by decide, by simp [saysB, rowAt, rowsL]; omega, none_below (by simp [saysB, rowAt, rowsL, List.range, List.range.loop]; omega)⟩, ?_⟩
        rw [if_pos h2]; simp [rowP, rowAt, rowsL]
      · rw [if_neg h2]
        by_cases h3 : n < 4294967296
        · refine ⟨3, ⟨by decide, by simp [saysB, rowAt, rowsL]; omega, none_below (by simp [saysB, rowAt, rowsL, List.range, List.range.loop]; omega)⟩, ?_⟩
          rw [if_pos h3]; simp [rowP, rowAt, rowsL]
        · rw [if_neg h3]
          refine ⟨4, ⟨by decide, by simp [saysB, rowAt, rowsL]; omega, none_below (by simp [saysB, rowAt, rowsL, List.range, List.range.loop]; omega)⟩, ?_⟩
          simp [rowP, rowAt, rowsL]
theorem head_row (s : Int) (n : Nat) (hs : s = 1 ∨ s = 2 ∨ s = 3 ∨ s = 4) (hn : n < 65536) : ∃ i, First s n i ∧ rowP (rowAt i) n = headP s n := by
  unfold headP
  rcases hs with rfl | rfl | rfl | rfl
  · rw [if_pos rfl]
    by_cases h1 : n < 256
    · refine ⟨5, ⟨by decide, by simp [saysB, rowAt, rowsL]; omega, none_below (by simp [saysB, rowAt, rowsL, List.range, List.range.loop])⟩, ?_⟩
      rw [if_pos h1]; simp [rowP, rowAt, rowsL]
    · refine ⟨6, ⟨by decide, by simp [saysB, rowAt, rowsL]; omega, none_below (by simp [saysB, rowAt, rowsL, List.range, List.range.loop]; omega)⟩, ?_⟩
      rw [if_neg h1]; simp [rowP, rowAt, rowsL]
  · rw [if_neg (by decide), if_pos rfl]
    by_cases h0 : n < 32
    · refine ⟨7, ⟨by decide, by simp [saysB, rowAt, rowsL]; omega, none_below (by simp [saysB, rowAt, rowsL, List.range, List.range.loop])⟩, ?_⟩
      rw [if_pos h0]; simp [rowP, rowAt, rowsL]
    · rw [if_neg h0]
      by_cases h1 : n < 256
      · refine ⟨8, ⟨by decide, by simp [saysB, rowAt, rowsL]; omega, none_below (by simp [saysB, rowAt, rowsL, List.range, List.range.loop]; omega)⟩, ?_⟩
        rw [if_pos h1]; simp [rowP, rowAt, rowsL]
      · refine ⟨9, ⟨by decide, by simp [saysB, rowAt, rowsL]; omega, none_below (by simp [saysB, rowAt, rowsL, List.range, List.range.loop]; omega)⟩, ?_⟩
        rw [if_neg h1]; simp [rowP, rowAt, rowsL]
  · rw [if_neg (by decide), if_neg (by decide), if_pos rfl]
    by_cases h0 : n < 16
    · refine ⟨10, ⟨by decide, by simp [saysB, rowAt, rowsL]; omega, none_below (by simp [saysB, rowAt, rowsL, List.range, List.range.loop])⟩, ?_⟩
      rw [if_pos h0]; simp [rowP, rowAt, rowsL]
    · refine ⟨11, ⟨by decide, by simp [saysB, rowAt, rowsL]; omega, none_below (by simp [saysB, rowAt, rowsL, List.range, List.range.loop]; omega)⟩, ?_⟩
      rw [if_neg h0]; simp [rowP, rowAt, rowsL]
  · rw [if_neg (by decide), if_neg (by decide), if_neg (by decide)]
    by_cases h0 : n < 16
    · refine ⟨12, ⟨by decide, by simp [saysB, rowAt, rowsL]; omega, none_below (by simp [saysB, rowAt, rowsL, List.range, List.range.loop])⟩, ?_⟩
      rw [if_pos h0]; simp [rowP, rowAt, rowsL]
    · refine ⟨13, ⟨by decide, by simp [saysB, rowAt, rowsL]; omega, none_below (by simp [saysB, rowAt, rowsL, List.range, List.range.loop]; omega)⟩, ?_⟩
      rw [if_neg h0]; simp [rowP, rowAt, rowsL]
theorem no_row (s : Int) (n : Nat) (hs : s = 1 ∨ s = 2 ∨ s = 3 ∨ s = 4) (hn : 65536 ≤ n) : ∀ j, j < 14 → saysB (rowAt j) s n = false := by
  refine none_below ?_
  rcases hs with rfl | rfl | rfl | rfl <;> simp [saysB, rowAt, rowsL, List.range, List.range.loop] <;> omega

set_option maxRecDepth 100000 in
set_option maxHeartbeats 1000000 in
theorem lay_no (b : Nat) (T : List UInt8) (s : Int) (n : Nat) (w : World) (hg : Glob w) (hj : ∀ j, j < 14 → saysB (rowAt j) s n = false) :
    Calls Tryz.prog 140 #[.pointer (some ⟨b, 0, none⟩), .int .i64 s, .int .u64 (n : Int), .string ⟨T.toArray⟩] w fun e w' => e = .returned (.int .i64 3) ∧ Below w.heap.size w w' := by
  have HS := Lib.hid (shortest_no s n w hg hj)
  clear hj hg
  go_enter Tryz.func140, Tryz.ntmps140
  go_wp2_with (go_at_call 175; refine HS.out.mono ?_; rintro e w1 ⟨rfl, b1⟩)
  have hz := b1.size
  go_ret
  exact ⟨rfl, b1.alloc hz _⟩
/-- what a sort, a count and what is counted are laid as, if the row is there -/
theorem lay_at (B b : Nat) (L T P : List UInt8) (s : Int) (n i : Nat) (w : World) (hW : Wr B b L w) (hL : L.length < 10000000) (hT : T.length < 10000000) (hn : n < 18446744073709551616) (hi : First s n i) (hP : rowP (rowAt i) n = P) :
    Calls Tryz.prog 140 #[.pointer (some ⟨b, 0, none⟩), .int .i64 s, .int .u64 (n : Int), .string ⟨T.toArray⟩] w fun e w' => e = .returned (.int .i64 0) ∧ Wr B b (L ++ (P ++ T)) w' ∧ Bel B w w' := by
  subst hP
  exact lay_yes B b L T s n i w hW hL hT hn hi.1 hi.2.1 hi.2.2

set_option maxRecDepth 100000 in
theorem num_any (B b : Nat) (L : List UInt8) (n : Nat) (w : World) (hW : Wr B b L w) (hL : L.length < 10000000) (hn : n < 18446744073709551616) :
    Calls Tryz.prog 151 #[.pointer (some ⟨b, 0, none⟩), .int .u64 (n : Int)] w fun e w' => e = .returned (.int .i64 0) ∧ Wr B b (L ++ numP n) w' ∧ Bel B w w' := by
  obtain ⟨i, hi, hP⟩ := num_row n hn
  have HC := Lib.hid (lay_at B b L [] (numP n) 0 n i w hW hL (by decide) hn hi hP)
  rw [List.append_nil] at HC
  clear hi hP hW
  go_enter Tryz.func151, Tryz.ntmps151
  go_wp2_with (go_at_call 140; refine HC.out.mono ?_; rintro e w1 ⟨rfl, h1, h2⟩)
  go_ret
  exact ⟨rfl, h1, h2⟩
set_option maxRecDepth 100000 in
theorem binstr_lay (B b : Nat) (L T : List UInt8) (s : Int) (w : World) (hs : s = 1 ∨ s = 2) (hW : Wr B b L w) (hL : L.length < 10000000) (hT : T.length < 10000000) :
    Calls Tryz.prog 140 #[.pointer (some ⟨b, 0, none⟩), .int .i64 s, .int .u64 (T.length : Int), .string ⟨T.toArray⟩] w fun e w' => e = .returned (.int .i64 (laidP s 0 T).2) ∧ Wr B b (L ++ (laidP s 0 T).1) w' ∧ Bel B w w' ∧ ((laidP s 0 T).2 ≠ 0 → Below w.heap.size w w') := by
  have hs4 : s = 1 ∨ s = 2 ∨ s = 3 ∨ s = 4 := by omega
  rw [laidP, if_neg (show ¬ s = 0 by omega), if_pos hs]
  by_cases hl : 65536 ≤ T.length
  · rw [if_pos hl]
    refine (lay_no b T s T.length w hW.g (no_row s _ hs4 hl)).mono ?_
    rintro e w1 ⟨rfl, h⟩
    exact ⟨rfl, by rw [List.append_nil]; exact hW.next h, Bel.fresh h (by have := hW.lt; have := hW.hB; omega), fun _ => h⟩
  · rw [if_neg hl]
    obtain ⟨i, hi, hP⟩ := head_row s T.length hs4 (by omega)
    refine (lay_at B b L T _ s T.length i w hW hL hT (by omega) hi hP).mono ?_
    rintro e w1 ⟨rfl, h1, h2⟩
    exact ⟨rfl, h1, h2, fun h => absurd rfl h⟩
set_option maxRecDepth 100000 in
theorem bin_any (B b : Nat) (L T : List UInt8) (w : World) (hW : Wr B b L w) (hL : L.length < 10000000) (hT : T.length < 10000000) :
    Calls Tryz.prog 146 #[.pointer (some ⟨b, 0, none⟩), .string ⟨T.toArray⟩] w fun e w' => e = .returned (.int .i64 (laidP 1 0 T).2) ∧ Wr B b (L ++ (laidP 1 0 T).1) w' ∧ Bel B w w' ∧ ((laidP 1 0 T).2 ≠ 0 → Below w.heap.size w w') := by
  have HC := Lib.hid (binstr_lay B b L T 1 w (.inl rfl) hW hL hT)
  generalize laidP 1 0 T = Z at *
  clear hW
  go_enter Tryz.func146, Tryz.ntmps146
  go_wp2_with (go_at_call 140; refine HC.out.mono ?_; rintro e w1 ⟨rfl, h1, h2, h3⟩)
  go_ret
  exact ⟨rfl, h1, h2, h3⟩
set_option maxRecDepth 100000 in
theorem str_any (B b : Nat) (L T : List UInt8) (w : World) (hW : Wr B b L w) (hL : L.length < 10000000) (hT : T.length < 10000000) :
    Calls Tryz.prog 90 #[.pointer (some ⟨b, 0, none⟩), .string ⟨T.toArray⟩] w fun e w' => e = .returned (.int .i64 (laidP 2 0 T).2) ∧ Wr B b (L ++ (laidP 2 0 T).1) w' ∧ Bel B w w' ∧ ((laidP 2 0 T).2 ≠ 0 → Below w.heap.size w w') := by
  have HC := Lib.hid (binstr_lay B b L T 2 w (.inr rfl) hW hL hT)
  generalize laidP 2 0 T = Z at *
  clear hW
  go_enter Tryz.func90, Tryz.ntmps90
  go_wp2_with (go_at_call 140; refine HC.out.mono ?_; rintro e w1 ⟨rfl, h1, h2, h3⟩)
  go_ret
  exact ⟨rfl, h1, h2, h3⟩
set_option maxRecDepth 100000 in
theorem begin_any (B b : Nat) (L : List UInt8) (s i : Int) (w : World) (hs : s = 3 ∨ s = 4) (hW : Wr B b L w) (hL : L.length < 10000000) (h0 : -9223372036854775808 ≤ i) (h1 : i ≤ 9223372036854775807) :
    Calls Tryz.prog 139 #[.pointer (some ⟨b, 0, none⟩), .int .i64 s, .int .i64 i] w fun e w' => e = .returned (.int .i64 (listP s i).2) ∧ Wr B b (L ++ (listP s i).1) w' ∧ Bel B w w' ∧ ((listP s i).2 ≠ 0 → Below w.heap.size w w') := by
  have hs4 : s = 1 ∨ s = 2 ∨ s = 3 ∨ s = 4 := by omega
  have hBw : B ≤ w.heap.size := by have := hW.lt; have := hW.hB; omega
  rw [listP]
  by_cases hi : i < 0
  · rw [if_pos hi]
    have HW := Lib.hid hW
    clear hW hs4
    go_enter Tryz.func139, Tryz.ntmps139
    go_wp2
    go_ret
    exact ⟨rfl, by rw [List.append_nil]; exact HW.out, Bel.refl _ _, fun _ => Below.refl _ _⟩
  · rw [if_neg hi]
    obtain ⟨n, rfl⟩ := Int.eq_ofNat_of_zero_le (show 0 ≤ i by omega)
    by_cases hl : 65536 ≤ n
    · rw [if_pos (show (65536 : Int) ≤ (n : Int) by omega)]
      have HC := Lib.hid (lay_no b [] s n w hW.g (no_row s _ hs4 hl))
      have HW := Lib.hid hW
      clear hW hs4 hl
      go_enter Tryz.func139, Tryz.ntmps139
      go_wp2_with (go_at_call 140; refine HC.out.mono ?_; rintro e w1 ⟨rfl, h⟩)
      go_ret
      exact ⟨rfl, by rw [List.append_nil]; exact HW.out.next h, Bel.fresh h hBw, fun _ => h⟩
    · rw [if_neg (show ¬ (65536 : Int) ≤ (n : Int) by omega), Int.toNat_natCast]
      obtain ⟨k, hk, hP⟩ := head_row s n hs4 (by omega)
      have HC := Lib.hid (lay_at B b L [] _ s n k w hW hL (by decide) (by omega) hk hP)
      rw [List.append_nil] at HC
      clear hW hs4 hl hk hP
      generalize headP s n = P at *
      go_enter Tryz.func139, Tryz.ntmps139
      go_wp2_with (go_at_call 140; refine HC.out.mono ?_; rintro e w1 ⟨rfl, h1, h2⟩)
      go_ret
      exact ⟨rfl, h1, h2, fun h => absurd rfl h⟩
set_option maxRecDepth 100000 in
theorem list_any (B b : Nat) (L : List UInt8) (i : Int) (w : World) (hW : Wr B b L w) (hL : L.length < 10000000) (h0 : -9223372036854775808 ≤ i) (h1 : i ≤ 9223372036854775807) :
    Calls Tryz.prog 143 #[.pointer (some ⟨b, 0, none⟩), .int .i64 i] w fun e w' => e = .returned (.int .i64 (listP 3 i).2) ∧ Wr B b (L ++ (listP 3 i).1) w' ∧ Bel B w w' ∧ ((listP 3 i).2 ≠ 0 → Below w.heap.size w w') := by
  have HC := Lib.hid (begin_any B b L 3 i w (.inl rfl) hW hL h0 h1)
  generalize listP 3 i = Z at *
  clear hW
  go_enter Tryz.func143, Tryz.ntmps143
  go_wp2_with (go_at_call 139; refine HC.out.mono ?_; rintro e w1 ⟨rfl, h1, h2, h3⟩)
  go_ret
  exact ⟨rfl, h1, h2, h3⟩
set_option maxRecDepth 100000 in
theorem map_any (B b : Nat) (L : List UInt8) (i : Int) (w : World) (hW : Wr B b L w) (hL : L.length < 10000000) (h0 : -9223372036854775808 ≤ i) (h1 : i ≤ 9223372036854775807) :
    Calls Tryz.prog 89 #[.pointer (some ⟨b, 0, none⟩), .int .i64 i] w fun e w' => e = .returned (.int .i64 (listP 4 i).2) ∧ Wr B b (L ++ (listP 4 i).1) w' ∧ Bel B w w' ∧ ((listP 4 i).2 ≠ 0 → Below w.heap.size w w') := by
  have HC := Lib.hid (begin_any B b L 4 i w (.inr rfl) hW hL h0 h1)
  generalize listP 4 i = Z at *
  clear hW
  go_enter Tryz.func89, Tryz.ntmps89
  go_wp2_with (go_at_call 139; refine HC.out.mono ?_; rintro e w1 ⟨rfl, h1, h2, h3⟩)
  go_ret
  exact ⟨rfl, h1, h2, h3⟩
end Go.Proofs.YtlhmmplkdjibkaaGreatDoor.Pk
/- Text, Len, New; a writer that is none: all that is asked of a writer. -/
namespace Go.Proofs.YtlhmmplkdjibkaaGreatDoor.Pk
open Go.RowKit

set_option maxRecDepth 100000 in
theorem text_of {w : World} {base : Nat} {v : Value} (L : List UInt8) (h : w.ownsRow base 5 1 v L.length (byV L)) : (convert 77 9 v).run Tryz.prog w = .ok (.string ⟨L.toArray⟩) w := by
  rcases h.2 with ⟨rfl, hn⟩ | ⟨g, cap, cur, rfl, hb, hg, hnc, hcm, hcs, ht⟩
  · have hL : L = [] := List.eq_nil_of_length_eq_zero hn
    subst hL
    rfl
  · exact run_convert_bytes_back (P := Tryz.prog) w 77 9 5 ⟨g, 0, none⟩ cap L Tryz.underlying77 Tryz.underlying5 Tryz.underlying9 (fun j hj => by
      rw [Addr.add_mid, Nat.zero_add, h.cellAt j (by omega), byV, List.getElem?_map, List.getElem?_eq_getElem hj]; rfl)
set_option maxRecDepth 100000 in
theorem text_any (B b : Nat) (L : List UInt8) (w : World) (hW : Wr B b L w) (_hL : L.length < 10000000) :
    Calls Tryz.prog 46 #[.pointer (some ⟨b, 0, none⟩)] w fun e w' => e = .returned (.string ⟨L.toArray⟩) ∧ Below w.heap.size w w' := by
  obtain ⟨v, h1, h2⟩ := hW.h
  obtain ⟨ao, ln, cp, rfl⟩ := slice_of_own h2
  have hc := text_of L h2
  have h0 := (lit_cell h1 0).trans rfl
  clear h1 h2 hW
  go_enter Tryz.func46, Tryz.ntmps46
  go_wp2
  go_ret
  exact ⟨rfl, Below.refl _ _⟩
set_option maxRecDepth 100000 in
theorem new_any (w : World) (hg : Glob w) : Calls Tryz.prog 44 #[] w fun e w' => ∃ b, e = .returned (.pointer (some ⟨b, 0, none⟩)) ∧ Wr w.heap.size b [] w' ∧ Below w.heap.size w w' := by
  have HW : Wr w.heap.size w.heap.size [] (w.alloc (.cells #[.slice none 0 0] 165)) :=
    ⟨hg.size, Nat.le_refl _, hg.next (by0 _ _), _, heap_alloc_new _ _, World.ownsRow_nil _ _ _ _⟩
  have HWH := Lib.hid HW
  clear HW hg
  go_enter Tryz.func44, Tryz.ntmps44
  go_wp2
  go_ret
  exact ⟨_, rfl, HWH.out, by0 _ _⟩
end Go.Proofs.YtlhmmplkdjibkaaGreatDoor.Pk
/- What a field's laying is to do; layRow. -/
namespace Go.Proofs.YtlhmmplkdjibkaaGreatDoor
open Go.RowKit

/-- below B, and all that was there, but what a writer may turn, is as it was -/
structure Sta (B : Nat) (w0 w : World) : Prop where
  s : w0.heap.size ≤ w.heap.size
  k : ∀ (k : Nat) (o : Obj), w0.heap[k]? = some o → ¬ Pk.Wild o → w.heap[k]? = some o
  b : ∀ k : Nat, k < B → k < w0.heap.size → w.heap[k]? = w0.heap[k]?
theorem Sta.refl (B : Nat) (w : World) : Sta B w w := ⟨Nat.le_refl _, fun _ _ h _ => h, fun _ _ _ => rfl⟩
theorem Sta.trans {B : Nat} {a b c : World} (h : Sta B a b) (k : Sta B b c) : Sta B a c := ⟨Nat.le_trans h.s k.s, fun i o hi hn => k.k i o (h.k i o hi hn) hn, fun i hi hl => (k.b i hi (Nat.lt_of_lt_of_le hl h.s)).trans (h.b i hi hl)⟩
theorem Sta.next {B : Nat} {w0 w w' : World} (h : Sta B w0 w) (hb : Below w.heap.size w w') : Sta B w0 w' := h.trans ⟨hb.size, fun k _ hk _ => (hb.block k (lit_lt hk)).trans hk, fun k _ hl => hb.block k hl⟩
theorem Sta.bel {B : Nat} {w0 w w' : World} (h : Sta B w0 w) (hb : Pk.Bel B w w') : Sta B w0 w' := h.trans ⟨hb.size, hb.k, fun k hk _ => hb.block k hk⟩
theorem Sta.only {B : Nat} {w0 w w' : World} {c : Nat} (h : Sta B w0 w) (ho : Only c w w') (hc : w0.heap.size ≤ c) : Sta B w0 w' :=
  ⟨Nat.le_trans h.s ho.size, fun k o hk hn => (ho.block k (lit_lt (h.k k o hk hn)) (by have := lit_lt hk; omega)).trans (h.k k o hk hn), fun k hk hl => (ho.block k (Nat.lt_of_lt_of_le hl h.s) (by omega)).trans (h.b k hk hl)⟩
theorem not_wild {cs : Array Value} {t : TypeId} {fl : Nat × Nat} (h5 : t ≠ 5) (hw : t ≠ 165) : ¬ Pk.Wild (.cells cs t fl) := by
  rintro ⟨cs', fl', h | h⟩ <;> cases h
  · exact h5 rfl
  · exact hw rfl
theorem Only.fresh {c : Nat} {w w' : World} (h : Only c w w') (hc : w.heap.size ≤ c) : Below w.heap.size w w' := ⟨h.os, h.tape, h.output, h.size, fun k hk => h.block k hk (by omega)⟩

theorem Only.fresh' {c : Nat} {w w1 w2 : World} (h : Only c w1 w2) (hc : w.heap.size ≤ c) (hs : w.heap.size ≤ w1.heap.size) : Below w.heap.size w1 w2 := ⟨h.os, h.tape, h.output, h.size, fun k hk => h.block k (by omega) (by omega)⟩
theorem Pk.Bel.kept {B c cap : Nat} {fs : List FV} {w w' : World} (h : Pk.Bel B w w') (ho : OwnF c cap fs w) : w'.heap[c]? = w.heap[c]? := by
  obtain ⟨cs, h1, _⟩ := ho.h
  exact (h.k c _ h1 (not_wild (by decide) (by decide))).trans h1.symm
theorem headP_len4 (n : Nat) (_h : n < 65536) : (headP 4 n).length ≤ 3 := by
  unfold headP
  rw [if_neg (by decide), if_neg (by decide), if_neg (by decide)]
  repeat' split
  all_goals simp [be_length]
/-- what is known of a field: whether it has what it has, whether that may be, its bytes, how many they are at most -/
structure LD where
  th : Bool
  ok : Bool
  bytes : (List UInt8)
  mx : Nat
/-- what comes of laying: it lays, or it gives up with ErrArg -/
def Lays (B b : Nat) (L bytes : (List UInt8)) (ok : Bool) (w : World) (e : Ending) (w' : World) : Prop :=
  (ok = true ∧ e = .returned (.tuple #[]) ∧ Pk.Wr B b (L ++ bytes) w' ∧ Pk.Bel B w w') ∨ (ok = false ∧ Up B 2 0 e w' ∧ Below B w w')
theorem Lays.from {B b : Nat} {L bytes : (List UInt8)} {ok : Bool} {w w1 : World} {e : Ending} {w' : World} (h : Lays B b L bytes ok w1 e w') (hb : Pk.Bel B w w1) : Lays B b L bytes ok w e w' := by
  rcases h with ⟨h1, h2, h3, h4⟩ | ⟨h1, h2, h3⟩
  · exact .inl ⟨h1, h2, h3, hb.trans h4⟩
  · exact .inr ⟨h1, h2, hb.b.trans h3⟩
structure LayF (B : Nat) (w0 : World) (f : FV) (d : LD) : Prop where
  t : There f d.th (Sta B w0)
  ent : Ent f.lF
  len : (f.needed || d.th) = true → d.ok = true → d.bytes.length ≤ d.mx
  c : (f.needed || d.th) = true → ∀ w b L, Sta B w0 w → Pk.Wr B b L w → L.length + d.mx ≤ 9000000 → Calls Tryz.prog f.lF (#[.pointer (some ⟨b, 0, none⟩)] ++ f.lC) w (Lays B b L d.bytes d.ok w)

def toldL (d : FV → LD) (fs : List FV) : List FV := fs.filter fun f => f.needed || (d f).th
def pairB (d : FV → LD) (f : FV) : (List UInt8) := 161 :: f.key :: (d f).bytes
def rowB (d : FV → LD) (fs : List FV) : (List UInt8) := headP 4 (toldL d fs).length ++ (toldL d fs).flatMap (pairB d)
def rowOk (d : FV → LD) (fs : List FV) : Bool := (toldL d fs).all fun f => (d f).ok
def rowMx (d : FV → LD) (fs : List FV) : Nat := 3 + (fs.map fun f => 2 + (d f).mx).sum

theorem laid2c (c : UInt8) : laidP 2 0 [c] = ([161, c], 0) := rfl
theorem sum_sub (d : FV → LD) (fs : List FV) : ((toldL d fs).map fun f => 2 + (d f).mx).sum ≤ (fs.map fun f => 2 + (d f).mx).sum := by
  induction fs with
  | nil => exact Nat.le_refl _
  | cons f fs ih =>
    rw [toldL, List.filter_cons]
    split
    · rw [List.map_cons, List.map_cons, List.sum_cons, List.sum_cons]
      have := ih
      rw [toldL] at this
      omega
    · rw [List.map_cons, List.sum_cons]
      have := ih
      rw [toldL] at this
      omega
theorem pairs_len {B : Nat} {w0 : World} (d : FV → LD) : ∀ (fs : List FV), (∀ f ∈ fs, LayF B w0 f (d f) ∧ (f.needed || (d f).th) = true) → (fs.all fun f => (d f).ok) = true → (fs.flatMap (pairB d)).length ≤ (fs.map fun f => 2 + (d f).mx).sum
  | [], _, _ => Nat.le_refl _
  | f :: fs, h, ho => by
    rw [List.all_cons, Bool.and_eq_true] at ho
    have h1 := (h f (by simp)).1.len (h f (by simp)).2 ho.1
    have h2 := pairs_len d fs (fun g hg => h g (by simp [hg])) ho.2
    rw [List.flatMap_cons, List.length_append, List.map_cons, List.sum_cons, pairB, List.length_cons, List.length_cons]
    omega
theorem sum_take (g : FV → Nat) : ∀ (fs : List FV) (k : Nat) (f : FV), fs[k]? = some f → ((fs.take k).map g).sum + g f ≤ (fs.map g).sum
  | [], _, _, h => by simp at h
  | x :: fs, 0, f, h => by
    cases h
    simp
  | x :: fs, k + 1, f, h => by
    have := sum_take g fs k f (by simpa using h)
    rw [List.take_succ_cons, List.map_cons, List.map_cons, List.sum_cons, List.sum_cons]
    omega

set_option maxRecDepth 100000 in
set_option maxHeartbeats 4000000 in
theorem layRow_any (B : Nat) (w0 : World) (d : FV → LD) (fs : List FV) (hF : ∀ f ∈ fs, LayF B w0 f (d f)) (rb o cap b : Nat) (L : (List UInt8)) (w : World) (hS : Sta B w0 w) (hW : Pk.Wr B b L w) (hr : RowB rb o fs w) (hrb : rb < w.heap.size) (h0 : fs ≠ []) (hn : fs.length ≤ 15) (hL : L.length + rowMx d fs ≤ 9000000) :
    Calls Tryz.prog 45 #[.pointer (some ⟨b, 0, none⟩), .slice (some ⟨rb, o, none⟩) fs.length cap] w (Lays B b L (rowB d fs) (rowOk d fs) w) := by
  have HF : Hid (∀ f ∈ toldL d fs, LayF B w0 f (d f) ∧ (f.needed || (d f).th) = true) := Lib.hid fun f hf => ⟨hF f (List.mem_filter.1 hf).1, (List.mem_filter.1 hf).2⟩
  have HSZ : Hid (B ≤ w.heap.size) := Lib.hid (by have := hW.lt; have := hW.hB; omega)
  have HC := Lib.hid (fclone_any fs rb o cap w hr hrb (by omega) h0)
  have HPD : Hid (Pred 87 #[] (fun f => !(f.needed || (d f).th)) fs (Sta B w0)) := Lib.hid ⟨fun _ _ => by kernel_rfl, fun f hf w hw => layRow1_any f (d f).th (Sta B w0) (hF f hf).t w hw, fun _ _ h hb => h.next hb⟩
  have HW := Lib.hid hW
  have HS := Lib.hid hS
  have hll : (toldL d fs).length ≤ 15 := Nat.le_trans (List.length_filter_le _ _) hn
  have HMX : Hid (L.length + 3 + ((toldL d fs).map fun f => 2 + (d f).mx).sum ≤ 9000000) := Lib.hid (by have := sum_sub d fs; rw [rowMx] at hL; omega)
  have HFS : Hid (fs.length < 1000) := Lib.hid (by omega)
  have HTD : Hid (fs.filter (fun f => !(!(f.needed || (d f).th))) = toldL d fs) := Lib.hid (by simp [toldL])
  have HRB : Hid (rowB d fs = headP 4 (toldL d fs).length ++ (toldL d fs).flatMap (pairB d)) := Lib.hid rfl
  have HRO : Hid (rowOk d fs = (toldL d fs).all fun f => (d f).ok) := Lib.hid rfl
  generalize rowB d fs = RB at *
  generalize rowOk d fs = RO at *
  clear hF hS hW hr hrb h0 hn hL
  go_enter Tryz.func45, Tryz.ntmps45
  go_upto_region 1 with (first | (go_at_call 86; refine HC.out.mono ?_; rintro e w1 ⟨c, cap1, rfl, hc0, ho1, hb1⟩; have HO1 := Lib.hid ho1; have HS1 := Lib.hid (HS.out.next hb1)) | (go_at_call 85; refine (deleteFunc_any HPD.out c cap1 w1 HO1.out HFS.out HS1.out (fun w w' h ho => h.only ho (Nat.le_trans HS.out.s hc0))).mono ?_; rintro e w2 ⟨m, rfl, hm, ho2, hk2⟩; have HMM := Lib.hid hm; clear hm))
  have hm := HMM.out
  rw [HTD.out] at ho2 hm
  clear HMM
  have hbb2 := HSZ.out
  have HB2 : Hid (Pk.Bel B w w2) := Lib.hid (Pk.Bel.fresh (hb1.trans ((hk2.fresh' hc0 hb1.size))) hbb2)
  have HW2 := Lib.hid (HW.out.next (hb1.trans ((hk2.fresh' hc0 hb1.size))))
  have HS2 := Lib.hid (HS1.out.only hk2 (Nat.le_trans HS.out.s hc0))
  generalize toldL d fs = ts at *
  subst hm
  have HO2 := Lib.hid ho2
  have HCB : Hid (B ≤ c ∧ b < c) := Lib.hid (by have := HW.out.lt; omega)
  have hlp : Pk.listP 4 (ts.length : Int) = (headP 4 ts.length, 0) := by rw [Pk.listP, if_neg (by omega), if_neg (by omega)]; rfl
  have HM0 := Pk.map_any B b L (ts.length : Int) w2 HW2.out (by have := HMX.out; omega) (by omega) (by omega)
  rw [hlp] at HM0
  simp only [ne_eq, not_true_eq_false, false_implies, and_true] at HM0
  have HM := Lib.hid HM0
  have hh1 : (headP 4 ts.length).length ≤ 3 := headP_len4 ts.length (by omega)
  have HH1 := Lib.hid hh1
  obtain ⟨HD, hHD⟩ : ∃ HD, headP 4 ts.length = HD := ⟨_, rfl⟩
  rw [hHD] at HM HH1
  have HRB2 : Hid (RB = HD ++ ts.flatMap (pairB d)) := Lib.hid (by rw [HRB.out, hHD])
  have tl : (ts.length : Int) < 1000 := by omega
  clear ho2 hb1 hk2 HTD HC HM0 hlp hHD hh1 HRB HO1 HS1 HPD hll HFS
  go_wp2_with (go_at_call 89; refine HM.out.mono ?_; rintro e w3 ⟨rfl, hw3, hb3⟩; have HW3 := Lib.hid hw3; have HB3 := Lib.hid (HB2.out.trans hb3); have HS3 := Lib.hid (HS2.out.bel hb3); have HO3 := Lib.hid (HO2.out.next ((hb3.kept HO2.out))); clear hw3 hb3)
  go_loopw [16] (fun i wr => ∃ k : Nat, k ≤ ts.length ∧ i = .int .i64 (k : Int) ∧ Hid (((ts.take k).all fun f => (d f).ok) = true) ∧ Hid (Pk.Wr B b (L ++ HD ++ (ts.take k).flatMap (pairB d)) wr) ∧ Hid (Pk.Bel B w wr) ∧ Hid (Sta B w0 wr) ∧ Hid (OwnF c cap1 ts wr)) (fun i _ => (ts.length : Int).toNat - (intOf i).toNat)
  case atStart => exact ⟨0, Nat.zero_le _, rfl, Lib.hid rfl, Lib.hid (by simpa using HW3.out), HB3, HS3, HO3⟩
  case round =>
    obtain ⟨k, hk, rfl, HK, HW4, HB4, HS4, HO4⟩ := hrel
    by_cases hke : k = ts.length
    · subst hke
      have hl : ¬ (ts.length : Int) < (ts.length : Int) := by omega
      have HE : Hid (Lays B b L RB RO w (.returned (.tuple #[])) wr) := Lib.hid (by
        have h1 := HK.out
        have h2 := HW4.out
        rw [List.take_length] at h1 h2
        exact .inl ⟨by rw [HRO.out]; exact h1, rfl, by rw [HRB2.out, ← List.append_assoc]; exact h2, HB4.out⟩)
      go_wp2
      exact bodyPost_end (results_none rfl _ _ _) rfl HE.out
    · have hkl : k < ts.length := by omega
      obtain ⟨f, hf⟩ : ∃ f, ts[k]? = some f := ⟨_, List.getElem?_eq_getElem hkl⟩
      have htk : ts.take (k + 1) = ts.take k ++ [f] := by rw [List.take_add_one, hf]; rfl
      have hlf := HF.out f (List.mem_of_getElem? hf)
      have hent := hlf.1.ent
      simp only [Ent] at hent
      have hps := pairs_len (B := B) (w0 := w0) d (ts.take k) (fun g hg => HF.out g (List.mem_of_mem_take hg)) HK.out
      have hst := sum_take (fun f => 2 + (d f).mx) ts k f hf
      have hmx := HMX.out
      have hh1 := HH1.out
      obtain ⟨L4, hL4⟩ : ∃ L4, L ++ HD ++ (ts.take k).flatMap (pairB d) = L4 := ⟨_, rfl⟩
      have hl4 : L4.length + 2 + (d f).mx ≤ 9000000 := by rw [← hL4, List.length_append, List.length_append]; omega
      rw [hL4] at HW4
      have HS5 := Pk.str_any B b L4 [f.key] _ (HW4.out.next (by0 wr (.cells #[.string ⟨#[f.key]⟩, .bool f.needed, .func (.func f.tF) #[] f.tC, .func (.func f.lF) #[] f.lC, .func (.func f.rF) #[] f.rC] 106))) (by omega) (by simp)
      rw [laid2c] at HS5
      simp only [ne_eq, not_true_eq_false, false_implies, and_true] at HS5
      have HSTR := Lib.hid HS5
      have HLF := Lib.hid hlf
      have HN := Lib.hid (heap_alloc_new wr (.cells #[.string ⟨#[f.key]⟩, .bool f.needed, .func (.func f.tF) #[] f.tC, .func (.func f.lF) #[] f.lC, .func (.func f.rF) #[] f.rC] 106))
      have HSa := Lib.hid (HS4.out.next (by0 wr (.cells #[.string ⟨#[f.key]⟩, .bool f.needed, .func (.func f.tF) #[] f.tC, .func (.func f.lF) #[] f.lC, .func (.func f.rF) #[] f.rC] 106)))
      have HBa := Lib.hid (HB4.out.trans (Pk.Bel.fresh (by0 wr (.cells #[.string ⟨#[f.key]⟩, .bool f.needed, .func (.func f.tF) #[] f.tC, .func (.func f.lF) #[] f.lC, .func (.func f.rF) #[] f.rC] 106)) (by have := HW4.out.lt; have := HW4.out.hB; omega)))
      have HOa := Lib.hid (HO4.out.next (w' := wr.alloc (.cells #[.string ⟨#[f.key]⟩, .bool f.needed, .func (.func f.tF) #[] f.tC, .func (.func f.lF) #[] f.lC, .func (.func f.rF) #[] f.rC] 106)) (heap_alloc_old _ _ HO4.out.lt))
      obtain ⟨c0, c1, c2, c3, c4⟩ := HO4.out.r.cells k f hf
      simp only [Nat.zero_add] at c0 c1 c2 c3 c4
      have hl : (k : Int) < (ts.length : Int) := by omega
      have i0 : (0 : Int) ≤ (k : Int) := by omega
      have HTK := Lib.hid htk
      have HL4 := Lib.hid hL4
      have HLL4 := Lib.hid hl4
      clear hke HS5 hlf hf htk hps hst hmx hh1 hL4 hl4
      go_wp2_with (go_at_call 90; refine HSTR.out.mono ?_; rintro e w5 ⟨rfl, hw5, hb5⟩; have hn5 := hb5.k _ _ HN.out (not_wild (by decide) (by decide)); have n3 := (lit_cell hn5 3).trans rfl; have HW5 := Lib.hid hw5; have HB5 := Lib.hid (HBa.out.trans hb5); have HS5 := Lib.hid (HSa.out.bel hb5); have HO5 := Lib.hid (HOa.out.next (hb5.kept HOa.out)); clear hw5 hb5)
      refine (HLF.out.1.c HLF.out.2 w5 b _ HS5.out HW5.out (by have := HLL4.out; simp; omega)).mono ?_
      rintro e w6 (⟨hok, rfl, hw6, hb6⟩ | ⟨hok, ⟨g, hg1, rfl, hg2, hg3⟩, hb6⟩)
      · have HK6 : Hid (((ts.take (k + 1)).all fun f => (d f).ok) = true) := Lib.hid (by rw [HTK.out, List.all_append, HK.out]; simp [hok])
        have HW6 : Hid (Pk.Wr B b (L ++ HD ++ (ts.take (k + 1)).flatMap (pairB d)) w6) := Lib.hid (by
          rw [HTK.out, List.flatMap_append, ← List.append_assoc, HL4.out]
          simpa [pairB] using hw6)
        have HB6 := Lib.hid (HB5.out.trans hb6)
        have HS6 := Lib.hid (HS5.out.bel hb6)
        have HO6 := Lib.hid (HO5.out.next (hb6.kept HO5.out))
        clear hw6 hb6 hok n3 hn5
        go_wp2
        go_roundw
        case rel => exact ⟨k + 1, hkl, by go_num, HK6, HW6, HB6, HS6, HO6⟩
        case measure => simp [intOf] <;> omega
      · have HE : Hid (Lays B b L RB RO w (upF g) w6) := Lib.hid (.inr ⟨by
          rw [HRO.out, ← List.take_append_drop (k + 1) ts, List.all_append, HTK.out, List.all_append]
          simp [hok], ⟨g, hg1, rfl, hg2, hg3⟩, HB5.out.b.trans hb6⟩)
        exact ⟨rfl, HE.out⟩
end Go.Proofs.YtlhmmplkdjibkaaGreatDoor
/- A region whose first n operations only read, and whose later ones each wait for one of those that are not among the first: the first n may be walked in the order of the text, whatever order is drawn. -/
namespace Go.Proofs.YtlhmmplkdjibkaaGreatDoor
open Go

section
variable {P : Program} {ops : Array Oper} {md : Region.Mode} {w : World}

/-- each operation behind number n waits for an earlier one that is not among the first n -/
def lateB (md : Region.Mode) (ops : Array Oper) (n : Nat) : Bool :=
  (List.range ops.size).all fun t => decide (t ≤ n) || (List.range t).any fun s => decide (n ≤ s) && Region.waitsFor md ops t s

/-- each of the first n, number 0 aside, is waited for by a later one, up to number n -/
def sinkFrom (md : Region.Mode) (ops : Array Oper) (n : Nat) : Bool :=
  (List.range n).all fun i => decide (i < 1) || (List.range (n + 1)).any fun j => decide (i < j) && Region.waitsFor md ops j i

theorem not_yet {j i : Nat} {listed : Array Bool} (hj : j ∈ Region.ready md ops listed) (hi : Region.waitsFor md ops j i = true) : listed.getD i false = true := by
  obtain ⟨_, oj, hoj, hall⟩ := mem_ready.1 hj
  obtain ⟨o', ho', e, he, hb, hon⟩ := Region.waitsFor_spec hi
  obtain rfl : o' = oj := Option.some.inj (ho'.symm.trans hoj)
  rw [← hon]; exact hall e he hb

/-- while one of the first n is left, none of the others is ready -/
theorem only_first {n : Nat} {listed : Array Bool} (hs : sinkFrom md ops n = true) (hl : lateB md ops n = true) (hn : n < ops.size) (inv : HeadInv md ops n listed) :
    ∀ (m i : Nat), n - i = m → 1 ≤ i → i < n → listed.getD i true = false → ∀ j ∈ Region.ready md ops listed, j < n := by
  intro m
  induction m using Nat.strongRecOn with
  | _ m ih =>
    intro i hm hi1 hin hun j hj
    refine Nat.lt_of_not_le fun hge => ?_
    have hjs : j < ops.size := by
      obtain ⟨_, oj, hoj, _⟩ := mem_ready.1 hj
      exact (Array.getElem?_eq_some_iff.1 hoj).1
    by_cases hjn : j = n
    · subst hjn
      have h1 := List.all_eq_true.1 hs i (by simpa using hin)
      simp only [Bool.or_eq_true, decide_eq_true_eq] at h1
      have h1 := h1.resolve_left (by omega)
      obtain ⟨k, hk, hk2⟩ := List.any_eq_true.1 h1
      simp only [Bool.and_eq_true, decide_eq_true_eq] at hk2
      have hkn : k < j + 1 := by simpa using hk
      by_cases e : k = j
      · subst e
        have := not_yet hj hk2.2
        rw [getD_both hun] at this; cases this
      · have hku : listed.getD k false = false := by
          cases hc : listed.getD k false with
          | false => rfl
          | true =>
            obtain ⟨o', ho', e', he', hb', hon'⟩ := Region.waitsFor_spec hk2.2
            have := inv.closed k o' ho' hc e' he' hb'
            rw [hon', getD_both hun] at this; cases this
        have hku2 := getD_in (by rw [inv.size]; omega) hku
        exact absurd (ih (j - k) (by omega) k rfl (by omega) (by omega) hku2 j hj) (by omega)
    · have h1 := List.all_eq_true.1 hl j (by simpa using hjs)
      simp only [Bool.or_eq_true, decide_eq_true_eq] at h1
      rcases h1 with h1 | h1
      · omega
      · obtain ⟨s, hs1, hs2⟩ := List.any_eq_true.1 h1
        simp only [Bool.and_eq_true, decide_eq_true_eq] at hs2
        have hsj : s < j := by simpa using hs1
        have := not_yet hj hs2.2
        rw [getD_both (inv.tail s hs2.1 (by omega))] at this; cases this

/-- one of the first, that may come up now and is apart from what does not wait for it, may be taken now -/
theorem first_now {n i : Nat} {oi : Oper} {v : Value} {L : Array Bool → Act → Prop} (hi : ops[i]? = some oi) (hsel : Region.noSelect ops = true)
    (hs : sinkFrom md ops n = true) (hl : lateB md ops n = true) (hn : n < ops.size) (hi1 : 1 ≤ i) (hin : i < n) (hdone : ∀ listed a, L listed a → ∀ j ∈ Region.ready md ops listed, n ≤ j) :
    ∀ (f : Nat) (listed : Array Bool) (a : Act), HeadInv md ops n listed →
      (∀ j oj, ops[j]? = some oj → j ≠ i → listed.getD j true = false → (∀ e ∈ oj.after, Region.binds md e = true → e.on ≠ i) → oi.apart ops oj = true) →
      i ∈ Region.ready md ops listed → YieldsAt P ops w oi v a →
      wpAnyL P md ops w n L f (listed.setIfInBounds i true) (a.put oi.dst v) → wpAnyL P md ops w n L (f + 1) listed a := by
  have sel := Region.noSelect_spec hsel
  intro f
  induction f with
  | zero =>
    intro listed a inv _ hr hy H
    have hun := (mem_ready.1 hr).1
    refine ⟨List.ne_nil_of_mem hr, fun j hj => ?_⟩
    have hjn := only_first hs hl hn inv _ i rfl hi1 hin hun j hj
    refine ⟨hjn, ?_⟩
    by_cases hji : j = i
    · subst hji; exact hy.stOp hi H
    · exact absurd (hdone _ _ H j (ready_mono hj hji)) (by omega)
  | succ f ih =>
    intro listed a inv hfree hr hy H
    have hun := (mem_ready.1 hr).1
    refine ⟨List.ne_nil_of_mem hr, fun j hj => ?_⟩
    have hjn := only_first hs hl hn inv _ i rfl hi1 hin hun j hj
    refine ⟨hjn, ?_⟩
    by_cases hji : j = i
    · subst hji; exact hy.stOp hi H
    · obtain ⟨hjun, oj, hoj, hall⟩ := mem_ready.1 hj
      have hnot : ∀ e ∈ oj.after, Region.binds md e = true → e.on ≠ i := by
        intro e he hb heq
        have h1 := hall e he hb
        rw [heq, getD_both hun] at h1; cases h1
      refine stOp_mono (fun a' h3 => ih (listed.setIfInBounds j true) a' (inv.set hj hjn) ?_ (ready_mono hr (Ne.symm hji)) h3.1 ?_)
        (stOp_put hoj (hfree j oj hoj hji hjun hnot) (fun cs b => sel i oi cs b hi) (fun cs b => sel j oj cs b hoj) hy (H.2 j (ready_mono hj hji)).2)
      · intro k ok hk hki hku hno
        refine hfree k ok hk hki ?_ hno
        by_cases hjk : j = k
        · subst hjk; exact hjun
        · rwa [getD_set_ne true hjk] at hku
      · rw [Array.setIfInBounds_comm _ _ hji]; exact h3.2

/-- the first n, one behind the other, each ready and free in its turn -/
def headB (md : Region.Mode) (ops : Array Oper) : Nat → Nat → Array Bool → Bool
  | 0, k, listed => (Region.ready md ops listed).all fun j => decide (k ≤ j)
  | f + 1, k, listed => (Region.ready md ops listed).contains k && Region.free md ops listed k && headB md ops f (k + 1) (listed.setIfInBounds k true)
/-- what is listed behind them -/
def listedTo : Nat → Nat → Array Bool → Array Bool
  | 0, _, listed => listed
  | f + 1, k, listed => listedTo f (k + 1) (listed.setIfInBounds k true)

theorem head_walk {n : Nat} {Lq : Act → Prop} (hsel : Region.noSelect ops = true) (hs : sinkFrom md ops n = true) (hl : lateB md ops n = true) (hn : n < ops.size) (LN : Array Bool) (hLN : (Region.ready md ops LN).all (fun j => decide (n ≤ j)) = true) :
    ∀ (l : List Oper) (k : Nat) (listed : Array Bool) (a : Act), (∀ j, j < l.length → l[j]? = ops[k + j]?) → 1 ≤ k → k + l.length = n → HeadInv md ops n listed →
    headB md ops l.length k listed = true → listedTo l.length k listed = LN → wpStill P ops w Lq l a →
    wpAnyL P md ops w n (fun listed' a' => listed' = LN ∧ Lq a') l.length listed a
  | [], _, _, _, _, _, _, _, _, hT, h => ⟨hT, h⟩
  | o :: l, k, listed, a, hlo, hk1, hk, inv, hB, hT, h => by
    have h0 : ops[k]? = some o := by simpa using (hlo 0 (by simp)).symm
    simp only [List.length_cons, headB, Bool.and_eq_true] at hB
    obtain ⟨⟨hr, hf⟩, hB'⟩ := hB
    have hkn : k < n := by simp only [List.length_cons] at hk; omega
    have hr' : k ∈ Region.ready md ops listed := by simpa using hr
    have hst : stOp P ops w k (wpStill P ops w Lq l) a := by unfold stOp; simp only [h0]; exact h
    obtain ⟨v, hy, hK⟩ := yieldsAt_of_stOp h0 hst
    exact first_now h0 hsel hs hl hn hk1 hkn (fun listed' a' hL j hj => by
        have := List.all_eq_true.1 hLN j (by rw [← hL.1]; exact hj)
        simpa using this) l.length listed a inv (Region.free_spec h0 hf) hr' hy
      (head_walk hsel hs hl hn LN hLN l (k + 1) _ _ (fun j hj => by have := hlo (j + 1) (by simp; omega); simpa [Nat.add_assoc, Nat.add_comm 1 j] using this) (by omega) (by simp only [List.length_cons] at hk; omega) (inv.set hr' hkn) hB' hT hK)

/-- all of it that a kernel can ask of a region written out; number 0 is taken ahead of all -/
def headsB (md : Region.Mode) (ops : Array Oper) (m : Nat) : Bool :=
  Region.noSelect ops && decide (m + 1 < ops.size) && sinkFrom md ops (m + 1) && lateB md ops (m + 1) && (Region.ready md ops (Array.replicate ops.size false)).contains 0 && Region.free md ops (Array.replicate ops.size false) 0 &&
    headB md ops m 1 ((Array.replicate ops.size false).setIfInBounds 0 true) && (Region.ready md ops (listedTo m 1 ((Array.replicate ops.size false).setIfInBounds 0 true))).all fun j => decide (m + 1 ≤ j)

theorem wp_region_head {id : Nat} {Q : Exit → Act → World → Prop} {a : Act} {w : World} {o : Oper} {l : List Oper} (m : Nat) (v : Value) (hm : P.follows .mixedOrders = true) (hB : headsB .any (o :: l).toArray m = true)
    (hQ : ∀ c a w, Q (.panic c) (a.put o.dst v) w → Q (.panic c) a w) (hy : Yields P (o :: l).toArray o v a)
    (h : wpStill P (o :: l).toArray w.drew (fun a' => wpAny P .any (o :: l).toArray Q ((o :: l).toArray.size - (m + 1)) (listedTo m 1 ((Array.replicate (o :: l).toArray.size false).setIfInBounds 0 true)) a' w.drew) (l.take m) (a.put o.dst v)) :
    (Code.region id (o :: l).toArray true).wp P Q a w := by
  simp only [headsB, Bool.and_eq_true, decide_eq_true_eq] at hB
  obtain ⟨⟨⟨⟨⟨⟨⟨hsel, hn⟩, hs⟩, hl⟩, hr⟩, hf⟩, hh⟩, hLN⟩ := hB
  have hn' : m < l.length := by simpa using hn
  have htl : (l.take m).length = m := by simp; omega
  have inv0 : HeadInv .any (o :: l).toArray (m + 1) (Array.replicate (o :: l).toArray.size false) :=
    ⟨by simp, fun j oj _ hl => (by rw [getD_replicate_false] at hl; cases hl), fun t _ ht => getD_in (by simpa using ht) (getD_replicate_false _ _)⟩
  have H := head_walk (md := .any) (P := P) (w := w.drew) hsel hs hl hn _ hLN (l.take m) 1 _ (a.put o.dst v) (fun j hj => by
    have hj' : j < m := by rw [htl] at hj; exact hj
    simp [hj', Nat.add_comm 1 j]) (Nat.le_refl _) (by rw [htl]; omega) (inv0.set (by simpa using hr) (by omega)) (by rw [htl]; exact hh) (by rw [htl]) h
  refine wp_region_any hm ?_
  have h2 := wpAny_of_head (Q' := Q) (g := (o :: l).toArray.size - (m + 1)) (fun listed a' hL => by rw [hL.1]; exact hL.2) _ _ _ H
  have es : (o :: l).toArray.size = (m + ((o :: l).toArray.size - (m + 1))) + 1 := by simp; omega
  rw [htl] at h2
  have h3 : wpAny P .any (o :: l).toArray Q (m + ((o :: l).toArray.size - (m + 1)) + 1) (Array.replicate (o :: l).toArray.size false) a w.drew := wpAny_take (by simp) hsel hf hr hQ hy h2
  rwa [← es] at h3
end
end Go.Proofs.YtlhmmplkdjibkaaGreatDoor
