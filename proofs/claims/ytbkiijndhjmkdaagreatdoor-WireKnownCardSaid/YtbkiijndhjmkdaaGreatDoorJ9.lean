/- The program's table of rows; which row says a number of a sort. -/
import Derived.Test.YtbkiijndhjmkdaaGreatDoorJ8
import Derived.BigQuiet
import Derived.Deep.RegionHeld3
import Derived.Laws.NewBlocks
import Derived.Lib.AppendStr
import Derived.RegionTactic
namespace Go.Proofs.YtbkiijndhjmkdaaGreatDoor.Pk
open Go.RowKit


/-- the beginning of a list or a map of i things -/
def listP (s i : Int) : List UInt8 × Int := if i < 0 then ([], 2) else if 65536 ≤ i then ([], 3) else (headP s i.toNat, 0)
/-- a row: its sort, the last number that it says, its first byte, the bytes of the number behind it -/
structure RowP where
  s : Int
  last : Nat
  f : Nat
  size : Nat
def rowsL : List RowP := [⟨0, 127, 0, 0⟩, ⟨0, 255, 204, 1⟩, ⟨0, 65535, 205, 2⟩, ⟨0, 4294967295, 206, 4⟩, ⟨0, 18446744073709551615, 207, 8⟩, ⟨1, 255, 196, 1⟩, ⟨1, 65535, 197, 2⟩,
  ⟨2, 31, 160, 0⟩, ⟨2, 255, 217, 1⟩, ⟨2, 65535, 218, 2⟩, ⟨3, 15, 144, 0⟩, ⟨3, 65535, 220, 2⟩, ⟨4, 15, 128, 0⟩, ⟨4, 65535, 222, 2⟩]
def rowAt (i : Nat) : RowP := rowsL.getD i ⟨0, 0, 0, 0⟩
def rowV (r : RowP) : List Value := [.int .i64 r.s, .int .u64 (r.last : Int), .int .u8 (r.f : Int), .int .i64 (r.size : Int)]
/-- the package's table -/
structure Glob (w : World) : Prop where
  size : 2 < w.heap.size
  c : ∀ i j, i < 14 → j < 4 → w.cell? ⟨2, i * 4 + j, none⟩ = (rowV (rowAt i))[j]?
theorem Glob.below {B : Nat} {w w' : World} (h : Glob w) (hB : 2 < B) (hb : Below B w w') : Glob w' :=
  ⟨by have := hb.size; have := h.size; omega, fun i j hi hj => (hb.cell (p := ⟨2, i * 4 + j, none⟩) (by show 2 < B; omega)).trans (h.c i j hi hj)⟩
theorem Glob.next {w w' : World} (h : Glob w) (hb : Below w.heap.size w w') : Glob w' := h.below h.size hb
theorem Glob.cells {w : World} (h : Glob w) (i : Nat) (hi : i < 14) : w.cell? ⟨2, i * 4, none⟩ = some (.int .i64 (rowAt i).s) ∧ w.cell? ⟨2, i * 4 + 1, none⟩ = some (.int .u64 ((rowAt i).last : Int)) ∧
    w.cell? ⟨2, i * 4 + 2, none⟩ = some (.int .u8 ((rowAt i).f : Int)) ∧ w.cell? ⟨2, i * 4 + 3, none⟩ = some (.int .i64 ((rowAt i).size : Int)) :=
  ⟨h.c i 0 hi (by decide), h.c i 1 hi (by decide), h.c i 2 hi (by decide), h.c i 3 hi (by decide)⟩

/-- the row says it -/
def saysB (r : RowP) (s : Int) (n : Nat) : Bool := r.s == s && decide (n ≤ r.last)

set_option maxRecDepth 100000 in
set_option maxHeartbeats 1000000 in
theorem says_any (p0 p1 p2 : Nat) (i : Nat) (s : Int) (n : Nat) (w : World) (hi : i < 14) (hg : Glob w)
    (h0 : w.cell? ⟨p0, 0, none⟩ = some (.int .i64 (i : Int))) (h1 : w.cell? ⟨p1, 0, none⟩ = some (.int .i64 s)) (h2 : w.cell? ⟨p2, 0, none⟩ = some (.int .u64 (n : Int))) :
    Calls Tryz.prog 213 #[.pointer (some ⟨p0, 0, none⟩), .pointer (some ⟨p1, 0, none⟩), .pointer (some ⟨p2, 0, none⟩)] w fun e w' => e = .returned (.bool (saysB (rowAt i) s n)) ∧ Below w.heap.size w w' := by
  obtain ⟨g0, g1, _, _⟩ := hg.cells i hi
  have hsz := hg.size
  unfold saysB
  generalize rowAt i = r at *
  obtain ⟨rs, rl, rf, rz⟩ := r
  have i0 : (0 : Int) ≤ (i : Int) := by omega
  have i1 : (i : Int) < 14 := by omega
  clear hi hg
  by_cases hs : rs = s
  · have e1 : (rs == s) = true := by simpa using hs
    have hd : ∃ b, decide ((n : Int) ≤ (rl : Int)) = b := ⟨_, rfl⟩
    have hn : decide (n ≤ rl) = decide ((n : Int) ≤ (rl : Int)) := by rw [decide_eq_decide]; omega
    obtain ⟨b, hb⟩ := hd
    show Calls _ _ _ _ fun e w' => e = .returned (.bool ((rs == s) && decide (n ≤ rl))) ∧ _
    rw [hn, e1]
    go_enter Tryz.func213, Tryz.ntmps213
    go_wp2
    go_quiet (fail)
    have hq : Below w.heap.size w (w.drewN nq) := by0q w nq
    go_wp2
    go_ret
    exact ⟨rfl, hq⟩
  · have e1 : (rs == s) = false := by simpa using hs
    show Calls _ _ _ _ fun e w' => e = .returned (.bool ((rs == s) && decide (n ≤ rl))) ∧ _
    rw [e1]
    go_enter Tryz.func213, Tryz.ntmps213
    go_wp2
    go_quiet (fail)
    have hq : Below w.heap.size w (w.drewN nq) := by0q w nq
    go_wp2
    go_ret
    exact ⟨rfl, hq⟩
end Go.Proofs.YtbkiijndhjmkdaaGreatDoor.Pk
/- The first row that says a number of a sort. -/
namespace Go.Proofs.YtbkiijndhjmkdaaGreatDoor.Pk
open Go.RowKit

/-- what lies while the rows are gone through: the sort, the number, the answer's place, the row that is looked at -/
structure Look (B : Nat) (w0 : World) (s : Int) (n i : Nat) (wr : World) : Prop where
  g : Glob wr
  cs : wr.heap[B]? = some (.cells #[.int .i64 s] 3 (0, 0))
  cn : wr.heap[B + 1]? = some (.cells #[.int .u64 (n : Int)] 22 (0, 0))
  cr : wr.heap[B + 1 + 1]? = some (.cells #[.int .i64 0, .int .u64 0, .int .u8 0, .int .i64 0] 283 (0, 0))
  ca : wr.heap[B + 1 + 1 + 1]? = some (.cells #[.int .i64 (i : Int)] 3 (0, 0))
  hb : Below B w0 wr
theorem Look.next {B : Nat} {w0 wr wx : World} {s : Int} {n i : Nat} (h : Look B w0 s n i wr) (hb : Below wr.heap.size wr wx) : Look B w0 s n i wx := by
  have z : B + 1 + 1 + 1 < wr.heap.size := (Array.getElem?_eq_some_iff.1 h.ca).1
  exact ⟨h.g.next hb, (hb.block _ (by omega)).trans h.cs, (hb.block _ (by omega)).trans h.cn, (hb.block _ (by omega)).trans h.cr, (hb.block _ z).trans h.ca, h.hb.trans (hb.mono (by omega))⟩
theorem Look.start (w : World) (s : Int) (n : Nat) (hg : Glob w) : Look w.heap.size w s n 0 ((((w.alloc (.cells #[.int .i64 s] 3)).alloc (.cells #[.int .u64 (n : Int)] 22)).alloc (.cells #[.int .i64 0, .int .u64 0, .int .u8 0, .int .i64 0] 283)).alloc (.cells #[.int .i64 0] 3)) := by
  have hb : Below w.heap.size w ((((w.alloc (.cells #[.int .i64 s] 3)).alloc (.cells #[.int .u64 (n : Int)] 22)).alloc (.cells #[.int .i64 0, .int .u64 0, .int .u8 0, .int .i64 0] 283)).alloc (.cells #[.int .i64 0] 3)) :=
    ((((Below.refl _ _).alloc (Nat.le_refl _) _).alloc (by simp) _).alloc (by simp <;> omega) _).alloc (by simp <;> omega) _
  refine ⟨hg.next hb, ?_, ?_, ?_, ?_, hb⟩
  · rw [heap_alloc_old (h := by simp <;> omega), heap_alloc_old (h := by simp <;> omega), heap_alloc_old (h := by simp), heap_alloc_new]
  · rw [heap_alloc_old (h := by simp <;> omega), heap_alloc_old (h := by simp), show w.heap.size + 1 = (w.alloc (.cells #[.int .i64 s] 3)).heap.size by simp, heap_alloc_new]
  · rw [heap_alloc_old (h := by simp), show w.heap.size + 1 + 1 = ((w.alloc (.cells #[.int .i64 s] 3)).alloc (.cells #[.int .u64 (n : Int)] 22)).heap.size by simp, heap_alloc_new]
  · rw [show w.heap.size + 1 + 1 + 1 = (((w.alloc (.cells #[.int .i64 s] 3)).alloc (.cells #[.int .u64 (n : Int)] 22)).alloc (.cells #[.int .i64 0, .int .u64 0, .int .u8 0, .int .i64 0] 283)).heap.size by simp, heap_alloc_new]; rfl
theorem Look.step {B : Nat} {w0 wr : World} {s : Int} {n i : Nat} (h : Look B w0 s n i wr) (z : Int) (hz : z = ((i + 1 : Nat) : Int)) (h0 : 2 < w0.heap.size) (hB : B = w0.heap.size) : Look B w0 s n (i + 1) (wr.setCell ⟨B + 1 + 1 + 1, 0, none⟩ (.int .i64 z)) := by
  subst hz
  have z : B + 1 + 1 + 1 < wr.heap.size := (Array.getElem?_eq_some_iff.1 h.ca).1
  have hb : Below B wr (wr.setCell ⟨B + 1 + 1 + 1, 0, none⟩ (.int .i64 ((i + 1 : Nat) : Int))) := (Below.refl _ _).setCell (by show B ≤ B + 1 + 1 + 1; omega) _
  exact ⟨h.g.below (by omega) hb, (lit_far _ (by omega)).trans h.cs, (lit_far _ (by omega)).trans h.cn, (lit_far _ (by omega)).trans h.cr, (lit_set _ h.ca).trans rfl, h.hb.trans hb⟩

set_option maxRecDepth 100000 in
set_option maxHeartbeats 1000000 in
theorem shortest_any (s : Int) (n : Nat) (w : World) (hg : Glob w) :
    Calls Tryz.prog 205 #[.int .i64 s, .int .u64 (n : Int)] w fun e w' =>
      ((∃ i, i < 14 ∧ saysB (rowAt i) s n = true ∧ (∀ j, j < i → saysB (rowAt j) s n = false) ∧ e = .returned (.tuple #[.agg (rowV (rowAt i)).toArray, .bool true])) ∨
        ((∀ j, j < 14 → saysB (rowAt j) s n = false) ∧ e = .returned (.tuple #[.agg #[.int .i64 0, .int .u64 0, .int .u8 0, .int .i64 0], .bool false]))) ∧ Below w.heap.size w w' := by
  have HG := Lib.hid hg
  clear hg
  go_enter Tryz.func205, Tryz.ntmps205
  go_wp2
  have HL0 := Lib.hid (Look.start w s n HG.out)
  go_loopw [] (fun wr => ∃ i : Nat, i < 14 ∧ Hid (∀ j, j < i → saysB (rowAt j) s n = false) ∧ Hid (Look w.heap.size w s n i wr))
    (fun wr => 14 - (match wr.cell? ⟨w.heap.size + 1 + 1 + 1, 0, none⟩ with | some (.int _ i) => i.toNat | _ => 0))
  case atStart => exact ⟨0, by decide, Lib.hid (fun j hj => by omega), HL0⟩
  case round =>
    obtain ⟨i, hi, HJ, HL⟩ := hrel
    have HS := Lib.hid (says_any (w.heap.size + 1 + 1 + 1) w.heap.size (w.heap.size + 1) i s n wr hi HL.out.g (lit_cell HL.out.ca 0) (lit_cell HL.out.cs 0) (lit_cell HL.out.cn 0))
    have z0 := (lit_cell HL.out.ca 0).trans rfl
    generalize hm : (14 - (match wr.cell? ⟨w.heap.size + 1 + 1 + 1, 0, none⟩ with | some (.int _ i) => i.toNat | _ => 0)) = M at *
    rw [z0] at hm
    have hM : M = 14 - i := by rw [← hm]; simp
    clear z0 hm HL0
    generalize hb : saysB (rowAt i) s n = b at HS
    have Hb := Lib.hid hb
    clear hb
    have i0 : (0 : Int) ≤ (i : Int) := by omega
    have i1 : (i : Int) < 14 := by omega
    cases b with
    | true =>
      go_wp2_with (go_at_call 213; refine HS.out.mono ?_; rintro e w1 ⟨rfl, b1⟩; have HL2 := Lib.hid (HL.out.next b1); have c0 := (lit_cell HL2.out.ca 0).trans rfl; obtain ⟨g0, g1, g2, g3⟩ := HL2.out.g.cells i hi; have r0 := (lit_cell HL2.out.cr 0).trans rfl; have r1 := (lit_cell HL2.out.cr 1).trans rfl; have r2 := (lit_cell HL2.out.cr 2).trans rfl; have r3 := (lit_cell HL2.out.cr 3).trans rfl; have f0 := lit_free HL2.out.cr 0; have f1 := lit_free HL2.out.cr 1; have f2 := lit_free HL2.out.cr 2; have f3 := lit_free HL2.out.cr 3)
      have HL2 := Lib.hid (HL.out.next b1)
      refine bodyPost_ret (v := .tuple #[.agg (rowV (rowAt i)).toArray, .bool true]) ?_ rfl ⟨.inl ⟨i, hi, Hb.out, HJ.out, rfl⟩, ?_⟩
      · simp [results, Tryz.results205, go_sem, rowV, *]
      · have hN : w.heap.size ≤ w.heap.size + 1 + 1 := by omega
        exact (((HL2.out.hb.setCell hN _).setCell hN _).setCell hN _).setCell hN _
    | false =>
      by_cases hl : i = 13
      · have e1 : ((i : Int) + 1 == 14) = true := by rw [hl]; rfl
        go_wp2_with (go_at_call 213; refine HS.out.mono ?_; rintro e w1 ⟨rfl, b1⟩; have HL2 := Lib.hid (HL.out.next b1); have c0 := (lit_cell HL2.out.ca 0).trans rfl; have fa := lit_free HL2.out.ca 0; have r0 := (lit_cell HL2.out.cr 0).trans rfl; have r1 := (lit_cell HL2.out.cr 1).trans rfl; have r2 := (lit_cell HL2.out.cr 2).trans rfl; have r3 := (lit_cell HL2.out.cr 3).trans rfl; have f0 := lit_free HL2.out.cr 0; have f1 := lit_free HL2.out.cr 1; have f2 := lit_free HL2.out.cr 2; have f3 := lit_free HL2.out.cr 3)
        refine bodyPost_ret (v := .tuple #[.agg #[.int .i64 0, .int .u64 0, .int .u8 0, .int .i64 0], .bool false]) ?_ rfl ⟨.inr ⟨fun j hj => ?_, rfl⟩, ?_⟩
        · simp [results, Tryz.results205, go_sem, *]
        · by_cases hji : j < i
          · exact HJ.out j hji
          · obtain rfl : j = i := by omega
            exact Hb.out
        · have hN : w.heap.size ≤ w.heap.size + 1 + 1 := by omega
          have hM : w.heap.size ≤ w.heap.size + 1 + 1 + 1 := by omega
          exact ((((HL2.out.hb.setCell hM _).setCell hN _).setCell hN _).setCell hN _).setCell hN _
      · have e1 : ((i : Int) + 1 == 14) = false := by rw [beq_eq_false_iff_ne]; omega
        go_wp2_with (go_at_call 213; refine HS.out.mono ?_; rintro e w1 ⟨rfl, b1⟩; have HL2 := Lib.hid (HL.out.next b1); have c0 := (lit_cell HL2.out.ca 0).trans rfl; have fa := lit_free HL2.out.ca 0)
        refine ⟨⟨i + 1, by omega, Lib.hid (fun j hj => ?_), Lib.hid (HL2.out.step _ (by omega) (by have := HG.out.size; omega) rfl)⟩, ?_⟩
        · by_cases hji : j < i
          · exact HJ.out j hji
          · obtain rfl : j = i := by omega
            exact Hb.out
        · have hz := (lit_cell (HL2.out.step ((i : Int) + 1) (by omega) (by have := HG.out.size; omega) rfl).ca 0).trans rfl
          rw [hz, hM]
          simp
          omega
end Go.Proofs.YtbkiijndhjmkdaaGreatDoor.Pk
/- A number laid in a row's way, behind what lies already. -/
namespace Go.Proofs.YtbkiijndhjmkdaaGreatDoor.Pk
open Go.RowKit

/-- the bytes of a text, as memory has them -/
def byV (L : List UInt8) : List Value := L.map fun b => .int .u8 (b.toNat : Int)
theorem byV_len (L : List UInt8) : (byV L).length = L.length := List.length_map ..
theorem byV_cat (L M : List UInt8) : byV (L ++ M) = byV L ++ byV M := List.map_append ..
theorem info5a : (Tryz.prog.info? 5).map (fun i => (i.zero, i.size, i.bytes)) = some (some (.int .u8 0), 1, 1) := by kernel_rfl
theorem info5b : ∃ i0, Tryz.prog.info? 5 = some i0 ∧ i0.zero = some (.int .u8 0) ∧ i0.size = 1 ∧ i0.bytes = 1 := info_parts info5a
theorem one_cell {wr wa : World} {v : Value} (hc : wa.cell? ⟨wr.heap.size, 0, none⟩ = some v) : ∀ (j : Nat) (u : Value), [v][j]? = some u → wa.cell? ((⟨wr.heap.size, 0, none⟩ : Addr).add j) = some u := by
  intro j u hj
  match j, hj with
  | 0, hj => simp at hj; subst hj; simpa [Addr.add] using hc

/-- a block that a writer may turn: bytes, or a writer -/
def Wild (o : Obj) : Prop := ∃ cs fl, o = .cells cs 5 fl ∨ o = .cells cs 216 fl
/-- below B all is as it was; and so is all that a writer may not turn -/
structure Bel (B : Nat) (w w' : World) : Prop where
  b : Below B w w'
  k : ∀ (k : Nat) (o : Obj), w.heap[k]? = some o → ¬ Wild o → w'.heap[k]? = some o
theorem Bel.refl (B : Nat) (w : World) : Bel B w w := ⟨Below.refl _ _, fun _ _ h _ => h⟩
theorem Bel.trans {B : Nat} {w w1 w2 : World} (h : Bel B w w1) (k : Bel B w1 w2) : Bel B w w2 := ⟨h.b.trans k.b, fun i o hi hn => k.k i o (h.k i o hi hn) hn⟩
theorem Bel.mono {B B' : Nat} {w w1 : World} (h : Bel B w w1) (hB : B' ≤ B) : Bel B' w w1 := ⟨h.b.mono hB, h.k⟩
theorem Bel.size {B : Nat} {w w1 : World} (h : Bel B w w1) : w.heap.size ≤ w1.heap.size := h.b.size
theorem Bel.block {B : Nat} {w w1 : World} (h : Bel B w w1) (k : Nat) (hk : k < B) : w1.heap[k]? = w.heap[k]? := h.b.block k hk
theorem Bel.fresh {B : Nat} {w w1 : World} (h : Below w.heap.size w w1) (hB : B ≤ w.heap.size) : Bel B w w1 := ⟨h.mono hB, fun k _ hk _ => (h.block k (lit_lt hk)).trans hk⟩
theorem Bel.alloc {B : Nat} {w w1 : World} (h : Bel B w w1) (hB : B ≤ w1.heap.size) (o : Obj) : Bel B w (w1.alloc o) := h.trans (Bel.fresh (by0 w1 o) hB)
theorem Bel.setW {B b j : Nat} {w w1 : World} {cs : Array Value} (h : Bel B w w1) (hB : B ≤ b) (hb : w1.heap[b]? = some (.cells cs 216 (0, 0))) (v : Value) : Bel B w (w1.setCell ⟨b, j, none⟩ v) :=
  h.trans ⟨(Below.refl _ _).setCell hB _, fun k o hk hn => (lit_far v (fun e => hn (by subst e; rw [hb] at hk; cases hk; exact ⟨_, _, .inr rfl⟩))).trans hk⟩
theorem Bel.grown {w w1 : World} {base : Nat} {v : Value} {n : Nat} {xs : List Value} (hown : w.ownsRow base 5 1 v n xs) (hg : w.grownBy w1 v.ownBlock) (hb : base ≤ w.heap.size) : Bel base w w1 :=
  ⟨(Below.refl _ _).grown hg hb (fun k e => (hown.lt k e).1), fun k o hk hn => (hg.block k (lit_lt hk) (fun e => hn (by
    rcases hown.2 with ⟨rfl, _⟩ | ⟨g, cap, cur, rfl, _, h2, _⟩
    · cases e
    · cases e; rw [h2] at hk; cases hk; exact ⟨_, _, .inl rfl⟩))).trans hk⟩

/-- append of one byte to the bytes that lie so far -/
theorem append_byte {ops : Array Oper} {rest : List Oper} {o : Oper} {a : Act} {Q : Exit → Act → World → Prop} {wr : World} {base : Nat} {L : List UInt8} {v : Value} {c : Int} {n : Nat} (b : UInt8) (N : Nat) (hN : wr.heap.size = N) (hgd : o.guard = none) (s x : Operand)
    (ho : o.op = .call { callee := .builtin .append, args := #[s, x], argTypes := #[100, 100] })
    (hs : a.eval s = v) (hx : a.eval x = .slice (some ⟨N, 0, none⟩) 1 1) (hn : L.length = n) (hown : wr.ownsRow base 5 1 v n (byV L)) (hc : c = (b.toNat : Int)) (hm : n ≤ 100000000) (h0 : base ≤ wr.heap.size)
    (h : ∀ v' w', w'.ownsRow base 5 1 v' (n + 1) (byV (L ++ [b])) → Bel base wr w' → (∀ k, k < wr.heap.size → v.ownBlock ≠ some k → w'.heap[k]? = wr.heap[k]?) → wpList Tryz.prog ops Q rest (a.put o.dst v') w') :
    wpList Tryz.prog ops Q (o :: rest) a (wr.alloc (.cells #[.int .u8 c] 5)) := by
  subst hN
  obtain ⟨i0, hi, hz0, hz1, hz2⟩ := info5b
  refine wpList_append_own _ hgd s x 100 ho base 5 i0 (.int .u8 0) 1 1 Tryz.underlying100 hi hz0 hz1 hz2 rfl (by decide) v n _ hs (hown.alloc _) ⟨wr.heap.size, 0, none⟩ 1 1 [.int .u8 c] hx rfl ?_ ?_ (by unfold maxLen; omega) (by omega) (by rw [World.size_alloc]; omega) ?_
  · exact one_cell ((lit_cell (heap_alloc_new wr _) 0).trans rfl)
  · intro u hu; simp at hu; subst hu; rfl
  · intro v' w' hown' hg _
    have e : byV L ++ [.int .u8 c] = byV (L ++ [b]) := by rw [byV_cat, hc]; rfl
    rw [e] at hown'
    exact h v' w' hown' ((Bel.fresh (by0 wr _) h0).trans (Bel.grown (hown.alloc _) hg (by rw [World.size_alloc]; omega)))
      (fun k hk hne => (hg.block k (by rw [World.size_alloc]; omega) (fun e => hne e.symm)).trans (heap_alloc_old _ _ hk))

/-- a number laid in a row's way -/
def rowP (r : RowP) (n : Nat) : List UInt8 := if r.size = 0 then [UInt8.ofNat (r.f + n)] else UInt8.ofNat r.f :: be n r.size
theorem be_cut (n : Nat) : ∀ k, k ≤ 8 → be n (k + 1) = UInt8.ofNat (n / 256 ^ k) :: be n k := fun _ _ => rfl

set_option maxRecDepth 100000 in
set_option maxHeartbeats 1000000 in
theorem head_any (r : RowP) (n : Nat) (base : Nat) (v : Value) (L : List UInt8) (w : World) (hr : r.size ≤ 8) (hf : r.f < 256) (hfn : r.size = 0 → r.f + n < 256) (hn : n < 18446744073709551616) (hL : L.length ≤ 50000000)
    (hown : w.ownsRow base 5 1 v L.length (byV L)) (h0 : base ≤ w.heap.size) :
    Calls Tryz.prog 206 #[.agg (rowV r).toArray, v, .int .u64 (n : Int)] w fun e w' => ∃ v', e = .returned v' ∧ w'.ownsRow base 5 1 v' (L ++ rowP r n).length (byV (L ++ rowP r n)) ∧ Bel base w w' := by
  obtain ⟨rs, rl, rf, rz⟩ := r
  have hf : rf < 256 := hf
  have hfn : rz = 0 → rf + n < 256 := hfn
  have hr : rz ≤ 8 := hr
  have ho1 := hown.alloc (.cells #[.int .i64 rs, .int .u64 (rl : Int), .int .u8 (rf : Int), .int .i64 (rz : Int)] 283)
  have hb1 : Bel base w (w.alloc (.cells #[.int .i64 rs, .int .u64 (rl : Int), .int .u8 (rf : Int), .int .i64 (rz : Int)] 283)) := Bel.fresh (by0 w _) h0
  have hz1 : base ≤ (w.alloc (.cells #[.int .i64 rs, .int .u64 (rl : Int), .int .u8 (rf : Int), .int .i64 (rz : Int)] 283)).heap.size := by rw [World.size_alloc]; omega
  have hcz := fun i => lit_cell (heap_alloc_new w (.cells #[.int .i64 rs, .int .u64 (rl : Int), .int .u8 (rf : Int), .int .i64 (rz : Int)] 283)) i
  have hne : v.ownBlock ≠ some w.heap.size := fun e => by have := (hown.lt _ e).2; omega
  clear hown
  by_cases hz : rz = 0
  · subst hz
    have hn' := hfn rfl
    have e0 : rowP ⟨rs, rl, rf, 0⟩ n = [UInt8.ofNat (rf + n)] := rfl
    rw [e0]
    have hc : (rf : Int) + (n : Int) = ((UInt8.ofNat (rf + n)).toNat : Int) := by rw [UInt8.toNat_ofNat']; omega
    obtain ⟨c, hcc⟩ : ∃ c, UInt8.ofNat (rf + n) = c := ⟨_, rfl⟩
    rw [hcc] at hc ⊢
    have HC := Lib.hid hc
    clear hc hcz hcc
    show Calls _ _ #[.agg #[.int .i64 rs, .int .u64 (rl : Int), .int .u8 (rf : Int), .int .i64 0], v, _] _ _
    go_enter Tryz.func206, Tryz.ntmps206
    go_wp2_with (at_builtin; refine append_byte c (w.heap.size + 1) (by simp) rfl _ _ rfl rfl rfl rfl ho1 HC.out (by omega) hz1 ?_)
    intro v' w1 ho2 hb2 _
    go_wp2
    go_ret
    exact ⟨v', rfl, by rw [List.length_append]; exact ho2, hb1.trans hb2⟩
  · have e0 : rowP ⟨rs, rl, rf, rz⟩ n = UInt8.ofNat rf :: be n rz := if_neg hz
    rw [e0]
    have HC := Lib.hid (show (rf : Int) = ((UInt8.ofNat rf).toNat : Int) by rw [UInt8.toNat_ofNat']; omega)
    have e1 : ((rz : Int) == 0) = false := by rw [beq_eq_false_iff_ne]; omega
    have HZ := Lib.hid (show 0 < rz ∧ rz ≤ 8 by omega)
    clear hz hr hfn e0
    show Calls _ _ #[.agg #[.int .i64 rs, .int .u64 (rl : Int), .int .u8 (rf : Int), .int .i64 (rz : Int)], v, _] _ _
    have c3 := (hcz 3).trans rfl
    go_enter Tryz.func206, Tryz.ntmps206
    go_wp2_with (at_builtin; refine append_byte (UInt8.ofNat rf) (w.heap.size + 1) (by simp) rfl _ _ rfl rfl rfl rfl ho1 HC.out (by omega) hz1 ?_)
    intro v1 w1 ho2 hb2 hk2
    have c4 := (lit_cell ((hk2 w.heap.size (by simp) hne).trans (heap_alloc_new _ _)) 3).trans rfl
    have hb3 := hb1.trans hb2
    clear hb1 hb2 hk2 c3 hz1 ho1
    go_wp2
    have HL := Lib.hid hL
    clear e1 c4 hL
    go_loopw [1, 7] (fun v i wr => ∃ j : Nat, ∃ D : List UInt8, j ≤ rz ∧ Hid (D ++ be n j = be n rz) ∧ D.length = rz - j ∧ i = .int .i64 ((j : Int) - 1) ∧ wr.ownsRow base 5 1 v (L.length + 1 + D.length) (byV ((L ++ [UInt8.ofNat rf]) ++ D)) ∧ base ≤ wr.heap.size ∧ Bel base w wr)
      (fun _ i _ => ((intOf i) + 1).toNat)
    case atStart => exact ⟨rz, [], Nat.le_refl _, Lib.hid rfl, by simp, by go_num, by simpa using ho2, by have := hb3.size; omega, hb3⟩
    case round =>
      obtain ⟨j, D, hj, HD, hDl, rfl, hown, hz, hbe⟩ := hrel
      cases j with
      | zero =>
        have hD : D = be n rz := by have := HD.out; rwa [be, List.append_nil] at this
        rw [hD, List.append_assoc] at hown
        have hl : L.length + 1 + (be n rz).length = (L ++ UInt8.ofNat rf :: be n rz).length := by simp; omega
        rw [hl] at hown
        go_wp2
        go_ret
        exact ⟨_, rfl, hown, hbe⟩
      | succ k =>
        have a1 : ((k + 1 : Nat) : Int) - 1 = (k : Int) := by omega
        have hq : (n : Int) / 2 ^ (8 * k) % 256 = ((UInt8.ofNat (n / 256 ^ k)).toNat : Int) := by
          rw [← byte_mod, show (2 : Int) ^ (8 * k) = ((256 ^ k : Nat) : Int) by rw [Int.pow_mul]; push_cast; rfl]
          push_cast
          rfl
        rw [a1]
        have HQ := Lib.hid hq
        have HD2 := Lib.hid (show (D ++ [UInt8.ofNat (n / 256 ^ k)]) ++ be n k = be n rz by rw [← HD.out, List.append_assoc]; rfl)
        obtain ⟨c, hcc⟩ : ∃ c, UInt8.ofNat (n / 256 ^ k) = c := ⟨_, rfl⟩
        rw [hcc] at HQ HD2
        clear hq hcc a1
        have hll : ((L ++ [UInt8.ofNat rf]) ++ D).length = L.length + 1 + D.length := by simp; omega
        have HLL := Lib.hid hll
        have HM := Lib.hid (show L.length + 1 + D.length ≤ 100000000 by have := HL.out; have := HZ.out; omega)
        clear hll
        go_wp2_with (at_builtin; refine append_byte c wr.heap.size rfl rfl _ _ rfl rfl rfl HLL.out hown HQ.out HM.out hz ?_)
        intro v2 w2 hown2 hb2 _
        go_wp2
        go_roundw
        case rel =>
          have e : L.length + 1 + (D ++ [c]).length = L.length + 1 + (rz - (k + 1)) + 1 := by simp; omega
          refine ⟨k, D ++ [c], by omega, HD2, by simp; omega, by go_num, ?_, by have := hb2.size; omega, hbe.trans hb2⟩
          rw [e]
          simpa using hown2
        case measure => simp [intOf] <;> omega
end Go.Proofs.YtbkiijndhjmkdaaGreatDoor.Pk
/- A thing's row, and what it counts, laid behind what lies already. -/
namespace Go.Proofs.YtbkiijndhjmkdaaGreatDoor.Pk
open Go.RowKit

/-- append of a text, as a step of a region that draws -/
theorem step_append_str {ops : Array Oper} {o : Oper} {a : Act} {K : Act → World → Prop} {Q : Exit → Act → World → Prop} {E : Prop} {w : World} (hgd : o.guard = none) (s x : Operand)
    (ho : o.op = .call { callee := .builtin .append, args := #[s, x], argTypes := #[100, 9] }) (base : Nat) (v : Value) (L T : List UInt8) (hs : a.eval s = v) (hx : a.eval x = .string ⟨T.toArray⟩)
    (hown : w.ownsRow base 5 1 v L.length (byV L)) (hm : L.length + T.length ≤ 100000000) (h0 : base ≤ w.heap.size)
    (h : ∀ v' w', w'.ownsRow base 5 1 v' (L ++ T).length (byV (L ++ T)) → Bel base w w' → K (a.put o.dst v') w') :
    if Region.wanted o (yielded ops a.tmps) = true then Oper.wp Tryz.prog o a w K Q else E := by
  have hw : Region.wanted o (yielded ops a.tmps) = true := by simp [Region.wanted, hgd]
  rw [if_pos hw]
  obtain ⟨i0, hi, hz0, hz1, hz2⟩ := info5b
  obtain ⟨v', w', hr, h2, h3, _⟩ := Lib.run_append_own_string (P := Tryz.prog) w base 100 9 o.type 5 i0 Tryz.underlying100 Tryz.underlying9 hi hz0 hz1 hz2 v L.length _ hown ⟨T.toArray⟩ (by show L.length + T.length ≤ maxLen; unfold maxLen; omega) (by show L.length + T.length ≤ _; omega) h0
  unfold Oper.wp execOp
  simp only [ho, resolve, invoke, builtin, Sem.run_bind, Sem.run_pure, Result.andThen_ok, List.map_toArray, List.map_cons, List.map_nil, hs, hx, hr]
  refine h v' w' ?_ (Bel.grown hown h3 h0)
  have e : byV L ++ Lib.strCells ⟨T.toArray⟩ = byV (L ++ T) := by rw [byV_cat]; rfl
  rw [← e, List.length_append]
  exact h2

theorem shortest_yes (s : Int) (n i : Nat) (w : World) (hg : Glob w) (hi : i < 14) (hs : saysB (rowAt i) s n = true) (hj : ∀ j, j < i → saysB (rowAt j) s n = false) :
    Calls Tryz.prog 205 #[.int .i64 s, .int .u64 (n : Int)] w fun e w' => e = .returned (.tuple #[.agg (rowV (rowAt i)).toArray, .bool true]) ∧ Below w.heap.size w w' := by
  refine (shortest_any s n w hg).mono ?_
  rintro e w' ⟨⟨k, _, hk, hk2, rfl⟩ | ⟨hk, _⟩, hb⟩
  · have : k = i := by
      rcases Nat.lt_trichotomy k i with h | h | h
      · have := hj k h; rw [hk] at this; cases this
      · exact h
      · have := hk2 i h; rw [hs] at this; cases this
    exact ⟨by rw [this], hb⟩
  · have := hk i hi; rw [hs] at this; cases this
theorem shortest_no (s : Int) (n : Nat) (w : World) (hg : Glob w) (hj : ∀ j, j < 14 → saysB (rowAt j) s n = false) :
    Calls Tryz.prog 205 #[.int .i64 s, .int .u64 (n : Int)] w fun e w' => e = .returned (.tuple #[.agg #[.int .i64 0, .int .u64 0, .int .u8 0, .int .i64 0], .bool false]) ∧ Below w.heap.size w w' := by
  refine (shortest_any s n w hg).mono ?_
  rintro e w' ⟨⟨k, hk0, hk, hk2, rfl⟩ | ⟨hk, rfl⟩, hb⟩
  · have := hj k hk0; rw [hk] at this; cases this
  · exact ⟨rfl, hb⟩
theorem slice_of_own {w : World} {base : Nat} {v : Value} {n : Nat} {xs : List Value} (h : w.ownsRow base 5 1 v n xs) : ∃ ao ln cp, v = .slice ao ln cp := by
  rcases h.2 with ⟨rfl, _⟩ | ⟨g, cap, cur, rfl, _⟩
  · exact ⟨_, _, _, rfl⟩
  · exact ⟨_, _, _, rfl⟩
theorem rowP_len (r : RowP) (n : Nat) (h : r.size ≤ 8) : (rowP r n).length ≤ 9 := by
  unfold rowP
  split
  · simp
  · rw [List.length_cons, be_length]; omega
theorem rows_fit : ∀ i, i < 14 → (rowAt i).size ≤ 8 ∧ (rowAt i).f < 256 ∧ ((rowAt i).size = 0 → (rowAt i).f + (rowAt i).last < 256) := by decide
theorem says_le {r : RowP} {s : Int} {n : Nat} (h : saysB r s n = true) : n ≤ r.last := by
  unfold saysB at h
  simp at h
  exact h.2

/-- at block b lies a writer whose bytes are L, all of its memory from block B on; the table lies -/
structure Wr (B b : Nat) (L : List UInt8) (w : World) : Prop where
  pos : 2 < B
  hB : B ≤ b
  g : Glob w
  h : ∃ v, w.heap[b]? = some (.cells #[v] 216 (0, 0)) ∧ w.ownsRow (b + 1) 5 1 v L.length (byV L)
theorem Wr.lt {B b : Nat} {L : List UInt8} {w : World} (h : Wr B b L w) : b < w.heap.size := by
  obtain ⟨v, h1, _⟩ := h.h
  exact (Array.getElem?_eq_some_iff.1 h1).1
theorem Wr.next {B b : Nat} {L : List UInt8} {w w' : World} (h : Wr B b L w) (hb : Below w.heap.size w w') : Wr B b L w' := by
  have hl := h.lt
  obtain ⟨v, h1, h2⟩ := h.h
  exact ⟨h.pos, h.hB, h.g.next hb, v, (hb.block _ hl).trans h1, h2.kept (w' := w') (row := none) ⟨hb.os, hb.tape, hb.output, hb.size, fun k hk _ => hb.block k hk⟩ (by
    cases hv : v.ownBlock with
    | none => exact .inl rfl
    | some k => exact .inr (fun e => by cases e))⟩

theorem Wr.stored {B b : Nat} {L : List UInt8} {w : World} {v x : Value} (hp : 2 < B) (hB : B ≤ b) (g : Glob w) (hb : w.heap[b]? = some (.cells #[x] 216 (0, 0))) (hown : w.ownsRow (b + 1) 5 1 v L.length (byV L)) :
    Wr B b L (w.setCell ⟨b, 0, none⟩ v) := by
  have hlt : Below B w (w.setCell ⟨b, 0, none⟩ v) := (Below.refl _ _).setCell hB _
  refine ⟨hp, hB, g.below hp hlt, v, (lit_set v hb).trans rfl, hown.kept (w' := w.setCell ⟨b, 0, none⟩ v) (row := some b) ⟨rfl, rfl, rfl, hlt.size, fun k _ hk => lit_far v (fun e => hk (by rw [e]))⟩ ?_⟩
  cases hv : v.ownBlock with
  | none => exact .inl rfl
  | some k => exact .inr (fun e => by cases e; have := (hown.lt _ hv).1; omega)

set_option maxRecDepth 100000 in
set_option maxHeartbeats 1000000 in
theorem lay_yes (B b : Nat) (L T : List UInt8) (s : Int) (n : Nat) (i : Nat) (w : World) (hW : Wr B b L w) (hL : L.length < 10000000) (hT : T.length < 10000000) (hn : n < 18446744073709551616)
    (hi : i < 14) (hs : saysB (rowAt i) s n = true) (hj : ∀ j, j < i → saysB (rowAt j) s n = false) :
    Calls Tryz.prog 181 #[.pointer (some ⟨b, 0, none⟩), .int .i64 s, .int .u64 (n : Int), .string ⟨T.toArray⟩] w fun e w' => e = .returned (.int .i64 0) ∧ Wr B b (L ++ (rowP (rowAt i) n ++ T)) w' ∧ Bel B w w' := by
  have HS := Lib.hid (shortest_yes s n i w hW.g hi hs hj)
  have HF := Lib.hid (rows_fit i hi)
  have HN := Lib.hid (says_le hs)
  have HW := Lib.hid hW
  clear hs hj hi hW
  generalize rowAt i = r at *
  obtain ⟨rs, rl, rf, rz⟩ := r
  simp only [rowV] at HS
  have hrl : (rowP ⟨rs, rl, rf, rz⟩ n).length ≤ 9 := rowP_len _ _ HF.out.1
  obtain ⟨P, hP⟩ : ∃ P, rowP ⟨rs, rl, rf, rz⟩ n = P := ⟨_, rfl⟩
  rw [hP] at hrl ⊢
  have HPL := Lib.hid hrl
  clear hrl
  go_enter Tryz.func181, Tryz.ntmps181
  go_wp2_with (go_at_call 205; refine HS.out.mono ?_; rintro e w1 ⟨rfl, b1⟩)
  have hz1 := b1.size
  have HW2 := Lib.hid ((HW.out.next b1).next (by0 w1 (.cells #[.int .i64 rs, .int .u64 (rl : Int), .int .u8 (rf : Int), .int .i64 (rz : Int)] 283)))
  have HW2 := Lib.hid (HW2.out.next (Below.refl _ _).drew)
  have HB2 := Lib.hid ((b1.trans ((by0 w1 (.cells #[.int .i64 rs, .int .u64 (rl : Int), .int .u8 (rf : Int), .int .i64 (rz : Int)] 283)).mono hz1)).drew)
  have HR := Lib.hid (fun i => lit_cell (w := (w1.alloc (.cells #[.int .i64 rs, .int .u64 (rl : Int), .int .u8 (rf : Int), .int .i64 (rz : Int)] 283)).drew) (heap_alloc_new w1 (.cells #[.int .i64 rs, .int .u64 (rl : Int), .int .u8 (rf : Int), .int .i64 (rz : Int)] 283)) i)
  refine wp_region_any (by kernel_rfl) ?_
  change wpAny _ _ _ _ _ _ _ (World.drew _)
  generalize (w1.alloc (.cells #[.int .i64 rs, .int .u64 (rl : Int), .int .u8 (rf : Int), .int .i64 (rz : Int)] 283)).drew = w2 at *
  generalize w1.heap.size = N at *
  obtain ⟨v, hv, hown⟩ := HW2.out.h
  have HV := Lib.hid hv
  have HO := Lib.hid hown
  have hlt := HW2.out.lt
  have HH := Lib.hid (head_any ⟨rs, rl, rf, rz⟩ n (b + 1) v L w2 HF.out.1 HF.out.2.1 (fun e => by have h1 := HF.out.2.2 e; have h2 := HN.out; show rf + n < 256; omega) hn (by omega) hown (by omega))
  simp only [rowV, hP] at HH
  have hl9 := hL
  have HP := Lib.hid HW2.out.pos
  have HBb := Lib.hid HW2.out.hB
  have HG2 := Lib.hid HW2.out.g
  have HSZ := Lib.hid (show B ≤ w.heap.size by have := HW.out.lt; have := HW.out.hB; omega)
  clear hown HS b1 hz1
  refine wpAny_take (i := 0) (oi := ⟨some 21, .move (.tmp 0), _, _, _, none⟩) (v := .pointer (some ⟨b, 0, none⟩)) rfl (by kernel_rfl) (by kernel_rfl) (by kernel_rfl) (fun _ _ _ h => h) (Or.inl ⟨by rfl, fun _ => rfl⟩) ?_
  simp only [Act.put, List.setIfInBounds_toArray, List.set_cons_succ, List.set_cons_zero]
  refine wpAny_take (i := 2) (oi := ⟨some 23, .move (.tmp 0), _, _, _, none⟩) (v := .pointer (some ⟨b, 0, none⟩)) rfl (by kernel_rfl) (by kernel_rfl) (by kernel_rfl) (fun _ _ _ h => h) (Or.inl ⟨by rfl, fun _ => rfl⟩) ?_
  simp only [Act.put, List.setIfInBounds_toArray, List.set_cons_succ, List.set_cons_zero]
  refine wpAny_take (i := 3) (oi := ⟨some 24, .nilCheck (.tmp 23), _, _, _, none⟩) (v := .pointer (some ⟨b, 0, none⟩)) rfl (by kernel_rfl) (by kernel_rfl) (by kernel_rfl) (fun _ _ _ h => h) (Or.inl ⟨by rfl, fun _ => rfl⟩) ?_
  simp only [Act.put, List.setIfInBounds_toArray, List.set_cons_succ, List.set_cons_zero]
  refine wpAny_take (i := 4) (oi := ⟨some 25, .fieldAddr 216 (.tmp 24) 0, _, _, _, none⟩) (v := .pointer (some ⟨b, 0, none⟩)) rfl (by kernel_rfl) (by kernel_rfl) (by kernel_rfl) (fun _ _ _ h => h) (Or.inl ⟨by rfl, fun _ => by kernel_rfl⟩) ?_
  simp only [Act.put, List.setIfInBounds_toArray, List.set_cons_succ, List.set_cons_zero]
  refine wpAny_take (i := 6) (oi := ⟨some 27, .move (.tmp 2), _, _, _, none⟩) (v := .int .u64 (n : Int)) rfl (by kernel_rfl) (by kernel_rfl) (by kernel_rfl) (fun _ _ _ h => h) (Or.inl ⟨by rfl, fun _ => rfl⟩) ?_
  simp only [Act.put, List.setIfInBounds_toArray, List.set_cons_succ, List.set_cons_zero]
  refine wpAny_take (i := 8) (oi := ⟨some 29, .move (.tmp 3), _, _, _, none⟩) (v := .string ⟨T.toArray⟩) rfl (by kernel_rfl) (by kernel_rfl) (by kernel_rfl) (fun _ _ _ h => h) (Or.inl ⟨by rfl, fun _ => rfl⟩) ?_
  simp only [Act.put, List.setIfInBounds_toArray, List.set_cons_succ, List.set_cons_zero]
  have r0 := (HR.out 0).trans rfl
  have r1 := (HR.out 1).trans rfl
  have r2 := (HR.out 2).trans rfl
  have r3 := (HR.out 3).trans rfl
  have rv := (lit_cell HV.out 0).trans rfl
  refine wpAny_ready (rs := [1, 5]) (by kernel_rfl) (by simp) (AllReady.cons (o := ⟨some 22, .load 283 (.tmp 9), _, _, _, none⟩) rfl (fun K hK => ?_) (AllReady.cons (o := ⟨some 26, .load 100 (.tmp 25), _, _, _, none⟩) rfl (fun K hK => ?_) AllReady.nil))
  · go_simp
    refine hK _ _ ?_
    clear hK K
    try simp only [Act.put, List.setIfInBounds_toArray, List.set_cons_succ, List.set_cons_zero]
    refine wpAny_ready (rs := [5]) (by kernel_rfl) (by simp) (AllReady.cons (o := ⟨some 26, .load 100 (.tmp 25), _, _, _, none⟩) rfl (fun K hK => ?_) AllReady.nil)
    go_simp
    refine hK _ _ ?_
    clear hK K
    try simp only [Act.put, List.setIfInBounds_toArray, List.set_cons_succ, List.set_cons_zero]
    refine wpAny_ready (rs := [7]) (by kernel_rfl) (by simp) (AllReady.cons (o := ⟨some 28, .call ⟨.value (.func 206), #[.tmp 22, .tmp 26, .tmp 27], #[283, 100, 22]⟩, _, _, _, none⟩) rfl (fun K hK => ?_) AllReady.nil)
    have HK := Lib.hid hK
    clear hK
    go_simp
    refine HH.out.mono ?_
    rintro e w3 ⟨v3, rfl, hown3, hb3⟩
    refine HK.out _ _ ?_
    clear HK K
    try simp only [Act.put, List.setIfInBounds_toArray, List.set_cons_succ, List.set_cons_zero]
    have hrl := HPL.out
    have hsz3 := hb3.size
    refine wpAny_ready (rs := [9]) (by kernel_rfl) (by simp) (AllReady.cons (o := ⟨some 30, .call ⟨.builtin .append, #[.tmp 28, .tmp 29], #[100, 9]⟩, _, _, _, none⟩) rfl (fun K hK => ?_) AllReady.nil)
    refine step_append_str rfl (.tmp 28) (.tmp 29) rfl (b + 1) v3 (L ++ P) T rfl rfl hown3 (by rw [List.length_append]; omega) (by omega) ?_
    intro v4 w4 hown4 hb4
    refine hK _ _ ?_
    clear hK K
    try simp only [Act.put, List.setIfInBounds_toArray, List.set_cons_succ, List.set_cons_zero]
    refine wpAny_take (i := 10) (oi := ⟨some 31, .nilCheck (.tmp 21), _, _, _, none⟩) (v := .pointer (some ⟨b, 0, none⟩)) rfl (by kernel_rfl) (by kernel_rfl) (by kernel_rfl) (fun _ _ _ h => h) (Or.inl ⟨by rfl, fun _ => rfl⟩) ?_
    simp only [Act.put, List.setIfInBounds_toArray, List.set_cons_succ, List.set_cons_zero]
    refine wpAny_take (i := 11) (oi := ⟨some 32, .fieldAddr 216 (.tmp 31) 0, _, _, _, none⟩) (v := .pointer (some ⟨b, 0, none⟩)) rfl (by kernel_rfl) (by kernel_rfl) (by kernel_rfl) (fun _ _ _ h => h) (Or.inl ⟨by rfl, fun _ => by kernel_rfl⟩) ?_
    simp only [Act.put, List.setIfInBounds_toArray, List.set_cons_succ, List.set_cons_zero]
    obtain ⟨ao, ln, cp, rfl⟩ := slice_of_own hown4
    have hv4 := (hb4.block b (by omega)).trans ((hb3.block b (by omega)).trans HV.out)
    have rv4 := (lit_cell hv4 0).trans rfl
    have rf4 := lit_free hv4 0
    refine wpAny_ready (rs := [12]) (by kernel_rfl) (by simp) (AllReady.cons (o := ⟨none, .store 100 (.tmp 32) (.tmp 30), _, _, _, none⟩) rfl (fun K hK => ?_) AllReady.nil)
    go_simp
    refine hK _ _ ?_
    clear hK K
    try simp only [Act.put, List.setIfInBounds_toArray, List.set_cons_succ, List.set_cons_zero]
    refine wpAny_done (by kernel_rfl) ?_ _
    have hb34 := hb3.trans hb4
    have hW4 : Wr B b (L ++ (P ++ T)) (w4.setCell ⟨b, 0, none⟩ (.slice ao ln cp)) := by
      rw [← List.append_assoc]
      exact Wr.stored HP.out HBb.out (HG2.out.below (by have := HP.out; have := HBb.out; omega) hb34.b) hv4 hown4
    have hB4 : Bel B w (w4.setCell ⟨b, 0, none⟩ (.slice ao ln cp)) := ((Bel.fresh HB2.out HSZ.out).trans (hb34.mono (by have := HBb.out; omega))).setW HBb.out hv4 _
    clear hv4 rv4 rf4 hown4 hown3
    generalize (w4.setCell ⟨b, 0, none⟩ (.slice ao ln cp)) = w5 at *
    go_wp2
    go_ret
    exact ⟨rfl, hW4, hB4⟩
  · go_simp
    refine hK _ _ ?_
    clear hK K
    try simp only [Act.put, List.setIfInBounds_toArray, List.set_cons_succ, List.set_cons_zero]
    refine wpAny_ready (rs := [1]) (by kernel_rfl) (by simp) (AllReady.cons (o := ⟨some 22, .load 283 (.tmp 9), _, _, _, none⟩) rfl (fun K hK => ?_) AllReady.nil)
    go_simp
    refine hK _ _ ?_
    clear hK K
    try simp only [Act.put, List.setIfInBounds_toArray, List.set_cons_succ, List.set_cons_zero]
    refine wpAny_ready (rs := [7]) (by kernel_rfl) (by simp) (AllReady.cons (o := ⟨some 28, .call ⟨.value (.func 206), #[.tmp 22, .tmp 26, .tmp 27], #[283, 100, 22]⟩, _, _, _, none⟩) rfl (fun K hK => ?_) AllReady.nil)
    have HK := Lib.hid hK
    clear hK
    go_simp
    refine HH.out.mono ?_
    rintro e w3 ⟨v3, rfl, hown3, hb3⟩
    refine HK.out _ _ ?_
    clear HK K
    try simp only [Act.put, List.setIfInBounds_toArray, List.set_cons_succ, List.set_cons_zero]
    have hrl := HPL.out
    have hsz3 := hb3.size
    refine wpAny_ready (rs := [9]) (by kernel_rfl) (by simp) (AllReady.cons (o := ⟨some 30, .call ⟨.builtin .append, #[.tmp 28, .tmp 29], #[100, 9]⟩, _, _, _, none⟩) rfl (fun K hK => ?_) AllReady.nil)
    refine step_append_str rfl (.tmp 28) (.tmp 29) rfl (b + 1) v3 (L ++ P) T rfl rfl hown3 (by rw [List.length_append]; omega) (by omega) ?_
    intro v4 w4 hown4 hb4
    refine hK _ _ ?_
    clear hK K
    try simp only [Act.put, List.setIfInBounds_toArray, List.set_cons_succ, List.set_cons_zero]
    refine wpAny_take (i := 10) (oi := ⟨some 31, .nilCheck (.tmp 21), _, _, _, none⟩) (v := .pointer (some ⟨b, 0, none⟩)) rfl (by kernel_rfl) (by kernel_rfl) (by kernel_rfl) (fun _ _ _ h => h) (Or.inl ⟨by rfl, fun _ => rfl⟩) ?_
    simp only [Act.put, List.setIfInBounds_toArray, List.set_cons_succ, List.set_cons_zero]
    refine wpAny_take (i := 11) (oi := ⟨some 32, .fieldAddr 216 (.tmp 31) 0, _, _, _, none⟩) (v := .pointer (some ⟨b, 0, none⟩)) rfl (by kernel_rfl) (by kernel_rfl) (by kernel_rfl) (fun _ _ _ h => h) (Or.inl ⟨by rfl, fun _ => by kernel_rfl⟩) ?_
    simp only [Act.put, List.setIfInBounds_toArray, List.set_cons_succ, List.set_cons_zero]
    obtain ⟨ao, ln, cp, rfl⟩ := slice_of_own hown4
    have hv4 := (hb4.block b (by omega)).trans ((hb3.block b (by omega)).trans HV.out)
    have rv4 := (lit_cell hv4 0).trans rfl
    have rf4 := lit_free hv4 0
    refine wpAny_ready (rs := [12]) (by kernel_rfl) (by simp) (AllReady.cons (o := ⟨none, .store 100 (.tmp 32) (.tmp 30), _, _, _, none⟩) rfl (fun K hK => ?_) AllReady.nil)
    go_simp
    refine hK _ _ ?_
    clear hK K
    try simp only [Act.put, List.setIfInBounds_toArray, List.set_cons_succ, List.set_cons_zero]
    refine wpAny_done (by kernel_rfl) ?_ _
    have hb34 := hb3.trans hb4
    have hW4 : Wr B b (L ++ (P ++ T)) (w4.setCell ⟨b, 0, none⟩ (.slice ao ln cp)) := by
      rw [← List.append_assoc]
      exact Wr.stored HP.out HBb.out (HG2.out.below (by have := HP.out; have := HBb.out; omega) hb34.b) hv4 hown4
    have hB4 : Bel B w (w4.setCell ⟨b, 0, none⟩ (.slice ao ln cp)) := ((Bel.fresh HB2.out HSZ.out).trans (hb34.mono (by have := HBb.out; omega))).setW HBb.out hv4 _
    clear hv4 rv4 rf4 hown4 hown3
    generalize (w4.setCell ⟨b, 0, none⟩ (.slice ao ln cp)) = w5 at *
    go_wp2
    go_ret
    exact ⟨rfl, hW4, hB4⟩
end Go.Proofs.YtbkiijndhjmkdaaGreatDoor.Pk
