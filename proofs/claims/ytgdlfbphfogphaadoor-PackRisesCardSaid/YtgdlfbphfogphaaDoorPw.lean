/- The first row that says a number of a sort. -/
import Derived.Test.YtgdlfbphfogphaaDoorPv
import Derived.Laws.NewBlocks
namespace Go.Proofs.YtgdlfbphfogphaaDoor
open Go.RowKit

/-- what lies while the rows are gone through: the sort, the number, the answer's place, the row that is looked at -/
structure Look (B : Nat) (w0 : World) (s : Int) (n i : Nat) (wr : World) : Prop where
  g : Glob wr
  cs : wr.heap[B]? = some (.cells #[.int .i64 s] 3 (0, 0))
  cn : wr.heap[B + 1]? = some (.cells #[.int .u64 (n : Int)] 27 (0, 0))
  cr : wr.heap[B + 1 + 1]? = some (.cells #[.int .i64 0, .int .u64 0, .int .u8 0, .int .i64 0] 70 (0, 0))
  ca : wr.heap[B + 1 + 1 + 1]? = some (.cells #[.int .i64 (i : Int)] 3 (0, 0))
  hb : Below B w0 wr
theorem Look.next {B : Nat} {w0 wr wx : World} {s : Int} {n i : Nat} (h : Look B w0 s n i wr) (hb : Below wr.heap.size wr wx) : Look B w0 s n i wx := by
  have z : B + 1 + 1 + 1 < wr.heap.size := (Array.getElem?_eq_some_iff.1 h.ca).1
  exact ⟨h.g.next hb, (hb.block _ (by omega)).trans h.cs, (hb.block _ (by omega)).trans h.cn, (hb.block _ (by omega)).trans h.cr, (hb.block _ z).trans h.ca, h.hb.trans (hb.mono (by omega))⟩
theorem Look.start (w : World) (s : Int) (n : Nat) (hg : Glob w) : Look w.heap.size w s n 0 ((((w.alloc (.cells #[.int .i64 s] 3)).alloc (.cells #[.int .u64 (n : Int)] 27)).alloc (.cells #[.int .i64 0, .int .u64 0, .int .u8 0, .int .i64 0] 70)).alloc (.cells #[.int .i64 0] 3)) := by
  have hb : Below w.heap.size w ((((w.alloc (.cells #[.int .i64 s] 3)).alloc (.cells #[.int .u64 (n : Int)] 27)).alloc (.cells #[.int .i64 0, .int .u64 0, .int .u8 0, .int .i64 0] 70)).alloc (.cells #[.int .i64 0] 3)) :=
    ((((Below.refl _ _).alloc (Nat.le_refl _) _).alloc (by simp) _).alloc (by simp <;> omega) _).alloc (by simp <;> omega) _
  refine ⟨hg.next hb, ?_, ?_, ?_, ?_, hb⟩
  · rw [heap_alloc_old (h := by simp <;> omega), heap_alloc_old (h := by simp <;> omega), heap_alloc_old (h := by simp), heap_alloc_new]
  · rw [heap_alloc_old (h := by simp <;> omega), heap_alloc_old (h := by simp), show w.heap.size + 1 = (w.alloc (.cells #[.int .i64 s] 3)).heap.size by simp, heap_alloc_new]
  · rw [heap_alloc_old (h := by simp), show w.heap.size + 1 + 1 = ((w.alloc (.cells #[.int .i64 s] 3)).alloc (.cells #[.int .u64 (n : Int)] 27)).heap.size by simp, heap_alloc_new]
  · rw [show w.heap.size + 1 + 1 + 1 = (((w.alloc (.cells #[.int .i64 s] 3)).alloc (.cells #[.int .u64 (n : Int)] 27)).alloc (.cells #[.int .i64 0, .int .u64 0, .int .u8 0, .int .i64 0] 70)).heap.size by simp, heap_alloc_new]; rfl
theorem lit_cell {w : World} {b : Nat} {cs : Array Value} {t : TypeId} (h : w.heap[b]? = some (.cells cs t (0, 0))) (i : Nat) : w.cell? ⟨b, i, none⟩ = cs[i]? := by
  simp [World.cell?, h]
theorem lit_free {w : World} {b : Nat} {cs : Array Value} {t : TypeId} (h : w.heap[b]? = some (.cells cs t (0, 0))) (i : Nat) : w.frozen? ⟨b, i, none⟩ = false := by
  simp [World.frozen?, h]
theorem lit_set {w : World} {b k : Nat} {cs : Array Value} {t : TypeId} (v : Value) (h : w.heap[b]? = some (.cells cs t (0, 0))) : (w.setCell ⟨b, k, none⟩ v).heap[b]? = some (.cells (cs.setIfInBounds k v) t (0, 0)) := by
  show (w.heap.modify b _)[b]? = _
  rw [Array.getElem?_modify, if_pos rfl, h]
  rfl
theorem lit_far {w : World} {b k : Nat} {c : Nat} (v : Value) (h : c ≠ b) : (w.setCell ⟨b, k, none⟩ v).heap[c]? = w.heap[c]? := by
  show (w.heap.modify b _)[c]? = _
  rw [Array.getElem?_modify, if_neg (by omega)]
theorem Look.step {B : Nat} {w0 wr : World} {s : Int} {n i : Nat} (h : Look B w0 s n i wr) (z : Int) (hz : z = ((i + 1 : Nat) : Int)) (h0 : 0 < w0.heap.size) (hB : B = w0.heap.size) : Look B w0 s n (i + 1) (wr.setCell ⟨B + 1 + 1 + 1, 0, none⟩ (.int .i64 z)) := by
  subst hz
  have z : B + 1 + 1 + 1 < wr.heap.size := (Array.getElem?_eq_some_iff.1 h.ca).1
  have hb : Below B wr (wr.setCell ⟨B + 1 + 1 + 1, 0, none⟩ (.int .i64 ((i + 1 : Nat) : Int))) := (Below.refl _ _).setCell (by show B ≤ B + 1 + 1 + 1; omega) _
  exact ⟨h.g.below (by omega) hb, (lit_far _ (by omega)).trans h.cs, (lit_far _ (by omega)).trans h.cn, (lit_far _ (by omega)).trans h.cr, (lit_set _ h.ca).trans rfl, h.hb.trans hb⟩

set_option maxRecDepth 100000 in
set_option maxHeartbeats 1000000 in
theorem shortest_any (s : Int) (n : Nat) (w : World) (hg : Glob w) :
    Calls Tryd.prog 38 #[.int .i64 s, .int .u64 (n : Int)] w fun e w' =>
      ((∃ i, i < 14 ∧ saysB (rowAt i) s n = true ∧ (∀ j, j < i → saysB (rowAt j) s n = false) ∧ e = .returned (.tuple #[.agg (rowV (rowAt i)).toArray, .bool true])) ∨
        ((∀ j, j < 14 → saysB (rowAt j) s n = false) ∧ e = .returned (.tuple #[.agg #[.int .i64 0, .int .u64 0, .int .u8 0, .int .i64 0], .bool false]))) ∧ Below w.heap.size w w' := by
  have HG := Lib.hid hg
  clear hg
  go_enter Tryd.func38, Tryd.ntmps38
  go_wp2
  have HL0 := Lib.hid (Look.start w s n HG.out)
  go_loopw [] (fun wr => ∃ i : Nat, i < 14 ∧ Hid (∀ j, j < i → saysB (rowAt j) s n = false) ∧ Hid (Look w.heap.size w s n i wr))
    (fun wr => 14 - (match wr.cell? ⟨w.heap.size + 1 + 1 + 1, 0, none⟩ with | some (.int _ i) => i.toNat | _ => 0))
  case atStart => exact ⟨0, by decide, Lib.hid (fun j hj => by omega), HL0⟩
  case round =>
    obtain ⟨i, hi, HJ, HL⟩ := hrel
    have HS := Lib.hid (says_any (w.heap.size + 1 + 1 + 1) w.heap.size (w.heap.size + 1) i s n wr hi HL.out.g (lit_cell HL.out.ca 0) (lit_cell HL.out.cs 0) (lit_cell HL.out.cn 0))
    have z0 := (lit_cell HL.out.ca 0).trans rfl
    generalize hm : (14 - (match wr.cell? ⟨w.heap.size + 1 + 1 + 1, 0, none⟩ with | some (.int _ i) => i.toNat | _ => 0)) = M at *
    rw [z0] at hm
    have hM : M = 14 - i := by rw [← hm]; simp
    clear z0 hm HL0
    generalize hb : saysB (rowAt i) s n = b at HS
    have Hb := Lib.hid hb
    clear hb
    have i0 : (0 : Int) ≤ (i : Int) := by omega
    have i1 : (i : Int) < 14 := by omega
    cases b with
    | true =>
      go_wp2_with (go_at_call 44; refine HS.out.mono ?_; rintro e w1 ⟨rfl, b1⟩; have HL2 := Lib.hid (HL.out.next b1); have c0 := (lit_cell HL2.out.ca 0).trans rfl; obtain ⟨g0, g1, g2, g3⟩ := HL2.out.g.cells i hi; have r0 := (lit_cell HL2.out.cr 0).trans rfl; have r1 := (lit_cell HL2.out.cr 1).trans rfl; have r2 := (lit_cell HL2.out.cr 2).trans rfl; have r3 := (lit_cell HL2.out.cr 3).trans rfl; have f0 := lit_free HL2.out.cr 0; have f1 := lit_free HL2.out.cr 1; have f2 := lit_free HL2.out.cr 2; have f3 := lit_free HL2.out.cr 3)
      have HL2 := Lib.hid (HL.out.next b1)
      refine bodyPost_ret (v := .tuple #[.agg (rowV (rowAt i)).toArray, .bool true]) ?_ rfl ⟨.inl ⟨i, hi, Hb.out, HJ.out, rfl⟩, ?_⟩
      · simp [results, Tryd.results38, go_sem, rowV, *]
      · have hN : w.heap.size ≤ w.heap.size + 1 + 1 := by omega
        exact (((HL2.out.hb.setCell hN _).setCell hN _).setCell hN _).setCell hN _
    | false =>
      by_cases hl : i = 13
      · have e1 : ((i : Int) + 1 == 14) = true := by rw [hl]; rfl
        go_wp2_with (go_at_call 44; refine HS.out.mono ?_; rintro e w1 ⟨rfl, b1⟩; have HL2 := Lib.hid (HL.out.next b1); have c0 := (lit_cell HL2.out.ca 0).trans rfl; have fa := lit_free HL2.out.ca 0; have r0 := (lit_cell HL2.out.cr 0).trans rfl; have r1 := (lit_cell HL2.out.cr 1).trans rfl; have r2 := (lit_cell HL2.out.cr 2).trans rfl; have r3 := (lit_cell HL2.out.cr 3).trans rfl; have f0 := lit_free HL2.out.cr 0; have f1 := lit_free HL2.out.cr 1; have f2 := lit_free HL2.out.cr 2; have f3 := lit_free HL2.out.cr 3)
        refine bodyPost_ret (v := .tuple #[.agg #[.int .i64 0, .int .u64 0, .int .u8 0, .int .i64 0], .bool false]) ?_ rfl ⟨.inr ⟨fun j hj => ?_, rfl⟩, ?_⟩
        · simp [results, Tryd.results38, go_sem, *]
        · by_cases hji : j < i
          · exact HJ.out j hji
          · obtain rfl : j = i := by omega
            exact Hb.out
        · have hN : w.heap.size ≤ w.heap.size + 1 + 1 := by omega
          have hM : w.heap.size ≤ w.heap.size + 1 + 1 + 1 := by omega
          exact ((((HL2.out.hb.setCell hM _).setCell hN _).setCell hN _).setCell hN _).setCell hN _
      · have e1 : ((i : Int) + 1 == 14) = false := by rw [beq_eq_false_iff_ne]; omega
        go_wp2_with (go_at_call 44; refine HS.out.mono ?_; rintro e w1 ⟨rfl, b1⟩; have HL2 := Lib.hid (HL.out.next b1); have c0 := (lit_cell HL2.out.ca 0).trans rfl; have fa := lit_free HL2.out.ca 0)
        refine ⟨⟨i + 1, by omega, Lib.hid (fun j hj => ?_), Lib.hid (HL2.out.step _ (by omega) (by have := HG.out.size; omega) rfl)⟩, ?_⟩
        · by_cases hji : j < i
          · exact HJ.out j hji
          · obtain rfl : j = i := by omega
            exact Hb.out
        · have hz := (lit_cell (HL2.out.step ((i : Int) + 1) (by omega) (by have := HG.out.size; omega) rfl).ca 0).trans rfl
          rw [hz, hM]
          simp
          omega
end Go.Proofs.YtgdlfbphfogphaaDoor
