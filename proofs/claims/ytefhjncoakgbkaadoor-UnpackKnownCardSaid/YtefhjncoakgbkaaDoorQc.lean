/- The program's table of rows; the row of a first byte, or it gives up. -/
import Derived.Test.YtefhjncoakgbkaaDoorQa
import Derived.Laws.NewBlocks
import Derived.WalkMore
namespace Go.Proofs.YtefhjncoakgbkaaDoor
open Go.RowKit

/-- a row: its sort, first and last byte, the bytes of the number behind it, the least number -/
structure RowQ where
  s : Nat
  f : Nat
  l : Nat
  size : Nat
  least : Nat
def rowsL : List RowQ := [⟨0, 0, 127, 0, 0⟩, ⟨0, 204, 204, 1, 128⟩, ⟨0, 205, 205, 2, 256⟩, ⟨0, 206, 206, 4, 65536⟩, ⟨0, 207, 207, 8, 4294967296⟩, ⟨1, 196, 196, 1, 0⟩, ⟨1, 197, 197, 2, 256⟩,
  ⟨2, 160, 191, 0, 0⟩, ⟨2, 217, 217, 1, 32⟩, ⟨2, 218, 218, 2, 256⟩, ⟨3, 144, 159, 0, 0⟩, ⟨3, 220, 220, 2, 16⟩, ⟨4, 128, 143, 0, 0⟩, ⟨4, 222, 222, 2, 16⟩]
def rowAt (i : Nat) : RowQ := rowsL.getD i ⟨0, 0, 0, 0, 0⟩
def rowV (r : RowQ) : List Value := [.int .i64 (r.s : Int), .int .u8 (r.f : Int), .int .u8 (r.l : Int), .int .i64 (r.size : Int), .int .u64 (r.least : Int)]
def hitB (r : RowQ) (s c : Nat) : Bool := r.s == s && decide (r.f ≤ c) && decide (c ≤ r.l)
/-- the first row that a byte is of -/
def findR (s c : Nat) : Option RowQ := rowsL.find? fun r => hitB r s c
theorem find_row (s c : Nat) (hs : s < 5) (hc : c < 256) : (findR s c = none ∧ rowU s c = (-1, 0, 0)) ∨ (∃ r, findR s c = some r ∧ rowU s c = ((r.size : Int), c - r.f, r.least) ∧ r.f ≤ c) := by
  have h : ∀ s : Fin 5, ∀ c : Fin 256, (match findR s.1 c.1 with | none => decide (rowU s.1 c.1 = (-1, 0, 0)) | some r => decide (rowU s.1 c.1 = ((r.size : Int), c.1 - r.f, r.least)) && decide (r.f ≤ c.1)) = true := by decide +kernel
  have h1 := h ⟨s, hs⟩ ⟨c, hc⟩
  simp only at h1
  cases hf : findR s c with
  | none => rw [hf] at h1; exact .inl ⟨rfl, of_decide_eq_true h1⟩
  | some r =>
    rw [hf] at h1
    rw [Bool.and_eq_true, decide_eq_true_iff, decide_eq_true_iff] at h1
    exact .inr ⟨r, rfl, h1.1, h1.2⟩
theorem find_at (s c i : Nat) (hi : i < 14) (hb : hitB (rowAt i) s c = true) (hn : ∀ j, j < i → hitB (rowAt j) s c = false) : findR s c = some (rowAt i) := by
  have hl : rowsL.length = 14 := rfl
  have hr : ∀ j (h : j < 14), rowAt j = rowsL[j]'(by omega) := fun j h => by rw [rowAt, List.getD_eq_getElem?_getD, List.getElem?_eq_getElem (by omega)]; rfl
  unfold findR
  rw [List.find?_eq_some_iff_getElem]
  refine ⟨hb, i, by omega, (hr i hi).symm, fun j hj => ?_⟩
  have := hn j hj
  rw [hr j (by omega)] at this
  simp [this]
theorem find_none (s c : Nat) (hn : ∀ j, j < 14 → hitB (rowAt j) s c = false) : findR s c = none := by
  have hl : rowsL.length = 14 := rfl
  unfold findR
  rw [List.find?_eq_none]
  intro r hr
  obtain ⟨j, hj, rfl⟩ := List.getElem_of_mem hr
  have := hn j (by omega)
  rw [show rowAt j = rowsL[j]'hj by rw [rowAt, List.getD_eq_getElem?_getD, List.getElem?_eq_getElem hj]; rfl] at this
  simp [this]

/-- the package's table -/
structure GlobR (w : World) : Prop where
  size : 1 < w.heap.size
  c : ∀ i j, i < 14 → j < 5 → w.cell? ⟨1, i * 5 + j, none⟩ = (rowV (rowAt i))[j]?
theorem GlobR.only {A : Nat} {w w' : World} (h : GlobR w) (ho : Only A w w') (hA : 1 ≠ A) : GlobR w' :=
  ⟨Nat.lt_of_lt_of_le h.size ho.size, fun i j hi hj => (World.cell?_of_block (a := ⟨1, i * 5 + j, none⟩) (ho.block _ h.size hA)).trans (h.c i j hi hj)⟩
theorem GlobR.next {w w' : World} (h : GlobR w) (hb : Below w.heap.size w w') : GlobR w' :=
  ⟨Nat.lt_of_lt_of_le h.size hb.size, fun i j hi hj => (hb.cell (p := ⟨1, i * 5 + j, none⟩) h.size).trans (h.c i j hi hj)⟩
theorem GlobR.cells {w : World} (h : GlobR w) (i : Nat) (hi : i < 14) : w.cell? ⟨1, i * 5, none⟩ = some (.int .i64 ((rowAt i).s : Int)) ∧ w.cell? ⟨1, i * 5 + 1, none⟩ = some (.int .u8 ((rowAt i).f : Int)) ∧
    w.cell? ⟨1, i * 5 + 2, none⟩ = some (.int .u8 ((rowAt i).l : Int)) ∧ w.cell? ⟨1, i * 5 + 3, none⟩ = some (.int .i64 ((rowAt i).size : Int)) ∧ w.cell? ⟨1, i * 5 + 4, none⟩ = some (.int .u64 ((rowAt i).least : Int)) :=
  ⟨h.c i 0 hi (by decide), h.c i 1 hi (by decide), h.c i 2 hi (by decide), h.c i 3 hi (by decide), h.c i 4 hi (by decide)⟩

set_option maxRecDepth 100000 in
set_option maxHeartbeats 1000000 in
theorem rowOf_any (s c A : Nat) (w : World) (hg : GlobR w) :
    Calls Tryd.prog 40 #[.int .i64 (s : Int), .int .u8 (c : Int)] w fun e w' => (findR s c = none ∧ Gave 5 A w e w') ∨ (∃ r, findR s c = some r ∧ e = .returned (.agg (rowV r).toArray) ∧ Below w.heap.size w w') := by
  have HG := Lib.hid (hg.next (by0 w (.cells #[.int .i64 0, .int .u8 0, .int .u8 0, .int .i64 0, .int .u64 0] 92)))
  have HB := Lib.hid (by0 w (.cells #[.int .i64 0, .int .u8 0, .int .u8 0, .int .i64 0, .int .u64 0] 92))
  have HN := Lib.hid (heap_alloc_new w (.cells #[.int .i64 0, .int .u8 0, .int .u8 0, .int .i64 0, .int .u64 0] 92))
  clear hg
  go_enter Tryd.func40, Tryd.ntmps40
  go_wp2
  generalize w.alloc (.cells #[.int .i64 0, .int .u8 0, .int .u8 0, .int .i64 0, .int .u64 0] 92) = w1 at *
  go_step3
  go_wp2
  go_step3
  go_wp2
  go_loopw [5] (fun s5 wr => wr = w1 ∧ ∃ i : Nat, s5 = .int .i64 (i : Int) ∧ i ≤ 14 ∧ Hid (∀ j, j < i → hitB (rowAt j) s c = false))
    (fun s5 _ => 14 - (intOf s5).toNat)
  case atStart => exact ⟨rfl, 0, rfl, by decide, Lib.hid (fun j hj => by omega)⟩
  case round =>
    obtain ⟨hwr, i, rfl, hi, HJ⟩ := hrel
    subst hwr
    by_cases h14 : i = 14
    · subst h14
      have HG2 := Lib.hid (giveUp_any 5 A wr)
      have HOB := Lib.hid (Only.of_below (b := A) HB.out)
      have HF := Lib.hid (find_none s c HJ.out)
      clear hi
      go_wp2_with (go_at_call 26; refine HG2.out.mono ?_; rintro e w2 ⟨⟨f, hf, rfl, hc⟩, ho⟩)
      rw [Exit.noGoto_panic]
      exact ⟨rfl, .inl ⟨HF.out, (⟨⟨f, hf, rfl, hc⟩, ho⟩ : Gave 5 A wr _ w2).from HOB.out⟩⟩
    · have hi2 : i < 14 := by omega
      obtain ⟨g0, g1, g2, g3, g4⟩ := HG.out.cells i hi2
      have e14 : ((i : Int) == 14) = false := by rw [beq_eq_false_iff_ne]; omega
      have i0 : (0 : Int) ≤ (i : Int) := by omega
      have i1 : (i : Int) < 14 := by omega
      have r0 := (lit_cell HN.out 0).trans rfl
      have r1 := (lit_cell HN.out 1).trans rfl
      have r2 := (lit_cell HN.out 2).trans rfl
      have r3 := (lit_cell HN.out 3).trans rfl
      have r4 := (lit_cell HN.out 4).trans rfl
      have f0 := lit_free HN.out 0
      have f1 := lit_free HN.out 1
      have f2 := lit_free HN.out 2
      have f3 := lit_free HN.out 3
      have f4 := lit_free HN.out 4
      have HI := Lib.hid hi2
      clear hi h14 hi2
      cases hb : hitB (rowAt i) s c with
      | true =>
        have HF := Lib.hid (find_at s c i HI.out hb HJ.out)
        unfold hitB at hb
        generalize rowAt i = r at *
        obtain ⟨rs, rf, rl, rz, rm⟩ := r
        simp only [Bool.and_eq_true, decide_eq_true_eq, beq_iff_eq] at hb
        obtain ⟨⟨rfl, h1⟩, h2⟩ := hb
        have d1 : (rf : Int) ≤ (c : Int) := by omega
        have d2 : (c : Int) ≤ (rl : Int) := by omega
        clear h1 h2 HI
        go_wp2
        refine bodyPost_ret (v := .agg (rowV ⟨rs, rf, rl, rz, rm⟩).toArray) (by simp [results, Tryd.results40, go_sem, rowV, *]) rfl (.inr ⟨_, HF.out, rfl, ?_⟩)
        have hN : w.heap.size ≤ w.heap.size := Nat.le_refl _
        exact ((((HB.out.setCell hN _).setCell hN _).setCell hN _).setCell hN _).setCell hN _
      | false =>
        have HJ2 := Lib.hid (show ∀ j, j < i + 1 → hitB (rowAt j) s c = false from fun j hj => by
          by_cases hji : j < i
          · exact HJ.out j hji
          · obtain rfl : j = i := by omega
            exact hb)
        unfold hitB at hb
        have H14 := Lib.hid (show i + 1 ≤ 14 by have := HI.out; omega)
        have HM := Lib.hid (show 14 - (i + 1) < 14 - i by have := HI.out; omega)
        clear HJ HI HG r0 r1 r2 r3 r4 f0 f1 f2 f3 f4 HN
        generalize hrr : rowAt i = r at hb g0 g1 g2 g3 g4
        have HR := Lib.hid hrr
        clear hrr
        obtain ⟨rs, rf, rl, rz, rm⟩ := r
        simp only at hb g0 g1 g2 g3 g4
        by_cases h0 : rs = s
        · subst h0
          by_cases h1 : rf ≤ c
          · have h2 : ¬ c ≤ rl := by
              intro h2
              simp [h1, h2] at hb
            have d1 : (rf : Int) ≤ (c : Int) := by omega
            have d2 : ¬ (c : Int) ≤ (rl : Int) := by omega
            clear h1 h2 hb
            go_wp2
            go_roundw
            case rel => exact ⟨trivial, i + 1, by simp, H14.out, HJ2⟩
            case measure => simp [intOf] <;> omega
          · have d1 : ¬ (rf : Int) ≤ (c : Int) := by omega
            clear h1 hb
            go_wp2
            go_roundw
            case rel => exact ⟨trivial, i + 1, by simp, H14.out, HJ2⟩
            case measure => simp [intOf] <;> omega
        · have d0 : ((rs : Int) == (s : Int)) = false := by rw [beq_eq_false_iff_ne]; omega
          clear h0 hb
          go_wp2
          go_roundw
          case rel => exact ⟨trivial, i + 1, by simp, H14.out, HJ2⟩
          case measure => simp [intOf] <;> omega
end Go.Proofs.YtefhjncoakgbkaaDoor
