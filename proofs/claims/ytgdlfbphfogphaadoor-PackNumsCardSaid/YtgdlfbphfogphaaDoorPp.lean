/- What the rows' condition gives: the package's table holds the rows of the text; and a world that meets it. -/
import Derived.Test.YtgdlfbphfogphaaDoorRows
import Derived.Test.YtgdlfbphfogphaaDoorPr
import Derived.Test.YtgdlfbphfogphaaDoorPt
import Derived.Test.YtgdlfbphfogphaaDoorPo
import Derived.Test.YtgdlfbphfogphaaDoorPh
import Derived.ProofKit
import Derived.OpenShut
import Derived.Deep.DeepHandedRow
import Derived.Lib.LaidTab
import Derived.Stop.LaidErr
namespace Go.Proofs.YtgdlfbphfogphaaDoor
open Go.ChangeShapes Go.WideShapes Go.ChangeAt Go.RowKit

theorem own : ownKnob Tryd.prog.godebug = none := by kernel_rfl
theorem laidOut : laidOutB Tryd.prog = true := by kernel_rfl
theorem gRows : Tryd.prog.globalNamed "sextant/pack.rows" = some 0 := by kernel_rfl
theorem gRowsType : (Tryd.prog.globals[0]?).map (·.type) = some 79 := by kernel_rfl
theorem cellsRow : Tryd.prog.cellsOf 70 = 4 := by kernel_rfl
theorem cellsRow3 : Tryd.prog.cellsOf 3 = 1 := by kernel_rfl
theorem cellsRow5 : Tryd.prog.cellsOf 5 = 1 := by kernel_rfl
theorem cellsRowU : Tryd.prog.cellsOf 27 = 1 := by kernel_rfl

def rowD {H : Type} (r : RowP) : DataW H := .agg [.lit (.int .i64 r.s), .lit (.int .u64 (r.last : Int)), .lit (.int .u8 (r.f : Int)), .lit (.int .i64 (r.size : Int))]
theorem rows_data {H : Type} : (Rows.laid_sextant_pack_rows : DataW H) = .agg (rowsL.map rowD) := rfl

/-- an array, element by element -/
theorem elem_reads {H : Type} {enc : TypeId × Value → H} {P : Program} {w : World} {base : Nat} {sp : Nat → Bool} {held : Bool} {fuel : Nat} {t e : TypeId} {n : Nat} {cs : List Value} {ds : List (DataW H)} {p : List MemPlace} (ht : P.underlying t = some (.array n e))
    (h : DataW.trod enc P w base sp held fuel t cs = some (.agg ds, p)) (i : Nat) (hi : i < n) :
    ∃ f d q, ds[i]? = some d ∧ DataW.trod enc P w base sp held f e ((cs.drop (i * P.cellsOf e)).take (P.cellsOf e)) = some (d, q) := by
  cases fuel with
  | zero => simp [DataW.trod] at h
  | succ f =>
    simp only [DataW.trod, ht] at h
    split at h
    · obtain ⟨xs, hm, hx⟩ := Option.map_eq_some_iff.1 h
      obtain ⟨b, hb, hf⟩ := Lib.mapM_at hm i i (by simp [hi])
      have hds : xs.map (·.1) = ds := by simpa using congrArg Prod.fst hx
      exact ⟨f, b.1, b.2, by rw [← hds]; simp [hb], hf⟩
    · cases h

theorem row_cells {H : Type} {enc : TypeId × Value → H} {w : World} {base : Nat} {sp : Nat → Bool} {held : Bool} {fuel : Nat} {cs : List Value} {r : RowP} {p : List MemPlace}
    (h : DataW.trod enc Tryd.prog w base sp held fuel 70 cs = some (rowD r, p)) : cs = rowV r := by
  obtain ⟨xs, n, rfl, hx, hl, hxl, hall⟩ := DataW.trod_struct Tryd.underlying70 h
  rw [cellsRow] at hl
  obtain ⟨c0, c1, c2, c3, rfl⟩ := list4 cs hl
  obtain ⟨y0, y1, y2, y3, rfl⟩ := list4 xs hxl
  obtain ⟨m0, e0, f0, _⟩ := DataW.trod_int Tryd.underlying3 (hall 0 _ rfl)
  obtain ⟨m1, e1, f1, _⟩ := DataW.trod_int Tryd.underlying27 (hall 1 _ rfl)
  obtain ⟨m2, e2, f2, _⟩ := DataW.trod_int Tryd.underlying5 (hall 2 _ rfl)
  obtain ⟨m3, e3, f3, _⟩ := DataW.trod_int Tryd.underlying3 (hall 3 _ rfl)
  simp [cellsRow3, cellsRow5, cellsRowU] at e0 e1 e2 e3 f0 f1 f2 f3
  subst e0 e1 e2 e3 f0 f1 f2 f3
  have hx' := congrArg Prod.fst hx
  simp [rowD] at hx'
  obtain ⟨h0, h1, h2, h3⟩ := hx'
  rw [rowV, h0, h1, h2, h3]

theorem glob {W : World} (h : laidMet Tryd.prog [("sextant/pack.rows", Rows.laid_sextant_pack_rows)] W) : Glob W := by
  obtain ⟨ps, ⟨g', t', cs, fuel, p, q, hg', ht', hvar, hd, _, _⟩, _⟩ := h
  obtain rfl := Option.some.inj (gRows.symm.trans hg')
  obtain rfl := Option.some.inj (gRowsType.symm.trans ht')
  rw [rows_data] at hd
  have hc : ∀ i j, i < 14 → j < 4 → W.cell? ⟨0, i * 4 + j, none⟩ = (rowV (rowAt i))[j]? := by
    intro i j hi hj
    obtain ⟨f, d, q, hdi, he⟩ := elem_reads Tryd.underlying79 hd i hi
    have hl : rowsL.length = 14 := rfl
    rw [List.getElem?_map, List.getElem?_eq_getElem (by omega), Option.map_some, Option.some.injEq] at hdi
    have hr : rowAt i = rowsL[i]'(by omega) := by rw [rowAt, List.getD_eq_getElem?_getD, List.getElem?_eq_getElem (by omega)]; rfl
    rw [← hr] at hdi
    subst hdi
    rw [cellsRow] at he
    have := row_cells he
    rw [World.var?_cell gRows hvar, ← Array.getElem?_toList, ← this, List.getElem?_take, if_pos hj, List.getElem?_drop]
  exact ⟨World.block_lt_of_cell? W _ ((hc 0 0 (by decide) (by decide)).trans rfl), hc⟩

/-- the table's cells are laid -/
def rowsSet : Obj → Obj
  | .cells _ t frozen => .cells (rowsL.flatMap rowV).toArray t frozen
  | o => o
/-- a world for the witness: the settled one, the table holding what its initialiser lays -/
noncomputable def laidWorld (os : Os) : World :=
  { World.holding Tryd.prog os ⟨#[], #[], []⟩ with heap := (World.holding Tryd.prog os ⟨#[], #[], []⟩).heap.modify 0 rowsSet }
theorem laid_met (os : Os) (args : Array Value) : laidMet Tryd.prog [("sextant/pack.rows", Rows.laid_sextant_pack_rows)] ((laidWorld os).forCall (fun _ _ => 0) ⟨#[], args, []⟩).memory :=
  laidMet_of_run' 8 (by kernel_rfl) (by kernel_rfl)
end Go.Proofs.YtgdlfbphfogphaaDoor
