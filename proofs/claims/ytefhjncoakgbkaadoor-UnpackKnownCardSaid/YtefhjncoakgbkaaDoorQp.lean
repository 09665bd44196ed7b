/- What the rows' condition gives: reflectlite's handle, the package's table; and a world that meets it. -/
import Derived.Test.YtefhjncoakgbkaaDoorRows
import Derived.Test.YtefhjncoakgbkaaDoorQg
import Derived.ProofKit
import Derived.OpenShut
import Derived.Deep.DeepHandedRow
import Derived.Lib.LaidTab
import Derived.Stop.LaidErr
import Derived.LaidHandle
namespace Go.Proofs.YtefhjncoakgbkaaDoor
open Go.ChangeShapes Go.WideShapes Go.ChangeAt Go.RowKit

theorem own : ownKnob Tryd.prog.godebug = none := by kernel_rfl
theorem laidOut : laidOutB Tryd.prog = true := by kernel_rfl
theorem gRows : Tryd.prog.globalNamed "sextant/unpack.rows" = some 1 := by kernel_rfl
theorem gRowsType : (Tryd.prog.globals[1]?).map (·.type) = some 111 := by kernel_rfl
theorem gErr : Tryd.prog.globalNamed "errors.errorType" = some 0 := by kernel_rfl
theorem gRtype : (Tryd.prog.cutTypes.find? (·.1 == "internal/reflectlite.rtype")).map (·.2) = some 98 := by kernel_rfl
theorem gOne : ((List.range 142).filter fun t => Tryd.prog.rowNamed t [101, 114, 114, 111, 114]) = [31] := by kernel_rfl
theorem gSize : Tryd.prog.types.size = 142 := by kernel_rfl
theorem gHandle : typeHandle Tryd.prog 31 = .pointer (some ⟨2, 31, none⟩) := by kernel_rfl
theorem cellsRow : Tryd.prog.cellsOf 92 = 5 := by kernel_rfl
theorem cellsRow3 : Tryd.prog.cellsOf 3 = 1 := by kernel_rfl
theorem cellsRow5 : Tryd.prog.cellsOf 5 = 1 := by kernel_rfl
theorem cellsRowU : Tryd.prog.cellsOf 29 = 1 := by kernel_rfl

def rowD {H : Type} (r : RowQ) : DataW H := .agg [.lit (.int .i64 (r.s : Int)), .lit (.int .u8 (r.f : Int)), .lit (.int .u8 (r.l : Int)), .lit (.int .i64 (r.size : Int)), .lit (.int .u64 (r.least : Int))]
theorem rows_data {H : Type} : (Rows.laid_sextant_unpack_rows : DataW H) = .agg (rowsL.map rowD) := rfl

/-- an array, element by element -/
theorem elem_reads {H : Type} {enc : TypeId × Value → H} {P : Program} {w : World} {base : Nat} {sp : Nat → Bool} {held : Bool} {fuel : Nat} {t e : TypeId} {n : Nat} {cs : List Value} {ds : List (DataW H)} {p : List MemPlace} (ht : P.underlying t = some (.array n e))
    (h : DataW.trod enc P w base sp held fuel t cs = some (.agg ds, p)) (i : Nat) (hi : i < n) :
    ∃ f d q, ds[i]? = some d ∧ DataW.trod enc P w base sp held f e ((cs.drop (i * P.cellsOf e)).take (P.cellsOf e)) = some (d, q) := by
  cases fuel with
  | zero => simp [DataW.trod] at h
  | succ f =>
    simp only [DataW.trod, ht] at h
    split at h
    · obtain ⟨xs, hm, hx⟩ := Option.map_eq_some_iff.1 h
      obtain ⟨b, hb, hf⟩ := Lib.mapM_at hm i i (by simp [hi])
      have hds : xs.map (·.1) = ds := by simpa using congrArg Prod.fst hx
      exact ⟨f, b.1, b.2, by rw [← hds]; simp [hb], hf⟩
    · cases h
theorem list5 {α : Type} (l : List α) (h : l.length = 5) : ∃ a b c d e, l = [a, b, c, d, e] := by
  match l, h with
  | [a, b, c, d, e], _ => exact ⟨a, b, c, d, e, rfl⟩
theorem row_cells {H : Type} {enc : TypeId × Value → H} {w : World} {base : Nat} {sp : Nat → Bool} {held : Bool} {fuel : Nat} {cs : List Value} {r : RowQ} {p : List MemPlace}
    (h : DataW.trod enc Tryd.prog w base sp held fuel 92 cs = some (rowD r, p)) : cs = rowV r := by
  obtain ⟨xs, n, rfl, hx, hl, hxl, hall⟩ := DataW.trod_struct Tryd.underlying92 h
  rw [cellsRow] at hl
  obtain ⟨c0, c1, c2, c3, c4, rfl⟩ := list5 cs hl
  obtain ⟨y0, y1, y2, y3, y4, rfl⟩ := list5 xs hxl
  obtain ⟨m0, e0, f0, _⟩ := DataW.trod_int Tryd.underlying3 (hall 0 _ rfl)
  obtain ⟨m1, e1, f1, _⟩ := DataW.trod_int Tryd.underlying5 (hall 1 _ rfl)
  obtain ⟨m2, e2, f2, _⟩ := DataW.trod_int Tryd.underlying5 (hall 2 _ rfl)
  obtain ⟨m3, e3, f3, _⟩ := DataW.trod_int Tryd.underlying3 (hall 3 _ rfl)
  obtain ⟨m4, e4, f4, _⟩ := DataW.trod_int Tryd.underlying29 (hall 4 _ rfl)
  simp [cellsRow3, cellsRow5, cellsRowU] at e0 e1 e2 e3 e4 f0 f1 f2 f3 f4
  subst e0 e1 e2 e3 e4 f0 f1 f2 f3 f4
  have hx' := congrArg Prod.fst hx
  simp [rowD] at hx'
  obtain ⟨h0, h1, h2, h3, h4⟩ := hx'
  rw [rowV, h0, h1, h2, h3, h4]

theorem glob {W : World} (h : laidMetH Tryd.prog [("errors.errorType", Rows.laid_errors_errorType), ("sextant/unpack.rows", Rows.laid_sextant_unpack_rows)] W) : GlobU W := by
  have h' : laidMet Tryd.prog [("sextant/unpack.rows", Rows.laid_sextant_unpack_rows)] W ∧ handlesMet Tryd.prog [("errors.errorType", Rows.laid_errors_errorType)] W := h
  refine ⟨?_, ?_⟩
  · obtain ⟨name, u, ty, e1, e2, e3, e4, e5⟩ := h'.2 _ (List.mem_singleton.2 rfl)
    have en : name = [101, 114, 114, 111, 114] := (Option.some.inj e1).symm
    subst en
    obtain rfl := Option.some.inj (gRtype.symm.trans e2)
    have hm : ty ∈ (List.range 142).filter fun t => Tryd.prog.rowNamed t [101, 114, 114, 111, 114] := List.mem_filter.2 ⟨List.mem_range.2 (by rw [← gSize]; exact e3), e4⟩
    rw [gOne] at hm
    obtain rfl := List.mem_singleton.1 hm
    rw [gHandle] at e5
    simpa [GlobE] using World.var?_cell gErr e5 0
  · obtain ⟨ps, ⟨g', t', cs, fuel, p, q, hg', ht', hvar, hd, _, _⟩, _⟩ := h'.1
    obtain rfl := Option.some.inj (gRows.symm.trans hg')
    obtain rfl := Option.some.inj (gRowsType.symm.trans ht')
    rw [rows_data] at hd
    have hc : ∀ i j, i < 14 → j < 5 → W.cell? ⟨1, i * 5 + j, none⟩ = (rowV (rowAt i))[j]? := by
      intro i j hi hj
      obtain ⟨f, d, q, hdi, he⟩ := elem_reads Tryd.underlying111 hd i hi
      have hl : rowsL.length = 14 := rfl
      rw [List.getElem?_map, List.getElem?_eq_getElem (by omega), Option.map_some, Option.some.injEq] at hdi
      have hr : rowAt i = rowsL[i]'(by omega) := by rw [rowAt, List.getD_eq_getElem?_getD, List.getElem?_eq_getElem (by omega)]; rfl
      rw [← hr] at hdi
      subst hdi
      rw [cellsRow] at he
      have := row_cells he
      rw [World.var?_cell gRows hvar, ← Array.getElem?_toList, ← this, List.getElem?_take, if_pos hj, List.getElem?_drop]
    exact ⟨World.block_lt_of_cell? W _ ((hc 0 0 (by decide) (by decide)).trans rfl), hc⟩

/-- the table's cells are laid -/
def rowsSet : Obj → Obj
  | .cells _ t frozen => .cells (rowsL.flatMap rowV).toArray t frozen
  | o => o
/-- the handle's cell is laid -/
def errSet : Obj → Obj
  | .cells _ t frozen => .cells #[.iface 98 (.agg #[.pointer (some ⟨2, 31, none⟩)])] t frozen
  | o => o
/-- a world for the witness: the settled one, the two variables holding what their initialisers lay -/
noncomputable def laidWorld (os : Os) : World :=
  { World.holding Tryd.prog os ⟨#[], #[], []⟩ with heap := ((World.holding Tryd.prog os ⟨#[], #[], []⟩).heap.modify 1 rowsSet).modify 0 errSet }
theorem laid_met (os : Os) (args : Array Value) : laidMetH Tryd.prog [("errors.errorType", Rows.laid_errors_errorType), ("sextant/unpack.rows", Rows.laid_sextant_unpack_rows)] ((laidWorld os).forCall (fun _ _ => 0) ⟨#[], args, []⟩).memory :=
  laidMetH_of_parts (laidMet_of_run' 8 (by kernel_rfl) (by kernel_rfl)) (by kernel_rfl)
end Go.Proofs.YtefhjncoakgbkaaDoor
