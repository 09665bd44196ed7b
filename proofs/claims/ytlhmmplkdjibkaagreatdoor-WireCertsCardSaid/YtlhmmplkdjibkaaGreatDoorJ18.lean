/- Layer 7's things that came in by value: opened. -/
import Derived.Test.YtlhmmplkdjibkaaGreatDoorJ14
import Derived.Test.YtlhmmplkdjibkaaGreatDoorJ17
import Derived.Test.YtlhmmplkdjibkaaGreatDoorRows
import Derived.ProofKit
import Derived.OpenShut
import Derived.Deep.DeepHandedRow
import Derived.Lib.LaidTab
import Derived.Stop.LaidErr
import Derived.LaidHandle
namespace Go.Proofs.YtlhmmplkdjibkaaGreatDoor
open Go.ChangeShapes Go.WideShapes Go.ChangeAt Go.RowKit

theorem ocells_n : Tryz.prog.cellsOf 22 = 1 := by kernel_rfl
theorem ocells_b : Tryz.prog.cellsOf 4 = 1 := by kernel_rfl
theorem ocells_l : Tryz.prog.cellsOf 25 = 1 := by kernel_rfl
theorem ocells_part : Tryz.prog.cellsOf 55 = 5 := by kernel_rfl
theorem ocells_sig : Tryz.prog.cellsOf 51 = 3 := by kernel_rfl
theorem ocells_slot : Tryz.prog.cellsOf 53 = 5 := by kernel_rfl
theorem olist3 {α : Type} (l : List α) (h : l.length = 3) : ∃ a b c, l = [a, b, c] := by
  match l, h with
  | [a, b, c], _ => exact ⟨a, b, c, rfl⟩
theorem olist4 {α : Type} (l : List α) (h : l.length = 4) : ∃ a b c d, l = [a, b, c, d] := by
  match l, h with
  | [a, b, c, d], _ => exact ⟨a, b, c, d, rfl⟩
theorem olist5 {α : Type} (l : List α) (h : l.length = 5) : ∃ a b c d e, l = [a, b, c, d, e] := by
  match l, h with
  | [a, b, c, d, e], _ => exact ⟨a, b, c, d, e, rfl⟩
theorem olist6 {α : Type} (l : List α) (h : l.length = 6) : ∃ a b c d e f, l = [a, b, c, d, e, f] := by
  match l, h with
  | [a, b, c, d, e, f], _ => exact ⟨a, b, c, d, e, f, rfl⟩

section
variable {H : Type} {enc : TypeId × Value → H} {W : World} {base : Nat} {spare : Nat → Bool} {held : Bool} {fuel : Nat} {cs : List Value} {y : DataW H × List MemPlace}
theorem inner_num (h : DataW.trod enc Tryz.prog W base spare held fuel 22 cs = some y) : ∃ n : Nat, cs = [.int .u64 (n : Int)] ∧ n < 18446744073709551616 := by
  obtain ⟨n, e, _, wf⟩ := DataW.trod_int Tryz.underlying22 h
  have b := bounds_u64 wf
  obtain ⟨n, rfl⟩ := Int.eq_ofNat_of_zero_le b.1
  exact ⟨n, e, by omega⟩
theorem inner_bool (h : DataW.trod enc Tryz.prog W base spare held fuel 4 cs = some y) : ∃ b : Bool, cs = [.bool b] := by
  obtain ⟨b, e, _⟩ := DataW.trod_bool Tryz.underlying4 h
  exact ⟨b, e⟩
theorem inner_txt (h : DataW.trod enc Tryz.prog W base spare held fuel 9 cs = some y) : ∃ S : (List UInt8), cs = [.string ⟨S.toArray⟩] ∧ S.length ≤ maxLen := by
  obtain ⟨S, e, _, wf⟩ := DataW.trod_string Tryz.underlying9 h
  exact ⟨S.data.toList, by rw [e, str_eta], wf⟩
theorem inner_strs (h : DataW.trod enc Tryz.prog W base spare held fuel 25 cs = some y) : ∃ (ao : Option Addr) (cp : Nat) (L : List (List UInt8)), cs = [.slice ao L.length cp] ∧ L.length ≤ maxLen ∧ (∀ i (h : i < L.length), L[i].length ≤ maxLen) ∧ Strs ao L W := by
  rcases open_strings Tryz.underlying25 Tryz.underlying9 cells9 h with ⟨hcs, hx⟩ | ⟨a, len', cap', ss, hcs, _, hl, hm, hz, hx, hcell, hws⟩
  · exact ⟨none, 0, [], hcs, Nat.zero_le _, fun i h => by simp at h, .inl rfl⟩
  · have hz' : len' ≤ ss.length := by rw [hz]; split <;> omega
    refine ⟨some a, cap', (ss.take len').map fun s => s.data.toList, by rw [hcs, List.length_map, List.length_take, Nat.min_eq_left hz'], by simp; omega, fun i h => ?_, strs_of hcell hz'⟩
    rw [List.getElem_map]
    exact hws _ (List.mem_of_mem_take (List.getElem_mem _))
theorem inner_part (h : DataW.trod enc Tryz.prog W base spare held fuel 55 cs = some y) : ∃ p : PartR, cs = partQ p ∧ PartIn p ∧ p.root.length ≤ maxLen := by
  obtain ⟨xs, m, _, rfl, hcl, hl, hy⟩ := DataW.trod_struct Tryz.underlying55 h
  rw [ocells_part] at hcl
  obtain ⟨c0, c1, c2, c3, c4, rfl⟩ := olist5 cs hcl
  obtain ⟨y0, y1, y2, y3, y4, rfl⟩ := olist5 xs hl
  obtain ⟨r, e0, w0⟩ := inner_txt (hy 0 _ rfl)
  obtain ⟨n1, e1, w1⟩ := inner_num (hy 1 _ rfl)
  obtain ⟨n2, e2, w2⟩ := inner_num (hy 2 _ rfl)
  obtain ⟨n3, e3, w3⟩ := inner_num (hy 3 _ rfl)
  obtain ⟨n4, e4, w4⟩ := inner_num (hy 4 _ rfl)
  simp [ocells_n, cells9] at e0 e1 e2 e3 e4
  subst e0 e1 e2 e3 e4
  exact ⟨⟨r, n1, n2, n3, n4⟩, rfl, ⟨w1, w2, w3, w4⟩, w0⟩
/-- a Slot's lists that came in -/
structure SlotT (x : SlotE) (w : World) : Prop where
  m : SlotM x w
  wl : x.r.sig.wots.length ≤ maxLen
  we : ∀ i (h : i < x.r.sig.wots.length), x.r.sig.wots[i].length ≤ maxLen
  pl : x.r.sig.path.length ≤ maxLen
  pe : ∀ i (h : i < x.r.sig.path.length), x.r.sig.path[i].length ≤ maxLen
theorem inner_slot (h : DataW.trod enc Tryz.prog W base spare held fuel 53 cs = some y) : ∃ x : SlotE, cs = slotQ x ∧ SlotIn x.r ∧ SlotT x W := by
  obtain ⟨xs, m, _, rfl, hcl, hl, hy⟩ := DataW.trod_struct Tryz.underlying53 h
  rw [ocells_slot] at hcl
  obtain ⟨c0, c1, c2, c3, c4, rfl⟩ := olist5 cs hcl
  obtain ⟨y0, y1, y2, rfl⟩ := olist3 xs hl
  obtain ⟨n0, e0, w0⟩ := inner_num (hy 0 _ rfl)
  obtain ⟨b, e1⟩ := inner_bool (hy 1 _ rfl)
  obtain ⟨zs, m2, _, _, _, hl2, hz⟩ := DataW.trod_struct Tryz.underlying51 (hy 2 _ rfl)
  obtain ⟨z0, z1, z2, rfl⟩ := olist3 zs hl2
  obtain ⟨n2, e2, w2⟩ := inner_num (hz 0 _ rfl)
  obtain ⟨wa, wc, ws, e3, w3, w4, w5⟩ := inner_strs (hz 1 _ rfl)
  obtain ⟨pa, pc, ps, e4, w6, w7, w8⟩ := inner_strs (hz 2 _ rfl)
  simp [ocells_n, ocells_b, ocells_l, ocells_sig] at e0 e1 e2 e3 e4
  subst e0 e1 e2 e3 e4
  have hm : maxLen ≤ 9223372036854775807 := by unfold maxLen; omega
  exact ⟨⟨⟨n0, b, ⟨n2, ws, ps⟩⟩, wa, wc, pa, pc⟩, rfl, ⟨w0, ⟨w2, Nat.le_trans w3 hm, Nat.le_trans w6 hm⟩⟩, ⟨⟨w5, w8⟩, w3, w4, w6, w7⟩⟩
end
end Go.Proofs.YtlhmmplkdjibkaaGreatDoor
/- What the rows' condition gives: reflectlite's handle, both packages' tables; and a world that meets it. -/
namespace Go.Proofs.YtlhmmplkdjibkaaGreatDoor
open Go.ChangeShapes Go.WideShapes Go.ChangeAt Go.RowKit

theorem own : ownKnob Tryz.prog.godebug = none := by kernel_rfl
theorem laidOut : laidOutB Tryz.prog = true := by kernel_rfl
theorem gRows : Tryz.prog.globalNamed "sextant/unpack.rows" = some 3 := by kernel_rfl
theorem gRowsType : (Tryz.prog.globals[3]?).map (·.type) = some 262 := by kernel_rfl
theorem gErr : Tryz.prog.globalNamed "errors.errorType" = some 0 := by kernel_rfl
theorem gRtype : (Tryz.prog.cutTypes.find? (·.1 == "internal/reflectlite.rtype")).map (·.2) = some 203 := by kernel_rfl
theorem gOne : ((List.range 288).filter fun t => Tryz.prog.rowNamed t [101, 114, 114, 111, 114]) = [38] := by kernel_rfl
theorem gSize : Tryz.prog.types.size = 288 := by kernel_rfl
theorem gHandle : typeHandle Tryz.prog 38 = .pointer (some ⟨4, 38, none⟩) := by kernel_rfl
theorem cellsRow : Tryz.prog.cellsOf 260 = 5 := by kernel_rfl
theorem cellsRow3 : Tryz.prog.cellsOf 3 = 1 := by kernel_rfl
theorem cellsRow5 : Tryz.prog.cellsOf 5 = 1 := by kernel_rfl
theorem cellsRowU : Tryz.prog.cellsOf 22 = 1 := by kernel_rfl

def rowD {H : Type} (r : RowQ) : DataW H := .agg [.lit (.int .i64 (r.s : Int)), .lit (.int .u8 (r.f : Int)), .lit (.int .u8 (r.l : Int)), .lit (.int .i64 (r.size : Int)), .lit (.int .u64 (r.least : Int))]
theorem rows_data {H : Type} : (Rows.laid_sextant_unpack_rows : DataW H) = .agg (rowsL.map rowD) := rfl

/-- an array, element by element -/
theorem elem_reads {H : Type} {enc : TypeId × Value → H} {P : Program} {w : World} {base : Nat} {sp : Nat → Bool} {held : Bool} {fuel : Nat} {t e : TypeId} {n : Nat} {cs : List Value} {ds : List (DataW H)} {p : List MemPlace} (ht : P.underlying t = some (.array n e))
    (h : DataW.trod enc P w base sp held fuel t cs = some (.agg ds, p)) (i : Nat) (hi : i < n) :
    ∃ f d q, ds[i]? = some d ∧ DataW.trod enc P w base sp held f e ((cs.drop (i * P.cellsOf e)).take (P.cellsOf e)) = some (d, q) := by
  cases fuel with
  | zero => simp [DataW.trod] at h
  | succ f =>
    simp only [DataW.trod, ht] at h
    split at h
    · obtain ⟨xs, hm, hx⟩ := Option.map_eq_some_iff.1 h
      obtain ⟨b, hb, hf⟩ := Lib.mapM_at hm i i (by simp [hi])
      have hds : xs.map (·.1) = ds := by simpa using congrArg Prod.fst hx
      exact ⟨f, b.1, b.2, by rw [← hds]; simp [hb], hf⟩
    · cases h
theorem list5 {α : Type} (l : List α) (h : l.length = 5) : ∃ a b c d e, l = [a, b, c, d, e] := by
  match l, h with
  | [a, b, c, d, e], _ => exact ⟨a, b, c, d, e, rfl⟩
theorem row_cells {H : Type} {enc : TypeId × Value → H} {w : World} {base : Nat} {sp : Nat → Bool} {held : Bool} {fuel : Nat} {cs : List Value} {r : RowQ} {p : List MemPlace}
    (h : DataW.trod enc Tryz.prog w base sp held fuel 260 cs = some (rowD r, p)) : cs = rowV r := by
  obtain ⟨xs, n, rfl, hx, hl, hxl, hall⟩ := DataW.trod_struct Tryz.underlying260 h
  rw [cellsRow] at hl
  obtain ⟨c0, c1, c2, c3, c4, rfl⟩ := list5 cs hl
  obtain ⟨y0, y1, y2, y3, y4, rfl⟩ := list5 xs hxl
  obtain ⟨m0, e0, f0, _⟩ := DataW.trod_int Tryz.underlying3 (hall 0 _ rfl)
  obtain ⟨m1, e1, f1, _⟩ := DataW.trod_int Tryz.underlying5 (hall 1 _ rfl)
  obtain ⟨m2, e2, f2, _⟩ := DataW.trod_int Tryz.underlying5 (hall 2 _ rfl)
  obtain ⟨m3, e3, f3, _⟩ := DataW.trod_int Tryz.underlying3 (hall 3 _ rfl)
  obtain ⟨m4, e4, f4, _⟩ := DataW.trod_int Tryz.underlying22 (hall 4 _ rfl)
  simp [cellsRow3, cellsRow5, cellsRowU] at e0 e1 e2 e3 e4 f0 f1 f2 f3 f4
  subst e0 e1 e2 e3 e4 f0 f1 f2 f3 f4
  have hx' := congrArg Prod.fst hx
  simp [rowD] at hx'
  obtain ⟨h0, h1, h2, h3, h4⟩ := hx'
  rw [rowV, h0, h1, h2, h3, h4]

/-! pack's table -/
theorem gRowsP : Tryz.prog.globalNamed "sextant/pack.rows" = some 1 := by kernel_rfl
theorem gRowsPType : (Tryz.prog.globals[1]?).map (·.type) = some 258 := by kernel_rfl
theorem cellsRowP : Tryz.prog.cellsOf 250 = 4 := by kernel_rfl
def rowDP {H : Type} (r : Pk.RowP) : DataW H := .agg [.lit (.int .i64 r.s), .lit (.int .u64 (r.last : Int)), .lit (.int .u8 (r.f : Int)), .lit (.int .i64 (r.size : Int))]
theorem rowsP_data {H : Type} : (Rows.laid_sextant_pack_rows : DataW H) = .agg (Pk.rowsL.map rowDP) := rfl
theorem rowP_cells {H : Type} {enc : TypeId × Value → H} {w : World} {base : Nat} {sp : Nat → Bool} {held : Bool} {fuel : Nat} {cs : List Value} {r : Pk.RowP} {p : List MemPlace}
    (h : DataW.trod enc Tryz.prog w base sp held fuel 250 cs = some (rowDP r, p)) : cs = Pk.rowV r := by
  obtain ⟨xs, n, rfl, hx, hl, hxl, hall⟩ := DataW.trod_struct Tryz.underlying250 h
  rw [cellsRowP] at hl
  obtain ⟨c0, c1, c2, c3, rfl⟩ := olist4 cs hl
  obtain ⟨y0, y1, y2, y3, rfl⟩ := olist4 xs hxl
  obtain ⟨m0, e0, f0, _⟩ := DataW.trod_int Tryz.underlying3 (hall 0 _ rfl)
  obtain ⟨m1, e1, f1, _⟩ := DataW.trod_int Tryz.underlying22 (hall 1 _ rfl)
  obtain ⟨m2, e2, f2, _⟩ := DataW.trod_int Tryz.underlying5 (hall 2 _ rfl)
  obtain ⟨m3, e3, f3, _⟩ := DataW.trod_int Tryz.underlying3 (hall 3 _ rfl)
  simp [cellsRow3, cellsRow5, cellsRowU] at e0 e1 e2 e3 f0 f1 f2 f3
  subst e0 e1 e2 e3 f0 f1 f2 f3
  have hx' := congrArg Prod.fst hx
  simp [rowDP] at hx'
  obtain ⟨h0, h1, h2, h3⟩ := hx'
  rw [Pk.rowV, h0, h1, h2, h3]

abbrev laidL : List (String × DataW Unit) := [("sextant/pack.rows", Rows.laid_sextant_pack_rows), ("errors.errorType", Rows.laid_errors_errorType), ("sextant/unpack.rows", Rows.laid_sextant_unpack_rows)]
theorem glob2 {W : World} (h : laidMetH Tryz.prog laidL W) : GlobW W ∧ 4 ≤ W.heap.size := by
  have h' : laidMet Tryz.prog [("sextant/pack.rows", Rows.laid_sextant_pack_rows), ("sextant/unpack.rows", Rows.laid_sextant_unpack_rows)] W ∧ handlesMet Tryz.prog [("errors.errorType", Rows.laid_errors_errorType)] W := h
  obtain ⟨ps, ⟨g1, t1, cs1, fuel1, p1, q1, hg1, ht1, hvar1, hd1, ⟨g', t', cs, fuel, p, q, hg', ht', hvar, hd, _, _⟩, _⟩, _⟩ := h'.1
  obtain rfl := Option.some.inj (gRowsP.symm.trans hg1)
  obtain rfl := Option.some.inj (gRowsPType.symm.trans ht1)
  obtain rfl := Option.some.inj (gRows.symm.trans hg')
  obtain rfl := Option.some.inj (gRowsType.symm.trans ht')
  rw [rows_data] at hd
  rw [rowsP_data] at hd1
  have hc1 : ∀ i j, i < 14 → j < 4 → W.cell? ⟨1, i * 4 + j, none⟩ = (Pk.rowV (Pk.rowAt i))[j]? := by
    intro i j hi hj
    obtain ⟨f, d, q, hdi, he⟩ := elem_reads Tryz.underlying258 hd1 i hi
    have hl : Pk.rowsL.length = 14 := rfl
    rw [List.getElem?_map, List.getElem?_eq_getElem (by omega), Option.map_some, Option.some.injEq] at hdi
    have hr : Pk.rowAt i = Pk.rowsL[i]'(by omega) := by rw [Pk.rowAt, List.getD_eq_getElem?_getD, List.getElem?_eq_getElem (by omega)]; rfl
    rw [← hr] at hdi
    subst hdi
    rw [cellsRowP] at he
    have := rowP_cells he
    rw [World.var?_cell gRowsP hvar1, ← Array.getElem?_toList, ← this, List.getElem?_take, if_pos hj, List.getElem?_drop]
  have hc : ∀ i j, i < 14 → j < 5 → W.cell? ⟨3, i * 5 + j, none⟩ = (rowV (rowAt i))[j]? := by
    intro i j hi hj
    obtain ⟨f, d, q, hdi, he⟩ := elem_reads Tryz.underlying262 hd i hi
    have hl : rowsL.length = 14 := rfl
    rw [List.getElem?_map, List.getElem?_eq_getElem (by omega), Option.map_some, Option.some.injEq] at hdi
    have hr : rowAt i = rowsL[i]'(by omega) := by rw [rowAt, List.getD_eq_getElem?_getD, List.getElem?_eq_getElem (by omega)]; rfl
    rw [← hr] at hdi
    subst hdi
    rw [cellsRow] at he
    have := row_cells he
    rw [World.var?_cell gRows hvar, ← Array.getElem?_toList, ← this, List.getElem?_take, if_pos hj, List.getElem?_drop]
  have hlt := World.block_lt_of_cell? W _ ((hc 0 0 (by decide) (by decide)).trans rfl)
  refine ⟨⟨⟨World.block_lt_of_cell? W _ ((hc1 0 0 (by decide) (by decide)).trans rfl), hc1⟩, ⟨?_, ⟨hlt, hc⟩⟩⟩, hlt⟩
  obtain ⟨name, u, ty, e1, e2, e3, e4, e5⟩ := h'.2 _ (List.mem_singleton.2 rfl)
  have en : name = [101, 114, 114, 111, 114] := (Option.some.inj e1).symm
  subst en
  obtain rfl := Option.some.inj (gRtype.symm.trans e2)
  have hm : ty ∈ (List.range 288).filter fun t => Tryz.prog.rowNamed t [101, 114, 114, 111, 114] := List.mem_filter.2 ⟨List.mem_range.2 (by rw [← gSize]; exact e3), e4⟩
  rw [gOne] at hm
  obtain rfl := List.mem_singleton.1 hm
  rw [gHandle] at e5
  simpa [GlobE] using World.var?_cell gErr e5 0
/-- what the rows' condition gives -/
def GlobL (W : World) : Prop := GlobW W ∧ 4 ≤ W.heap.size
theorem glob {W : World} (h : laidMetH Tryz.prog laidL W) : GlobL W := glob2 h

/-- the table's cells are laid -/
def rowsSet : Obj → Obj
  | .cells _ t frozen => .cells (rowsL.flatMap rowV).toArray t frozen
  | o => o
/-- the handle's cell is laid -/
def errSet : Obj → Obj
  | .cells _ t frozen => .cells #[.iface 203 (.agg #[.pointer (some ⟨4, 38, none⟩)])] t frozen
  | o => o
def rowsPSet : Obj → Obj
  | .cells _ t frozen => .cells (Pk.rowsL.flatMap Pk.rowV).toArray t frozen
  | o => o
/-- a world for the witness: the settled one, the two variables holding what their initialisers lay -/
noncomputable def laidWorld (os : Os) : World :=
  { World.holding Tryz.prog os ⟨#[], #[], []⟩ with heap := (((World.holding Tryz.prog os ⟨#[], #[], []⟩).heap.modify 1 rowsPSet).modify 3 rowsSet).modify 0 errSet }
theorem laid_met (os : Os) (args : Array Value) : laidMetH Tryz.prog laidL ((laidWorld os).forCall (fun _ _ => 0) ⟨#[], args, []⟩).memory :=
  laidMetH_of_parts (laidMet_of_run' 8 (by kernel_rfl) (by kernel_rfl)) (by kernel_rfl)
end Go.Proofs.YtlhmmplkdjibkaaGreatDoor
