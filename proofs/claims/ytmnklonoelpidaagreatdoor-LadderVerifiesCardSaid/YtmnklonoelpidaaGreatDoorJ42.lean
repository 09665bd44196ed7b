/- A list of texts that came in. -/
import Derived.Test.YtmnklonoelpidaaGreatDoorJ7
import Derived.ProofKit
import Derived.OpenShut
import Derived.Deep.DeepHandedRow
import Derived.Test.YtmnklonoelpidaaGreatDoorRows
import Derived.Test.YtmnklonoelpidaaGreatDoorJ4
import Derived.Lib.LaidTab
import Derived.Stop.LaidErr
import Derived.Test.YtmnklonoelpidaaGreatDoorJ37
namespace Go.Proofs.YtmnklonoelpidaaGreatDoor
open Go.ChangeShapes Go.WideShapes Go.ChangeAt Go.RowKit

theorem cells9 : Tryz.prog.cellsOf 9 = 1 := by kernel_rfl
/-- what the reading of a list of texts gives -/
theorem strs_of {W : World} {a : Addr} {len : Nat} {ss : List ByteArray} (hcell : ∀ i, i < ss.length → W.cell? (a.add i) = some (.string (ss.getD i ByteArray.empty))) (hl : len ≤ ss.length) :
    Strs (some a) ((ss.take len).map fun s => s.data.toList) W := by
  by_cases h0 : len = 0
  · subst h0; exact .inl (by simp)
  · obtain ⟨b, off, sp⟩ := a
    have hc0 := hcell 0 (by omega)
    have hsp : sp = none := by
      cases sp with
      | none => rfl
      | some x =>
        exfalso
        have e : (⟨b, off, some x⟩ : Addr).add 0 = ⟨b, off, some x⟩ := rfl
        rw [e] at hc0
        unfold World.cell? at hc0
        split at hc0 <;> simp at hc0
    subst hsp
    refine .inr ⟨b, off, rfl, World.block_lt_of_cell? W _ (by rw [show (⟨b, off, none⟩ : Addr).add 0 = ⟨b, off, none⟩ from rfl] at hc0; exact hc0), fun i hi => ?_⟩
    have hi2 : i < len := by simpa [Nat.min_eq_left hl] using hi
    have := hcell i (by omega)
    rw [Addr.add_mid] at this
    rw [this, List.getElem_map, List.getElem_take, List.getD_eq_getElem?_getD, List.getElem?_eq_getElem (by omega)]
    rw [str_eta]
    rfl

end Go.Proofs.YtmnklonoelpidaaGreatDoor
/- What the rows' condition gives: the package's two tables hold the words of the text; and a world that meets it. -/
namespace Go.Proofs.YtmnklonoelpidaaGreatDoor
open Go.ChangeShapes Go.WideShapes Go.ChangeAt Go.RowKit

theorem own : ownKnob Tryz.prog.godebug = none := by kernel_rfl
theorem gIv : Tryz.prog.globalNamed "sextant/sha.beginning" = some 0 := by kernel_rfl
theorem gK : Tryz.prog.globalNamed "sextant/sha.constants" = some 1 := by kernel_rfl
theorem gIvType : (Tryz.prog.globals[0]?).map (·.type) = some 182 := by kernel_rfl
theorem gKType : (Tryz.prog.globals[1]?).map (·.type) = some 205 := by kernel_rfl
theorem cells42 : Tryz.prog.cellsOf 182 = 8 := by kernel_rfl
theorem cells60 : Tryz.prog.cellsOf 205 = 64 := by kernel_rfl
theorem cells38 : Tryz.prog.cellsOf 178 = 1 := by kernel_rfl

def ivZ : List Int := [1779033703, 3144134277, 1013904242, 2773480762, 1359893119, 2600822924, 528734635, 1541459225]
def kZ : List Int := [1116352408, 1899447441, 3049323471, 3921009573, 961987163, 1508970993, 2453635748, 2870763221, 3624381080, 310598401, 607225278, 1426881987, 1925078388, 2162078206, 2614888103, 3248222580, 3835390401, 4022224774, 264347078, 604807628, 770255983, 1249150122, 1555081692, 1996064986, 2554220882, 2821834349, 2952996808, 3210313671, 3336571891, 3584528711, 113926993, 338241895, 666307205, 773529912, 1294757372, 1396182291, 1695183700, 1986661051, 2177026350, 2456956037, 2730485921, 2820302411, 3259730800, 3345764771, 3516065817, 3600352804, 4094571909, 275423344, 430227734, 506948616, 659060556, 883997877, 958139571, 1322822218, 1537002063, 1747873779, 1955562222, 2024104815, 2227730452, 2361852424, 2428436474, 2756734187, 3204031479, 3329325298]

theorem iv_tn : ∀ i < 8, ivZ.getD i 0 = tn (IV.at i) := by decide +kernel
theorem k_tn : ∀ i < 64, kZ.getD i 0 = tn (KF i) := by decide +kernel

theorem tabIv {W : World} (h : laidMet Tryz.prog [("sextant/sha.beginning", Rows.laid_sextant_sha_beginning), ("sextant/sha.constants", Rows.laid_sextant_sha_constants)] W) : Lib.TabIs Tryz.prog W "sextant/sha.beginning" .u32 ivZ :=
  Lib.tabIs_of_head (rest := [("sextant/sha.constants", Rows.laid_sextant_sha_constants)]) gIv gIvType Tryz.underlying182 Tryz.underlying178 cells38 cells42 h
theorem tabK {W : World} (h : laidMet Tryz.prog [("sextant/sha.beginning", Rows.laid_sextant_sha_beginning), ("sextant/sha.constants", Rows.laid_sextant_sha_constants)] W) : Lib.TabIs Tryz.prog W "sextant/sha.constants" .u32 kZ :=
  Lib.tabIs_of_head (rest := []) gK gKType Tryz.underlying205 Tryz.underlying178 cells38 cells60 h.tail

theorem glob {W : World} (h : laidMet Tryz.prog [("sextant/sha.beginning", Rows.laid_sextant_sha_beginning), ("sextant/sha.constants", Rows.laid_sextant_sha_constants)] W) : Glob W := by
  have hk := (tabK h).cell gK
  have hi := (tabIv h).cell gIv
  refine ⟨?_, fun i hi' => ?_, fun i hi' => ?_⟩
  · exact World.block_lt_of_cell? W _ (hk 0 (by decide))
  · rw [hi i (by exact hi'), iv_tn i hi']
  · rw [hk i (by exact hi'), k_tn i hi']

/-- a table's cells are laid -/
def tabSet (zs : List Int) : Obj → Obj
  | .cells _ t frozen => .cells (zs.map (Value.int .u32)).toArray t frozen
  | o => o
/-- a world for the witness: the settled one, the two tables holding what their initialisers lay -/
noncomputable def laidWorld (os : Os) : World :=
  { World.holding Tryz.prog os ⟨#[], #[], []⟩ with heap := ((World.holding Tryz.prog os ⟨#[], #[], []⟩).heap.modify 0 (tabSet ivZ)).modify 1 (tabSet kZ) }
theorem laid_met (os : Os) (args : Array Value) : laidMet Tryz.prog [("sextant/sha.beginning", Rows.laid_sextant_sha_beginning), ("sextant/sha.constants", Rows.laid_sextant_sha_constants)] ((laidWorld os).forCall (fun _ _ => 0) ⟨#[], args, []⟩).memory :=
  laidMet_of_run' 8 (by kernel_rfl) (by kernel_rfl)
end Go.Proofs.YtmnklonoelpidaaGreatDoor
/- What the cards share: a text read and laid again; a list of texts that came in. -/
namespace Go.Proofs.YtmnklonoelpidaaGreatDoor
open Go.ChangeShapes Go.WideShapes Go.ChangeAt Go.RowKit

theorem laidOut : laidOutB Tryz.prog = true := by kernel_rfl
end Go.Proofs.YtmnklonoelpidaaGreatDoor
/- How a signature is spoilt, and a signature, that came in by value: opened. -/
namespace Go.Proofs.YtmnklonoelpidaaGreatDoor
open Go.ChangeShapes Go.WideShapes Go.ChangeAt Go.RowKit

theorem scells_x : Tryz.prog.cellsOf 54 = 3 := by kernel_rfl
theorem scells_s : Tryz.prog.cellsOf 48 = 3 := by kernel_rfl
theorem scells_l : Tryz.prog.cellsOf 41 = 1 := by kernel_rfl
theorem slist3 {α : Type} (l : List α) (h : l.length = 3) : ∃ a b c, l = [a, b, c] := by
  match l, h with
  | [a, b, c], _ => exact ⟨a, b, c, rfl⟩
theorem inner_strs14 {H : Type} {enc : TypeId × Value → H} {W : World} {base : Nat} {spare : Nat → Bool} {held : Bool} {fuel : Nat} {cs : List Value} {y : DataW H × List MemPlace} (h : DataW.trod enc Tryz.prog W base spare held fuel 41 cs = some y) : ∃ (ao : Option Addr) (cp : Nat) (L : List (List UInt8)), cs = [.slice ao L.length cp] ∧ L.length ≤ cp ∧ cp ≤ maxLen ∧ Strs ao L W := by
  rcases open_strings Tryz.underlying41 Tryz.underlying9 cells9 h with ⟨hcs, hx⟩ | ⟨a, len', cap', ss, hcs, _, hl, hm, hz, hx, hcell, hws⟩
  · exact ⟨none, 0, [], hcs, Nat.le_refl _, Nat.zero_le _, .inl rfl⟩
  · have hz' : len' ≤ ss.length := by rw [hz]; split <;> omega
    exact ⟨some a, cap', (ss.take len').map fun s => s.data.toList, by rw [hcs, List.length_map, List.length_take, Nat.min_eq_left hz'], by simp; omega, hm, strs_of hcell hz'⟩
set_option maxRecDepth 100000 in
theorem open_spoil14 {H : Type} {enc : TypeId × Value → H} {W : World} {base : Nat} {v : Value} {dv : DataW H} {p : List MemPlace} (hv : Value.okWide Tryz.prog W .any base 54 v)
    (h : DataW.Trod enc Tryz.prog W 0 (fun _ => true) true 54 v dv p) : ∃ (q y z : Nat), v = .agg #[.int .u8 (q : Int), .int .u8 (y : Int), .int .u8 (z : Int)] ∧ q < 256 ∧ y < 256 ∧ z < 256 := by
  obtain ⟨cs, rfl, hsz⟩ := okWide_struct Tryz.underlying54 hv
  obtain ⟨l⟩ := cs
  obtain ⟨fuel, hf⟩ := h
  obtain ⟨xs, m, _, hxx, hcl, hl, hy⟩ := DataW.trod_struct Tryz.underlying54 hf
  rw [scells_x] at hcl
  obtain ⟨c0, c1, c2, e⟩ := slist3 _ hcl
  have e' : l = [c0, c1, c2] := e
  subst e'
  obtain ⟨y0, y1, y2, rfl⟩ := slist3 xs hl
  obtain ⟨n0, e0, f0, w0⟩ := DataW.trod_int Tryz.underlying5 (hy 0 _ rfl)
  obtain ⟨n1, e1, f1, w1⟩ := DataW.trod_int Tryz.underlying5 (hy 1 _ rfl)
  obtain ⟨n2, e2, f2, w2⟩ := DataW.trod_int Tryz.underlying5 (hy 2 _ rfl)
  simp [mcells_b, Value.cells] at e0 e1 e2
  subst e0 e1 e2
  have b0 := bounds_u8 w0
  have b1 := bounds_u8 w1
  have b2 := bounds_u8 w2
  obtain ⟨n0, rfl⟩ := Int.eq_ofNat_of_zero_le b0.1
  obtain ⟨n1, rfl⟩ := Int.eq_ofNat_of_zero_le b1.1
  obtain ⟨n2, rfl⟩ := Int.eq_ofNat_of_zero_le b2.1
  exact ⟨n0, n1, n2, rfl, by omega, by omega, by omega⟩
set_option maxRecDepth 100000 in
theorem open_sig14 {H : Type} {enc : TypeId × Value → H} {W : World} {base : Nat} {v : Value} {dv : DataW H} {p : List MemPlace} (hv : Value.okWide Tryz.prog W .any base 48 v)
    (h : DataW.Trod enc Tryz.prog W 0 (fun _ => true) true 48 v dv p) : ∃ (i : Nat) (L P : List (List UInt8)) (wo po : Option Addr) (wc pc : Nat), v = .agg #[.int .u64 (i : Int), .slice wo L.length wc, .slice po P.length pc] ∧ i < 18446744073709551616 ∧ Strs wo L W ∧ Strs po P W ∧ L.length ≤ wc ∧ wc ≤ maxLen ∧ P.length ≤ pc ∧ pc ≤ maxLen := by
  obtain ⟨cs, rfl, hsz⟩ := okWide_struct Tryz.underlying48 hv
  obtain ⟨l⟩ := cs
  obtain ⟨fuel, hf⟩ := h
  obtain ⟨xs, m, _, hxx, hcl, hl, hy⟩ := DataW.trod_struct Tryz.underlying48 hf
  rw [scells_s] at hcl
  obtain ⟨c0, c1, c2, e⟩ := slist3 _ hcl
  have e' : l = [c0, c1, c2] := e
  subst e'
  obtain ⟨y0, y1, y2, rfl⟩ := slist3 xs hl
  obtain ⟨n0, e0, f0, w0⟩ := DataW.trod_int Tryz.underlying22 (hy 0 _ rfl)
  obtain ⟨wo, wc, L, e1, l1, l2, s1⟩ := inner_strs14 (hy 1 _ rfl)
  obtain ⟨po, pc, P, e2, l3, l4, s2⟩ := inner_strs14 (hy 2 _ rfl)
  simp [mcells_n, scells_l, Value.cells] at e0 e1 e2
  subst e0 e1 e2
  have b0 := bounds_u64 w0
  obtain ⟨n0, rfl⟩ := Int.eq_ofNat_of_zero_le b0.1
  exact ⟨n0, L, P, wo, po, wc, pc, rfl, by omega, s1, s2, l1, l2, l3, l4⟩
end Go.Proofs.YtmnklonoelpidaaGreatDoor
