/- What the rows' condition gives: the package's two tables hold the words of the text; and a world that meets it. -/
import Derived.Test.YtmnklonoelpidaaGreatDoorRows
import Derived.Test.YtmnklonoelpidaaGreatDoorJ4
import Derived.ProofKit
import Derived.OpenShut
import Derived.Deep.DeepHandedRow
import Derived.Lib.LaidTab
import Derived.Stop.LaidErr
namespace Go.Proofs.YtmnklonoelpidaaGreatDoor
open Go.ChangeShapes Go.WideShapes Go.ChangeAt Go.RowKit

theorem own : ownKnob Tryz.prog.godebug = none := by kernel_rfl
theorem gIv : Tryz.prog.globalNamed "sextant/sha.beginning" = some 0 := by kernel_rfl
theorem gK : Tryz.prog.globalNamed "sextant/sha.constants" = some 1 := by kernel_rfl
theorem gIvType : (Tryz.prog.globals[0]?).map (·.type) = some 182 := by kernel_rfl
theorem gKType : (Tryz.prog.globals[1]?).map (·.type) = some 205 := by kernel_rfl
theorem cells42 : Tryz.prog.cellsOf 182 = 8 := by kernel_rfl
theorem cells60 : Tryz.prog.cellsOf 205 = 64 := by kernel_rfl
theorem cells38 : Tryz.prog.cellsOf 178 = 1 := by kernel_rfl

def ivZ : List Int := [1779033703, 3144134277, 1013904242, 2773480762, 1359893119, 2600822924, 528734635, 1541459225]
def kZ : List Int := [1116352408, 1899447441, 3049323471, 3921009573, 961987163, 1508970993, 2453635748, 2870763221, 3624381080, 310598401, 607225278, 1426881987, 1925078388, 2162078206, 2614888103, 3248222580, 3835390401, 4022224774, 264347078, 604807628, 770255983, 1249150122, 1555081692, 1996064986, 2554220882, 2821834349, 2952996808, 3210313671, 3336571891, 3584528711, 113926993, 338241895, 666307205, 773529912, 1294757372, 1396182291, 1695183700, 1986661051, 2177026350, 2456956037, 2730485921, 2820302411, 3259730800, 3345764771, 3516065817, 3600352804, 4094571909, 275423344, 430227734, 506948616, 659060556, 883997877, 958139571, 1322822218, 1537002063, 1747873779, 1955562222, 2024104815, 2227730452, 2361852424, 2428436474, 2756734187, 3204031479, 3329325298]

theorem iv_tn : ∀ i < 8, ivZ.getD i 0 = tn (IV.at i) := by decide +kernel
theorem k_tn : ∀ i < 64, kZ.getD i 0 = tn (KF i) := by decide +kernel

theorem tabIv {W : World} (h : laidMet Tryz.prog [("sextant/sha.beginning", Rows.laid_sextant_sha_beginning), ("sextant/sha.constants", Rows.laid_sextant_sha_constants)] W) : Lib.TabIs Tryz.prog W "sextant/sha.beginning" .u32 ivZ :=
  Lib.tabIs_of_head (rest := [("sextant/sha.constants", Rows.laid_sextant_sha_constants)]) gIv gIvType Tryz.underlying182 Tryz.underlying178 cells38 cells42 h
theorem tabK {W : World} (h : laidMet Tryz.prog [("sextant/sha.beginning", Rows.laid_sextant_sha_beginning), ("sextant/sha.constants", Rows.laid_sextant_sha_constants)] W) : Lib.TabIs Tryz.prog W "sextant/sha.constants" .u32 kZ :=
  Lib.tabIs_of_head (rest := []) gK gKType Tryz.underlying205 Tryz.underlying178 cells38 cells60 h.tail

theorem glob {W : World} (h : laidMet Tryz.prog [("sextant/sha.beginning", Rows.laid_sextant_sha_beginning), ("sextant/sha.constants", Rows.laid_sextant_sha_constants)] W) : Glob W := by
  have hk := (tabK h).cell gK
  have hi := (tabIv h).cell gIv
  refine ⟨?_, fun i hi' => ?_, fun i hi' => ?_⟩
  · exact World.block_lt_of_cell? W _ (hk 0 (by decide))
  · rw [hi i (by exact hi'), iv_tn i hi']
  · rw [hk i (by exact hi'), k_tn i hi']

/-- a table's cells are laid -/
def tabSet (zs : List Int) : Obj → Obj
  | .cells _ t frozen => .cells (zs.map (Value.int .u32)).toArray t frozen
  | o => o
/-- a world for the witness: the settled one, the two tables holding what their initialisers lay -/
noncomputable def laidWorld (os : Os) : World :=
  { World.holding Tryz.prog os ⟨#[], #[], []⟩ with heap := ((World.holding Tryz.prog os ⟨#[], #[], []⟩).heap.modify 0 (tabSet ivZ)).modify 1 (tabSet kZ) }
theorem laid_met (os : Os) (args : Array Value) : laidMet Tryz.prog [("sextant/sha.beginning", Rows.laid_sextant_sha_beginning), ("sextant/sha.constants", Rows.laid_sextant_sha_constants)] ((laidWorld os).forCall (fun _ _ => 0) ⟨#[], args, []⟩).memory :=
  laidMet_of_run' 8 (by kernel_rfl) (by kernel_rfl)
end Go.Proofs.YtmnklonoelpidaaGreatDoor
