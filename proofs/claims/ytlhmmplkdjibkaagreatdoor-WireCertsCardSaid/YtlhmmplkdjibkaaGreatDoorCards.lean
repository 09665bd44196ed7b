/-
  DERIVED. GIVEN WITH THE SEED: THE CARDS: each row of YtlhmmplkdjibkaaGreatDoorRows.lean that lists a variable, with what it lists TIED to the program's text (the seventh form; the later family's looks); each row that meets fmt, with fmt's text TOLD by the authors' own Lean function (tested against real Go, not proved from fmt's source: count such statements apart). THE CARD IS WHAT COUNTS. Prove the row's statement (the work); the ties are given (YtlhmmplkdjibkaaGreatDoorTie.lean); close each card by the builder's one call (the guide's Derived/Test/ToyasCard.lean, 'card_holds'). Laid BY PROGRAM, IN A SANDBOX (cutbox-door.mjs). By AI agents, Wed Nov 11 2026. No macro, syntax, notation, axiom, sorry.
-/
import Derived.Test.YtlhmmplkdjibkaaGreatDoorRows
import GoSem.ClaimSeven
namespace Go.Proofs.YtlhmmplkdjibkaaGreatDoor
namespace Rows

/-- THE TIED CARD OF 'sextantlaw07.WireCerts'. -/
def wireCertsCard : Claim7 := { stood := { row := wireCertsRow, standIns := [], harness := (true, "e2b2b34dadd9a54f0000092418c94f8aa8d55ed7d4b75c4b86bd9fadd28ad30f"), looks := true }, kinds := [], alts := [], laidByText := true, laidKinds := [.data, .handle, .data], laidTests := true, laidLooks := .later }
def WireCertsCardSaid : Prop := Claim7.holds Tryz.pinned (.plain (OpenSpec.ofChange wireCertsSpec)) wireCertsCard

/-- THE SECOND FORM's CARD OF 'sextantlaw07.WireCerts'. -/
def wireCertsUptoCard : Claim7 := { stood := { row := wireCertsUptoRow, standIns := [], harness := (true, "e2b2b34dadd9a54f0000092418c94f8aa8d55ed7d4b75c4b86bd9fadd28ad30f"), looks := true }, kinds := [], alts := [], laidByText := true, laidKinds := [.data, .handle, .data], laidTests := true, laidLooks := .later }
def WireCertsUptoCardSaid : Prop := Claim7.holds Tryz.pinned (.plain (OpenSpec.upto wireCertsSpec)) wireCertsUptoCard
end Rows
end Go.Proofs.YtlhmmplkdjibkaaGreatDoor
