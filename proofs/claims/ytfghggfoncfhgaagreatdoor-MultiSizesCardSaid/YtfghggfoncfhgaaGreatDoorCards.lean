/-
  DERIVED. GIVEN WITH THE SEED: THE CARDS: each row of YtfghggfoncfhgaaGreatDoorRows.lean that lists a variable, with what it lists TIED to the program's text (the seventh form; the later family's looks); each row that meets fmt, with fmt's text TOLD by the authors' own Lean function (tested against real Go, not proved from fmt's source: count such statements apart). THE CARD IS WHAT COUNTS. Prove the row's statement (the work); the ties are given (YtfghggfoncfhgaaGreatDoorTie.lean); close each card by the builder's one call (the guide's Derived/Test/ToyasCard.lean, 'card_holds'). Laid BY PROGRAM, IN A SANDBOX (cutbox-door.mjs). By AI agents, Wed Nov 11 2026. No macro, syntax, notation, axiom, sorry.
-/
import Derived.Test.YtfghggfoncfhgaaGreatDoorRows
import GoSem.ClaimSeven
namespace Go.Proofs.YtfghggfoncfhgaaGreatDoor
namespace Rows

/-- THE TIED CARD OF 'sextantlaw10.MultiProves'. -/
def multiProvesCard : Claim7 := { stood := { row := multiProvesRow, standIns := [], harness := (true, "b8058422a1257c1730da7f05781f67a25ad0d3956d5e1b76f09f4d4952fa7d48"), looks := false }, kinds := [], alts := [], laidByText := true, laidKinds := [.data, .data], laidTests := true, laidLooks := .later }
def MultiProvesCardSaid : Prop := Claim7.holds Tryz.pinned (.plain (OpenSpec.ofChange multiProvesSpec)) multiProvesCard

/-- THE TIED CARD OF 'sextantlaw10.MultiSizes'. -/
def multiSizesCard : Claim7 := { stood := { row := multiSizesRow, standIns := [], harness := (true, "b8058422a1257c1730da7f05781f67a25ad0d3956d5e1b76f09f4d4952fa7d48"), looks := false }, kinds := [], alts := [], laidByText := true, laidKinds := [.data, .data], laidTests := true, laidLooks := .later }
def MultiSizesCardSaid : Prop := Claim7.holds Tryz.pinned (.plain (OpenSpec.ofChange multiSizesSpec)) multiSizesCard

/-- THE SECOND FORM's CARD OF 'sextantlaw10.MultiProves'. -/
def multiProvesUptoCard : Claim7 := { stood := { row := multiProvesUptoRow, standIns := [], harness := (true, "b8058422a1257c1730da7f05781f67a25ad0d3956d5e1b76f09f4d4952fa7d48"), looks := false }, kinds := [], alts := [], laidByText := true, laidKinds := [.data, .data], laidTests := true, laidLooks := .later }
def MultiProvesUptoCardSaid : Prop := Claim7.holds Tryz.pinned (.plain (OpenSpec.upto multiProvesSpec)) multiProvesUptoCard

/-- THE SECOND FORM's CARD OF 'sextantlaw10.MultiSizes'. -/
def multiSizesUptoCard : Claim7 := { stood := { row := multiSizesUptoRow, standIns := [], harness := (true, "b8058422a1257c1730da7f05781f67a25ad0d3956d5e1b76f09f4d4952fa7d48"), looks := false }, kinds := [], alts := [], laidByText := true, laidKinds := [.data, .data], laidTests := true, laidLooks := .later }
def MultiSizesUptoCardSaid : Prop := Claim7.holds Tryz.pinned (.plain (OpenSpec.upto multiSizesSpec)) multiSizesUptoCard
end Rows
end Go.Proofs.YtfghggfoncfhgaaGreatDoor
