/-
  DERIVED. GIVEN WITH THE SEED: THE CARDS: each row of YtfghggfoncfhgaaDoorRows.lean that lists a variable, with what it lists TIED to the program's text (the seventh form; the later family's looks); each row that meets fmt, with fmt's text TOLD by the authors' own Lean function (tested against real Go, not proved from fmt's source: count such statements apart). THE CARD IS WHAT COUNTS. Prove the row's statement (the work); the ties are given (YtfghggfoncfhgaaDoorTie.lean); close each card by the builder's one call (the guide's Derived/Test/ToyasCard.lean, 'card_holds'). Laid BY PROGRAM, IN A SANDBOX (cutbox-door.mjs). By AI agents, Wed Nov 11 2026. No macro, syntax, notation, axiom, sorry.
-/
import Derived.Test.YtfghggfoncfhgaaDoorRows
import GoSem.ClaimSeven
namespace Go.Proofs.YtfghggfoncfhgaaDoor
namespace Rows

/-- THE TIED CARD OF 'sextantlaw10.MultiRoots'. -/
def multiRootsCard : Claim7 := { stood := { row := multiRootsRow, standIns := [], harness := (true, "b7427b7d85473e8aa1ef33a84bdeae8fa44292d63aeaca5dee2089ed5ea9459c"), looks := false }, kinds := [], alts := [], laidByText := true, laidKinds := [.data, .data], laidTests := true, laidLooks := .later }
def MultiRootsCardSaid : Prop := Claim7.holds Tryd.pinned (.plain (OpenSpec.ofChange multiRootsSpec)) multiRootsCard

/-- THE TIED CARD OF 'sextantlaw10.MultiTogether'. -/
def multiTogetherCard : Claim7 := { stood := { row := multiTogetherRow, standIns := [], harness := (true, "b7427b7d85473e8aa1ef33a84bdeae8fa44292d63aeaca5dee2089ed5ea9459c"), looks := false }, kinds := [], alts := [], laidByText := true, laidKinds := [.data, .data], laidTests := true, laidLooks := .later }
def MultiTogetherCardSaid : Prop := Claim7.holds Tryd.pinned (.plain (OpenSpec.ofChange multiTogetherSpec)) multiTogetherCard

/-- THE TIED CARD OF 'sextantlaw10.MultiKnown'. -/
def multiKnownCard : Claim7 := { stood := { row := multiKnownRow, standIns := [], harness := (true, "b7427b7d85473e8aa1ef33a84bdeae8fa44292d63aeaca5dee2089ed5ea9459c"), looks := false }, kinds := [], alts := [], laidByText := true, laidKinds := [.data, .data], laidTests := true, laidLooks := .later }
def MultiKnownCardSaid : Prop := Claim7.holds Tryd.pinned (.plain (OpenSpec.ofChange multiKnownSpec)) multiKnownCard

/-- THE SECOND FORM's CARD OF 'sextantlaw10.MultiRoots'. -/
def multiRootsUptoCard : Claim7 := { stood := { row := multiRootsUptoRow, standIns := [], harness := (true, "b7427b7d85473e8aa1ef33a84bdeae8fa44292d63aeaca5dee2089ed5ea9459c"), looks := false }, kinds := [], alts := [], laidByText := true, laidKinds := [.data, .data], laidTests := true, laidLooks := .later }
def MultiRootsUptoCardSaid : Prop := Claim7.holds Tryd.pinned (.plain (OpenSpec.upto multiRootsSpec)) multiRootsUptoCard

/-- THE SECOND FORM's CARD OF 'sextantlaw10.MultiTogether'. -/
def multiTogetherUptoCard : Claim7 := { stood := { row := multiTogetherUptoRow, standIns := [], harness := (true, "b7427b7d85473e8aa1ef33a84bdeae8fa44292d63aeaca5dee2089ed5ea9459c"), looks := false }, kinds := [], alts := [], laidByText := true, laidKinds := [.data, .data], laidTests := true, laidLooks := .later }
def MultiTogetherUptoCardSaid : Prop := Claim7.holds Tryd.pinned (.plain (OpenSpec.upto multiTogetherSpec)) multiTogetherUptoCard

/-- THE SECOND FORM's CARD OF 'sextantlaw10.MultiKnown'. -/
def multiKnownUptoCard : Claim7 := { stood := { row := multiKnownUptoRow, standIns := [], harness := (true, "b7427b7d85473e8aa1ef33a84bdeae8fa44292d63aeaca5dee2089ed5ea9459c"), looks := false }, kinds := [], alts := [], laidByText := true, laidKinds := [.data, .data], laidTests := true, laidLooks := .later }
def MultiKnownUptoCardSaid : Prop := Claim7.holds Tryd.pinned (.plain (OpenSpec.upto multiKnownSpec)) multiKnownUptoCard
end Rows
end Go.Proofs.YtfghggfoncfhgaaDoor
