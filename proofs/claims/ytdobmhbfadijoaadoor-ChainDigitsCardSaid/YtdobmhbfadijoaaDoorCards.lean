/-
  DERIVED. GIVEN WITH THE SEED: THE CARDS: each row of YtdobmhbfadijoaaDoorRows.lean that lists a variable, with what it lists TIED to the program's text (the seventh form; the later family's looks); each row that meets fmt, with fmt's text TOLD by the authors' own Lean function (tested against real Go, not proved from fmt's source: count such statements apart). THE CARD IS WHAT COUNTS. Prove the row's statement (the work); the ties are given (YtdobmhbfadijoaaDoorTie.lean); close each card by the builder's one call (the guide's Derived/Test/ToyasCard.lean, 'card_holds'). Laid BY PROGRAM, IN A SANDBOX (cutbox-door.mjs). By AI agents, Wed Nov 11 2026. No macro, syntax, notation, axiom, sorry.
-/
import Derived.Test.YtdobmhbfadijoaaDoorRows
import GoSem.ClaimSeven
namespace Go.Proofs.YtdobmhbfadijoaaDoor
namespace Rows

/-- THE TIED CARD OF 'sextantlaw12.ChainDigits'. -/
def chainDigitsCard : Claim7 := { stood := { row := chainDigitsRow, standIns := [], harness := (true, "cc10c78aa054b935acd2c7b1a06999cebc9678459f004630974b4b53c23b5e25"), looks := false }, kinds := [], alts := [], laidByText := true, laidKinds := [.data, .data], laidTests := true, laidLooks := .later }
def ChainDigitsCardSaid : Prop := Claim7.holds Tryd.pinned (.plain (OpenSpec.ofChange chainDigitsSpec)) chainDigitsCard

/-- THE TIED CARD OF 'sextantlaw12.ChainWalks'. -/
def chainWalksCard : Claim7 := { stood := { row := chainWalksRow, standIns := [], harness := (true, "cc10c78aa054b935acd2c7b1a06999cebc9678459f004630974b4b53c23b5e25"), looks := false }, kinds := [], alts := [], laidByText := true, laidKinds := [.data, .data], laidTests := true, laidLooks := .later }
def ChainWalksCardSaid : Prop := Claim7.holds Tryd.pinned (.plain (OpenSpec.ofChange chainWalksSpec)) chainWalksCard

/-- THE TIED CARD OF 'sextantlaw12.ChainGuards'. -/
def chainGuardsCard : Claim7 := { stood := { row := chainGuardsRow, standIns := [], harness := (true, "cc10c78aa054b935acd2c7b1a06999cebc9678459f004630974b4b53c23b5e25"), looks := false }, kinds := [], alts := [], laidByText := true, laidKinds := [.data, .data], laidTests := true, laidLooks := .later }
def ChainGuardsCardSaid : Prop := Claim7.holds Tryd.pinned (.plain (OpenSpec.ofChange chainGuardsSpec)) chainGuardsCard

/-- THE TIED CARD OF 'sextantlaw12.ChainBack'. -/
def chainBackCard : Claim7 := { stood := { row := chainBackRow, standIns := [], harness := (true, "cc10c78aa054b935acd2c7b1a06999cebc9678459f004630974b4b53c23b5e25"), looks := false }, kinds := [], alts := [], laidByText := true, laidKinds := [.data, .data], laidTests := true, laidLooks := .later }
def ChainBackCardSaid : Prop := Claim7.holds Tryd.pinned (.plain (OpenSpec.ofChange chainBackSpec)) chainBackCard

/-- THE TIED CARD OF 'sextantlaw12.ChainGoes'. -/
def chainGoesCard : Claim7 := { stood := { row := chainGoesRow, standIns := [], harness := (true, "cc10c78aa054b935acd2c7b1a06999cebc9678459f004630974b4b53c23b5e25"), looks := false }, kinds := [], alts := [], laidByText := true, laidKinds := [.data, .data], laidTests := true, laidLooks := .later }
def ChainGoesCardSaid : Prop := Claim7.holds Tryd.pinned (.plain (OpenSpec.ofChange chainGoesSpec)) chainGoesCard

/-- THE TIED CARD OF 'sextantlaw12.ChainKnown'. -/
def chainKnownCard : Claim7 := { stood := { row := chainKnownRow, standIns := [], harness := (true, "cc10c78aa054b935acd2c7b1a06999cebc9678459f004630974b4b53c23b5e25"), looks := false }, kinds := [], alts := [], laidByText := true, laidKinds := [.data, .data], laidTests := true, laidLooks := .later }
def ChainKnownCardSaid : Prop := Claim7.holds Tryd.pinned (.plain (OpenSpec.ofChange chainKnownSpec)) chainKnownCard

/-- THE SECOND FORM's CARD OF 'sextantlaw12.ChainDigits'. -/
def chainDigitsUptoCard : Claim7 := { stood := { row := chainDigitsUptoRow, standIns := [], harness := (true, "cc10c78aa054b935acd2c7b1a06999cebc9678459f004630974b4b53c23b5e25"), looks := false }, kinds := [], alts := [], laidByText := true, laidKinds := [.data, .data], laidTests := true, laidLooks := .later }
def ChainDigitsUptoCardSaid : Prop := Claim7.holds Tryd.pinned (.plain (OpenSpec.upto chainDigitsSpec)) chainDigitsUptoCard

/-- THE SECOND FORM's CARD OF 'sextantlaw12.ChainWalks'. -/
def chainWalksUptoCard : Claim7 := { stood := { row := chainWalksUptoRow, standIns := [], harness := (true, "cc10c78aa054b935acd2c7b1a06999cebc9678459f004630974b4b53c23b5e25"), looks := false }, kinds := [], alts := [], laidByText := true, laidKinds := [.data, .data], laidTests := true, laidLooks := .later }
def ChainWalksUptoCardSaid : Prop := Claim7.holds Tryd.pinned (.plain (OpenSpec.upto chainWalksSpec)) chainWalksUptoCard

/-- THE SECOND FORM's CARD OF 'sextantlaw12.ChainGuards'. -/
def chainGuardsUptoCard : Claim7 := { stood := { row := chainGuardsUptoRow, standIns := [], harness := (true, "cc10c78aa054b935acd2c7b1a06999cebc9678459f004630974b4b53c23b5e25"), looks := false }, kinds := [], alts := [], laidByText := true, laidKinds := [.data, .data], laidTests := true, laidLooks := .later }
def ChainGuardsUptoCardSaid : Prop := Claim7.holds Tryd.pinned (.plain (OpenSpec.upto chainGuardsSpec)) chainGuardsUptoCard

/-- THE SECOND FORM's CARD OF 'sextantlaw12.ChainBack'. -/
def chainBackUptoCard : Claim7 := { stood := { row := chainBackUptoRow, standIns := [], harness := (true, "cc10c78aa054b935acd2c7b1a06999cebc9678459f004630974b4b53c23b5e25"), looks := false }, kinds := [], alts := [], laidByText := true, laidKinds := [.data, .data], laidTests := true, laidLooks := .later }
def ChainBackUptoCardSaid : Prop := Claim7.holds Tryd.pinned (.plain (OpenSpec.upto chainBackSpec)) chainBackUptoCard

/-- THE SECOND FORM's CARD OF 'sextantlaw12.ChainGoes'. -/
def chainGoesUptoCard : Claim7 := { stood := { row := chainGoesUptoRow, standIns := [], harness := (true, "cc10c78aa054b935acd2c7b1a06999cebc9678459f004630974b4b53c23b5e25"), looks := false }, kinds := [], alts := [], laidByText := true, laidKinds := [.data, .data], laidTests := true, laidLooks := .later }
def ChainGoesUptoCardSaid : Prop := Claim7.holds Tryd.pinned (.plain (OpenSpec.upto chainGoesSpec)) chainGoesUptoCard

/-- THE SECOND FORM's CARD OF 'sextantlaw12.ChainKnown'. -/
def chainKnownUptoCard : Claim7 := { stood := { row := chainKnownUptoRow, standIns := [], harness := (true, "cc10c78aa054b935acd2c7b1a06999cebc9678459f004630974b4b53c23b5e25"), looks := false }, kinds := [], alts := [], laidByText := true, laidKinds := [.data, .data], laidTests := true, laidLooks := .later }
def ChainKnownUptoCardSaid : Prop := Claim7.holds Tryd.pinned (.plain (OpenSpec.upto chainKnownSpec)) chainKnownUptoCard
end Rows
end Go.Proofs.YtdobmhbfadijoaaDoor
