/-
  DERIVED. GIVEN WITH THE SEED: THE CARDS: each row of YtmhmcfaalpcngaaDoorRows.lean that lists a variable, with what it lists TIED to the program's text (the seventh form; the later family's looks); each row that meets fmt, with fmt's text TOLD by the authors' own Lean function (tested against real Go, not proved from fmt's source: count such statements apart). THE CARD IS WHAT COUNTS. Prove the row's statement (the work); the ties are given (YtmhmcfaalpcngaaDoorTie.lean); close each card by the builder's one call (the guide's Derived/Test/ToyasCard.lean, 'card_holds'). Laid BY PROGRAM, IN A SANDBOX (cutbox-door.mjs). By AI agents, Wed Nov 11 2026. No macro, syntax, notation, axiom, sorry.
-/
import Derived.Test.YtmhmcfaalpcngaaDoorRows
import GoSem.ClaimSeven
namespace Go.Proofs.YtmhmcfaalpcngaaDoor
namespace Rows

/-- THE TIED CARD OF 'sextantlaw02.DomHashes'. -/
def domHashesCard : Claim7 := { stood := { row := domHashesRow, standIns := [], harness := (true, "cbf4751e9e6befb3ae56d114e0e53c2af9bd8f5f611817fb10a4342336ad5679"), looks := false }, kinds := [], alts := [], laidByText := true, laidKinds := [.data, .data], laidTests := true, laidLooks := .later }
def DomHashesCardSaid : Prop := Claim7.holds Tryd.pinned (.plain (OpenSpec.ofChange domHashesSpec)) domHashesCard

/-- THE TIED CARD OF 'sextantlaw02.DomApart'. -/
def domApartCard : Claim7 := { stood := { row := domApartRow, standIns := [], harness := (true, "cbf4751e9e6befb3ae56d114e0e53c2af9bd8f5f611817fb10a4342336ad5679"), looks := false }, kinds := [], alts := [], laidByText := true, laidKinds := [.data, .data], laidTests := true, laidLooks := .later }
def DomApartCardSaid : Prop := Claim7.holds Tryd.pinned (.plain (OpenSpec.ofChange domApartSpec)) domApartCard

/-- THE TIED CARD OF 'sextantlaw02.DomNumbers'. -/
def domNumbersCard : Claim7 := { stood := { row := domNumbersRow, standIns := [], harness := (true, "cbf4751e9e6befb3ae56d114e0e53c2af9bd8f5f611817fb10a4342336ad5679"), looks := false }, kinds := [], alts := [], laidByText := true, laidKinds := [.data, .data], laidTests := true, laidLooks := .later }
def DomNumbersCardSaid : Prop := Claim7.holds Tryd.pinned (.plain (OpenSpec.ofChange domNumbersSpec)) domNumbersCard

/-- THE TIED CARD OF 'sextantlaw02.DomKnown'. -/
def domKnownCard : Claim7 := { stood := { row := domKnownRow, standIns := [], harness := (true, "cbf4751e9e6befb3ae56d114e0e53c2af9bd8f5f611817fb10a4342336ad5679"), looks := false }, kinds := [], alts := [], laidByText := true, laidKinds := [.data, .data], laidTests := true, laidLooks := .later }
def DomKnownCardSaid : Prop := Claim7.holds Tryd.pinned (.plain (OpenSpec.ofChange domKnownSpec)) domKnownCard

/-- THE SECOND FORM's CARD OF 'sextantlaw02.DomHashes'. -/
def domHashesUptoCard : Claim7 := { stood := { row := domHashesUptoRow, standIns := [], harness := (true, "cbf4751e9e6befb3ae56d114e0e53c2af9bd8f5f611817fb10a4342336ad5679"), looks := false }, kinds := [], alts := [], laidByText := true, laidKinds := [.data, .data], laidTests := true, laidLooks := .later }
def DomHashesUptoCardSaid : Prop := Claim7.holds Tryd.pinned (.plain (OpenSpec.upto domHashesSpec)) domHashesUptoCard

/-- THE SECOND FORM's CARD OF 'sextantlaw02.DomApart'. -/
def domApartUptoCard : Claim7 := { stood := { row := domApartUptoRow, standIns := [], harness := (true, "cbf4751e9e6befb3ae56d114e0e53c2af9bd8f5f611817fb10a4342336ad5679"), looks := false }, kinds := [], alts := [], laidByText := true, laidKinds := [.data, .data], laidTests := true, laidLooks := .later }
def DomApartUptoCardSaid : Prop := Claim7.holds Tryd.pinned (.plain (OpenSpec.upto domApartSpec)) domApartUptoCard

/-- THE SECOND FORM's CARD OF 'sextantlaw02.DomNumbers'. -/
def domNumbersUptoCard : Claim7 := { stood := { row := domNumbersUptoRow, standIns := [], harness := (true, "cbf4751e9e6befb3ae56d114e0e53c2af9bd8f5f611817fb10a4342336ad5679"), looks := false }, kinds := [], alts := [], laidByText := true, laidKinds := [.data, .data], laidTests := true, laidLooks := .later }
def DomNumbersUptoCardSaid : Prop := Claim7.holds Tryd.pinned (.plain (OpenSpec.upto domNumbersSpec)) domNumbersUptoCard

/-- THE SECOND FORM's CARD OF 'sextantlaw02.DomKnown'. -/
def domKnownUptoCard : Claim7 := { stood := { row := domKnownUptoRow, standIns := [], harness := (true, "cbf4751e9e6befb3ae56d114e0e53c2af9bd8f5f611817fb10a4342336ad5679"), looks := false }, kinds := [], alts := [], laidByText := true, laidKinds := [.data, .data], laidTests := true, laidLooks := .later }
def DomKnownUptoCardSaid : Prop := Claim7.holds Tryd.pinned (.plain (OpenSpec.upto domKnownSpec)) domKnownUptoCard
end Rows
end Go.Proofs.YtmhmcfaalpcngaaDoor
