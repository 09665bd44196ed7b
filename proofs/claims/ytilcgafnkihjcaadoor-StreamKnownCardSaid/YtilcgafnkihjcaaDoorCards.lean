/-
  DERIVED. GIVEN WITH THE SEED: THE CARDS: each row of YtilcgafnkihjcaaDoorRows.lean that lists a variable, with what it lists TIED to the program's text (the seventh form; the later family's looks); each row that meets fmt, with fmt's text TOLD by the authors' own Lean function (tested against real Go, not proved from fmt's source: count such statements apart). THE CARD IS WHAT COUNTS. Prove the row's statement (the work); the ties are given (YtilcgafnkihjcaaDoorTie.lean); close each card by the builder's one call (the guide's Derived/Test/ToyasCard.lean, 'card_holds'). Laid BY PROGRAM, IN A SANDBOX (cutbox-door.mjs). By AI agents, Wed Nov 11 2026. No macro, syntax, notation, axiom, sorry.
-/
import Derived.Test.YtilcgafnkihjcaaDoorRows
import GoSem.ClaimSeven
namespace Go.Proofs.YtilcgafnkihjcaaDoor
namespace Rows

/-- THE TIED CARD OF 'sextantlaw03.StreamDraws'. -/
def streamDrawsCard : Claim7 := { stood := { row := streamDrawsRow, standIns := [], harness := (true, "28d46967fc98c24a9077b6904188eb9e54e156a04f2b55e243432dc29890136a"), looks := false }, kinds := [], alts := [], laidByText := true, laidKinds := [.data, .data], laidTests := true, laidLooks := .later }
def StreamDrawsCardSaid : Prop := Claim7.holds Tryd.pinned (.plain (OpenSpec.ofChange streamDrawsSpec)) streamDrawsCard

/-- THE TIED CARD OF 'sextantlaw03.StreamPieces'. -/
def streamPiecesCard : Claim7 := { stood := { row := streamPiecesRow, standIns := [], harness := (true, "28d46967fc98c24a9077b6904188eb9e54e156a04f2b55e243432dc29890136a"), looks := false }, kinds := [], alts := [], laidByText := true, laidKinds := [.data, .data], laidTests := true, laidLooks := .later }
def StreamPiecesCardSaid : Prop := Claim7.holds Tryd.pinned (.plain (OpenSpec.ofChange streamPiecesSpec)) streamPiecesCard

/-- THE TIED CARD OF 'sextantlaw03.StreamBelow'. -/
def streamBelowCard : Claim7 := { stood := { row := streamBelowRow, standIns := [], harness := (true, "28d46967fc98c24a9077b6904188eb9e54e156a04f2b55e243432dc29890136a"), looks := false }, kinds := [], alts := [], laidByText := true, laidKinds := [.data, .data], laidTests := true, laidLooks := .later }
def StreamBelowCardSaid : Prop := Claim7.holds Tryd.pinned (.plain (OpenSpec.ofChange streamBelowSpec)) streamBelowCard

/-- THE TIED CARD OF 'sextantlaw03.StreamKnown'. -/
def streamKnownCard : Claim7 := { stood := { row := streamKnownRow, standIns := [], harness := (true, "28d46967fc98c24a9077b6904188eb9e54e156a04f2b55e243432dc29890136a"), looks := false }, kinds := [], alts := [], laidByText := true, laidKinds := [.data, .data], laidTests := true, laidLooks := .later }
def StreamKnownCardSaid : Prop := Claim7.holds Tryd.pinned (.plain (OpenSpec.ofChange streamKnownSpec)) streamKnownCard

/-- THE SECOND FORM's CARD OF 'sextantlaw03.StreamDraws'. -/
def streamDrawsUptoCard : Claim7 := { stood := { row := streamDrawsUptoRow, standIns := [], harness := (true, "28d46967fc98c24a9077b6904188eb9e54e156a04f2b55e243432dc29890136a"), looks := false }, kinds := [], alts := [], laidByText := true, laidKinds := [.data, .data], laidTests := true, laidLooks := .later }
def StreamDrawsUptoCardSaid : Prop := Claim7.holds Tryd.pinned (.plain (OpenSpec.upto streamDrawsSpec)) streamDrawsUptoCard

/-- THE SECOND FORM's CARD OF 'sextantlaw03.StreamPieces'. -/
def streamPiecesUptoCard : Claim7 := { stood := { row := streamPiecesUptoRow, standIns := [], harness := (true, "28d46967fc98c24a9077b6904188eb9e54e156a04f2b55e243432dc29890136a"), looks := false }, kinds := [], alts := [], laidByText := true, laidKinds := [.data, .data], laidTests := true, laidLooks := .later }
def StreamPiecesUptoCardSaid : Prop := Claim7.holds Tryd.pinned (.plain (OpenSpec.upto streamPiecesSpec)) streamPiecesUptoCard

/-- THE SECOND FORM's CARD OF 'sextantlaw03.StreamBelow'. -/
def streamBelowUptoCard : Claim7 := { stood := { row := streamBelowUptoRow, standIns := [], harness := (true, "28d46967fc98c24a9077b6904188eb9e54e156a04f2b55e243432dc29890136a"), looks := false }, kinds := [], alts := [], laidByText := true, laidKinds := [.data, .data], laidTests := true, laidLooks := .later }
def StreamBelowUptoCardSaid : Prop := Claim7.holds Tryd.pinned (.plain (OpenSpec.upto streamBelowSpec)) streamBelowUptoCard

/-- THE SECOND FORM's CARD OF 'sextantlaw03.StreamKnown'. -/
def streamKnownUptoCard : Claim7 := { stood := { row := streamKnownUptoRow, standIns := [], harness := (true, "28d46967fc98c24a9077b6904188eb9e54e156a04f2b55e243432dc29890136a"), looks := false }, kinds := [], alts := [], laidByText := true, laidKinds := [.data, .data], laidTests := true, laidLooks := .later }
def StreamKnownUptoCardSaid : Prop := Claim7.holds Tryd.pinned (.plain (OpenSpec.upto streamKnownSpec)) streamKnownUptoCard
end Rows
end Go.Proofs.YtilcgafnkihjcaaDoor
