/-
  DERIVED. GIVEN WITH THE SEED: THE CARDS: each row of YtmnklonoelpidaaGreatDoorRows.lean that lists a variable, with what it lists TIED to the program's text (the seventh form; the later family's looks); each row that meets fmt, with fmt's text TOLD by the authors' own Lean function (tested against real Go, not proved from fmt's source: count such statements apart). THE CARD IS WHAT COUNTS. Prove the row's statement (the work); the ties are given (YtmnklonoelpidaaGreatDoorTie.lean); close each card by the builder's one call (the guide's Derived/Test/ToyasCard.lean, 'card_holds'). Laid BY PROGRAM, IN A SANDBOX (cutbox-door.mjs). By AI agents, Wed Nov 11 2026. No macro, syntax, notation, axiom, sorry.
-/
import Derived.Test.YtmnklonoelpidaaGreatDoorRows
import GoSem.ClaimSeven
namespace Go.Proofs.YtmnklonoelpidaaGreatDoor
namespace Rows

/-- THE TIED CARD OF 'sextantlaw14.LadderSigns'. -/
def ladderSignsCard : Claim7 := { stood := { row := ladderSignsRow, standIns := [], harness := (true, "7cfd02a69decec6f13f3c61ee5135877fb88c29142c3829365a42e58abfdc183"), looks := false }, kinds := [], alts := [], laidByText := true, laidKinds := [.data, .data], laidTests := true, laidLooks := .later }
def LadderSignsCardSaid : Prop := Claim7.holds Tryz.pinned (.plain (OpenSpec.ofChange ladderSignsSpec)) ladderSignsCard

/-- THE TIED CARD OF 'sextantlaw14.LadderVerifies'. -/
def ladderVerifiesCard : Claim7 := { stood := { row := ladderVerifiesRow, standIns := [], harness := (true, "7cfd02a69decec6f13f3c61ee5135877fb88c29142c3829365a42e58abfdc183"), looks := false }, kinds := [], alts := [], laidByText := true, laidKinds := [.data, .data], laidTests := true, laidLooks := .later }
def LadderVerifiesCardSaid : Prop := Claim7.holds Tryz.pinned (.plain (OpenSpec.ofChange ladderVerifiesSpec)) ladderVerifiesCard

/-- THE TIED CARD OF 'sextantlaw14.LadderHolds'. -/
def ladderHoldsCard : Claim7 := { stood := { row := ladderHoldsRow, standIns := [], harness := (true, "7cfd02a69decec6f13f3c61ee5135877fb88c29142c3829365a42e58abfdc183"), looks := false }, kinds := [], alts := [], laidByText := true, laidKinds := [.data, .data], laidTests := true, laidLooks := .later }
def LadderHoldsCardSaid : Prop := Claim7.holds Tryz.pinned (.plain (OpenSpec.ofChange ladderHoldsSpec)) ladderHoldsCard

/-- THE TIED CARD OF 'sextantlaw14.LadderKeys'. -/
def ladderKeysCard : Claim7 := { stood := { row := ladderKeysRow, standIns := [], harness := (true, "7cfd02a69decec6f13f3c61ee5135877fb88c29142c3829365a42e58abfdc183"), looks := false }, kinds := [], alts := [], laidByText := true, laidKinds := [.data, .data], laidTests := true, laidLooks := .later }
def LadderKeysCardSaid : Prop := Claim7.holds Tryz.pinned (.plain (OpenSpec.ofChange ladderKeysSpec)) ladderKeysCard

/-- THE TIED CARD OF 'sextantlaw14.LadderKnown'. -/
def ladderKnownCard : Claim7 := { stood := { row := ladderKnownRow, standIns := [], harness := (true, "7cfd02a69decec6f13f3c61ee5135877fb88c29142c3829365a42e58abfdc183"), looks := false }, kinds := [], alts := [], laidByText := true, laidKinds := [.data, .data], laidTests := true, laidLooks := .later }
def LadderKnownCardSaid : Prop := Claim7.holds Tryz.pinned (.plain (OpenSpec.ofChange ladderKnownSpec)) ladderKnownCard

/-- THE SECOND FORM's CARD OF 'sextantlaw14.LadderSigns'. -/
def ladderSignsUptoCard : Claim7 := { stood := { row := ladderSignsUptoRow, standIns := [], harness := (true, "7cfd02a69decec6f13f3c61ee5135877fb88c29142c3829365a42e58abfdc183"), looks := false }, kinds := [], alts := [], laidByText := true, laidKinds := [.data, .data], laidTests := true, laidLooks := .later }
def LadderSignsUptoCardSaid : Prop := Claim7.holds Tryz.pinned (.plain (OpenSpec.upto ladderSignsSpec)) ladderSignsUptoCard

/-- THE SECOND FORM's CARD OF 'sextantlaw14.LadderVerifies'. -/
def ladderVerifiesUptoCard : Claim7 := { stood := { row := ladderVerifiesUptoRow, standIns := [], harness := (true, "7cfd02a69decec6f13f3c61ee5135877fb88c29142c3829365a42e58abfdc183"), looks := false }, kinds := [], alts := [], laidByText := true, laidKinds := [.data, .data], laidTests := true, laidLooks := .later }
def LadderVerifiesUptoCardSaid : Prop := Claim7.holds Tryz.pinned (.plain (OpenSpec.upto ladderVerifiesSpec)) ladderVerifiesUptoCard

/-- THE SECOND FORM's CARD OF 'sextantlaw14.LadderHolds'. -/
def ladderHoldsUptoCard : Claim7 := { stood := { row := ladderHoldsUptoRow, standIns := [], harness := (true, "7cfd02a69decec6f13f3c61ee5135877fb88c29142c3829365a42e58abfdc183"), looks := false }, kinds := [], alts := [], laidByText := true, laidKinds := [.data, .data], laidTests := true, laidLooks := .later }
def LadderHoldsUptoCardSaid : Prop := Claim7.holds Tryz.pinned (.plain (OpenSpec.upto ladderHoldsSpec)) ladderHoldsUptoCard

/-- THE SECOND FORM's CARD OF 'sextantlaw14.LadderKeys'. -/
def ladderKeysUptoCard : Claim7 := { stood := { row := ladderKeysUptoRow, standIns := [], harness := (true, "7cfd02a69decec6f13f3c61ee5135877fb88c29142c3829365a42e58abfdc183"), looks := false }, kinds := [], alts := [], laidByText := true, laidKinds := [.data, .data], laidTests := true, laidLooks := .later }
def LadderKeysUptoCardSaid : Prop := Claim7.holds Tryz.pinned (.plain (OpenSpec.upto ladderKeysSpec)) ladderKeysUptoCard

/-- THE SECOND FORM's CARD OF 'sextantlaw14.LadderKnown'. -/
def ladderKnownUptoCard : Claim7 := { stood := { row := ladderKnownUptoRow, standIns := [], harness := (true, "7cfd02a69decec6f13f3c61ee5135877fb88c29142c3829365a42e58abfdc183"), looks := false }, kinds := [], alts := [], laidByText := true, laidKinds := [.data, .data], laidTests := true, laidLooks := .later }
def LadderKnownUptoCardSaid : Prop := Claim7.holds Tryz.pinned (.plain (OpenSpec.upto ladderKnownSpec)) ladderKnownUptoCard
end Rows
end Go.Proofs.YtmnklonoelpidaaGreatDoor
