/-
  DERIVED. GIVEN WITH THE SEED: THE CARDS: each row of YtpbbpkflljcklaaDoorRows.lean that lists a variable, with what it lists TIED to the program's text (the seventh form; the later family's looks); each row that meets fmt, with fmt's text TOLD by the authors' own Lean function (tested against real Go, not proved from fmt's source: count such statements apart). THE CARD IS WHAT COUNTS. Prove the row's statement (the work); the ties are given (YtpbbpkflljcklaaDoorTie.lean); close each card by the builder's one call (the guide's Derived/Test/ToyasCard.lean, 'card_holds'). Laid BY PROGRAM, IN A SANDBOX (cutbox-door.mjs). By AI agents, Wed Nov 11 2026. No macro, syntax, notation, axiom, sorry.
-/
import Derived.Test.YtpbbpkflljcklaaDoorRows
import GoSem.ClaimSeven
namespace Go.Proofs.YtpbbpkflljcklaaDoor
namespace Rows

/-- THE TIED CARD OF 'sextantlaw13.WotsSigns'. -/
def wotsSignsCard : Claim7 := { stood := { row := wotsSignsRow, standIns := [], harness := (true, "d65f3388f1820cf1ff8466943f74e578a19d4155a51247c2f65091aa4be6e03c"), looks := false }, kinds := [], alts := [], laidByText := true, laidKinds := [.data, .data], laidTests := true, laidLooks := .later }
def WotsSignsCardSaid : Prop := Claim7.holds Tryd.pinned (.plain (OpenSpec.ofChange wotsSignsSpec)) wotsSignsCard

/-- THE TIED CARD OF 'sextantlaw13.WotsRecovers'. -/
def wotsRecoversCard : Claim7 := { stood := { row := wotsRecoversRow, standIns := [], harness := (true, "d65f3388f1820cf1ff8466943f74e578a19d4155a51247c2f65091aa4be6e03c"), looks := false }, kinds := [], alts := [], laidByText := true, laidKinds := [.data, .data], laidTests := true, laidLooks := .later }
def WotsRecoversCardSaid : Prop := Claim7.holds Tryd.pinned (.plain (OpenSpec.ofChange wotsRecoversSpec)) wotsRecoversCard

/-- THE TIED CARD OF 'sextantlaw13.WotsBack'. -/
def wotsBackCard : Claim7 := { stood := { row := wotsBackRow, standIns := [], harness := (true, "d65f3388f1820cf1ff8466943f74e578a19d4155a51247c2f65091aa4be6e03c"), looks := false }, kinds := [], alts := [], laidByText := true, laidKinds := [.data, .data], laidTests := true, laidLooks := .later }
def WotsBackCardSaid : Prop := Claim7.holds Tryd.pinned (.plain (OpenSpec.ofChange wotsBackSpec)) wotsBackCard

/-- THE TIED CARD OF 'sextantlaw13.WotsOne'. -/
def wotsOneCard : Claim7 := { stood := { row := wotsOneRow, standIns := [], harness := (true, "d65f3388f1820cf1ff8466943f74e578a19d4155a51247c2f65091aa4be6e03c"), looks := false }, kinds := [], alts := [], laidByText := true, laidKinds := [.data, .data], laidTests := true, laidLooks := .later }
def WotsOneCardSaid : Prop := Claim7.holds Tryd.pinned (.plain (OpenSpec.ofChange wotsOneSpec)) wotsOneCard

/-- THE TIED CARD OF 'sextantlaw13.WotsKnown'. -/
def wotsKnownCard : Claim7 := { stood := { row := wotsKnownRow, standIns := [], harness := (true, "d65f3388f1820cf1ff8466943f74e578a19d4155a51247c2f65091aa4be6e03c"), looks := false }, kinds := [], alts := [], laidByText := true, laidKinds := [.data, .data], laidTests := true, laidLooks := .later }
def WotsKnownCardSaid : Prop := Claim7.holds Tryd.pinned (.plain (OpenSpec.ofChange wotsKnownSpec)) wotsKnownCard

/-- THE SECOND FORM's CARD OF 'sextantlaw13.WotsSigns'. -/
def wotsSignsUptoCard : Claim7 := { stood := { row := wotsSignsUptoRow, standIns := [], harness := (true, "d65f3388f1820cf1ff8466943f74e578a19d4155a51247c2f65091aa4be6e03c"), looks := false }, kinds := [], alts := [], laidByText := true, laidKinds := [.data, .data], laidTests := true, laidLooks := .later }
def WotsSignsUptoCardSaid : Prop := Claim7.holds Tryd.pinned (.plain (OpenSpec.upto wotsSignsSpec)) wotsSignsUptoCard

/-- THE SECOND FORM's CARD OF 'sextantlaw13.WotsRecovers'. -/
def wotsRecoversUptoCard : Claim7 := { stood := { row := wotsRecoversUptoRow, standIns := [], harness := (true, "d65f3388f1820cf1ff8466943f74e578a19d4155a51247c2f65091aa4be6e03c"), looks := false }, kinds := [], alts := [], laidByText := true, laidKinds := [.data, .data], laidTests := true, laidLooks := .later }
def WotsRecoversUptoCardSaid : Prop := Claim7.holds Tryd.pinned (.plain (OpenSpec.upto wotsRecoversSpec)) wotsRecoversUptoCard

/-- THE SECOND FORM's CARD OF 'sextantlaw13.WotsBack'. -/
def wotsBackUptoCard : Claim7 := { stood := { row := wotsBackUptoRow, standIns := [], harness := (true, "d65f3388f1820cf1ff8466943f74e578a19d4155a51247c2f65091aa4be6e03c"), looks := false }, kinds := [], alts := [], laidByText := true, laidKinds := [.data, .data], laidTests := true, laidLooks := .later }
def WotsBackUptoCardSaid : Prop := Claim7.holds Tryd.pinned (.plain (OpenSpec.upto wotsBackSpec)) wotsBackUptoCard

/-- THE SECOND FORM's CARD OF 'sextantlaw13.WotsOne'. -/
def wotsOneUptoCard : Claim7 := { stood := { row := wotsOneUptoRow, standIns := [], harness := (true, "d65f3388f1820cf1ff8466943f74e578a19d4155a51247c2f65091aa4be6e03c"), looks := false }, kinds := [], alts := [], laidByText := true, laidKinds := [.data, .data], laidTests := true, laidLooks := .later }
def WotsOneUptoCardSaid : Prop := Claim7.holds Tryd.pinned (.plain (OpenSpec.upto wotsOneSpec)) wotsOneUptoCard

/-- THE SECOND FORM's CARD OF 'sextantlaw13.WotsKnown'. -/
def wotsKnownUptoCard : Claim7 := { stood := { row := wotsKnownUptoRow, standIns := [], harness := (true, "d65f3388f1820cf1ff8466943f74e578a19d4155a51247c2f65091aa4be6e03c"), looks := false }, kinds := [], alts := [], laidByText := true, laidKinds := [.data, .data], laidTests := true, laidLooks := .later }
def WotsKnownUptoCardSaid : Prop := Claim7.holds Tryd.pinned (.plain (OpenSpec.upto wotsKnownSpec)) wotsKnownUptoCard
end Rows
end Go.Proofs.YtpbbpkflljcklaaDoor
