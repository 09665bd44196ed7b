/-
  DERIVED. GIVEN WITH THE SEED: THE CARDS: each row of YtblimejnjboedaaGreatDoorRows.lean that lists a variable, with what it lists TIED to the program's text (the seventh form; the later family's looks); each row that meets fmt, with fmt's text TOLD by the authors' own Lean function (tested against real Go, not proved from fmt's source: count such statements apart). THE CARD IS WHAT COUNTS. Prove the row's statement (the work); the ties are given (YtblimejnjboedaaGreatDoorTie.lean); close each card by the builder's one call (the guide's Derived/Test/ToyasCard.lean, 'card_holds'). Laid BY PROGRAM, IN A SANDBOX (cutbox-door.mjs). By AI agents, Wed Nov 11 2026. No macro, syntax, notation, axiom, sorry.
-/
import Derived.Test.YtblimejnjboedaaGreatDoorRows
import GoSem.ClaimSeven
namespace Go.Proofs.YtblimejnjboedaaGreatDoor
namespace Rows

/-- THE TIED CARD OF 'sextantlaw11.ProofChecks'. -/
def proofChecksCard : Claim7 := { stood := { row := proofChecksRow, standIns := [], harness := (true, "6a177b235d518b5ade6502160d149b5a9226a7c4274e2bdeeb9a83703b7ebae0"), looks := false }, kinds := [], alts := [], laidByText := true, laidKinds := [.data, .data], laidTests := true, laidLooks := .later }
def ProofChecksCardSaid : Prop := Claim7.holds Tryz.pinned (.plain (OpenSpec.ofChange proofChecksSpec)) proofChecksCard

/-- THE TIED CARD OF 'sextantlaw11.ProofBack'. -/
def proofBackCard : Claim7 := { stood := { row := proofBackRow, standIns := [], harness := (true, "6a177b235d518b5ade6502160d149b5a9226a7c4274e2bdeeb9a83703b7ebae0"), looks := false }, kinds := [], alts := [], laidByText := true, laidKinds := [.data, .data], laidTests := true, laidLooks := .later }
def ProofBackCardSaid : Prop := Claim7.holds Tryz.pinned (.plain (OpenSpec.ofChange proofBackSpec)) proofBackCard

/-- THE TIED CARD OF 'sextantlaw11.ProofExact'. -/
def proofExactCard : Claim7 := { stood := { row := proofExactRow, standIns := [], harness := (true, "6a177b235d518b5ade6502160d149b5a9226a7c4274e2bdeeb9a83703b7ebae0"), looks := false }, kinds := [], alts := [], laidByText := true, laidKinds := [.data, .data], laidTests := true, laidLooks := .later }
def ProofExactCardSaid : Prop := Claim7.holds Tryz.pinned (.plain (OpenSpec.ofChange proofExactSpec)) proofExactCard

/-- THE SECOND FORM's CARD OF 'sextantlaw11.ProofChecks'. -/
def proofChecksUptoCard : Claim7 := { stood := { row := proofChecksUptoRow, standIns := [], harness := (true, "6a177b235d518b5ade6502160d149b5a9226a7c4274e2bdeeb9a83703b7ebae0"), looks := false }, kinds := [], alts := [], laidByText := true, laidKinds := [.data, .data], laidTests := true, laidLooks := .later }
def ProofChecksUptoCardSaid : Prop := Claim7.holds Tryz.pinned (.plain (OpenSpec.upto proofChecksSpec)) proofChecksUptoCard

/-- THE SECOND FORM's CARD OF 'sextantlaw11.ProofBack'. -/
def proofBackUptoCard : Claim7 := { stood := { row := proofBackUptoRow, standIns := [], harness := (true, "6a177b235d518b5ade6502160d149b5a9226a7c4274e2bdeeb9a83703b7ebae0"), looks := false }, kinds := [], alts := [], laidByText := true, laidKinds := [.data, .data], laidTests := true, laidLooks := .later }
def ProofBackUptoCardSaid : Prop := Claim7.holds Tryz.pinned (.plain (OpenSpec.upto proofBackSpec)) proofBackUptoCard

/-- THE SECOND FORM's CARD OF 'sextantlaw11.ProofExact'. -/
def proofExactUptoCard : Claim7 := { stood := { row := proofExactUptoRow, standIns := [], harness := (true, "6a177b235d518b5ade6502160d149b5a9226a7c4274e2bdeeb9a83703b7ebae0"), looks := false }, kinds := [], alts := [], laidByText := true, laidKinds := [.data, .data], laidTests := true, laidLooks := .later }
def ProofExactUptoCardSaid : Prop := Claim7.holds Tryz.pinned (.plain (OpenSpec.upto proofExactSpec)) proofExactUptoCard
end Rows
end Go.Proofs.YtblimejnjboedaaGreatDoor
