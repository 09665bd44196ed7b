/- What the cards share: a text read and laid again; a list of texts that came in. -/
import Derived.Test.YtmnklonoelpidaaGreatDoorJTn
import Derived.Test.YtmnklonoelpidaaGreatDoorJ7
import Derived.Test.YtmnklonoelpidaaGreatDoorJBe
namespace Go.Proofs.YtmnklonoelpidaaGreatDoor
open Go.ChangeShapes Go.WideShapes Go.ChangeAt Go.RowKit

theorem laidOut : laidOutB Tryz.prog = true := by kernel_rfl
end Go.Proofs.YtmnklonoelpidaaGreatDoor
