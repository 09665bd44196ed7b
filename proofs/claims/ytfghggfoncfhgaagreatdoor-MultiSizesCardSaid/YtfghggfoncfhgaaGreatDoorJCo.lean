/- What the cards share: a text read and laid again; a list of texts that came in. -/
import Derived.Test.YtfghggfoncfhgaaGreatDoorJTn
import Derived.Test.YtfghggfoncfhgaaGreatDoorJ4
import Derived.Test.YtfghggfoncfhgaaGreatDoorJBe
namespace Go.Proofs.YtfghggfoncfhgaaGreatDoor
open Go.ChangeShapes Go.WideShapes Go.ChangeAt Go.RowKit

theorem laidOut : laidOutB Tryz.prog = true := by kernel_rfl
end Go.Proofs.YtfghggfoncfhgaaGreatDoor
