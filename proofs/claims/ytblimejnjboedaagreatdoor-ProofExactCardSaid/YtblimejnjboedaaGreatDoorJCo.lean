/- What the cards share: a text read and laid again; a list of texts that came in. -/
import Derived.Test.YtblimejnjboedaaGreatDoorJTn
import Derived.Test.YtblimejnjboedaaGreatDoorJ4
import Derived.Test.YtblimejnjboedaaGreatDoorJBe
namespace Go.Proofs.YtblimejnjboedaaGreatDoor
open Go.ChangeShapes Go.WideShapes Go.ChangeAt Go.RowKit

theorem laidOut : laidOutB Tryz.prog = true := by kernel_rfl
end Go.Proofs.YtblimejnjboedaaGreatDoor
