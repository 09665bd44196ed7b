/- What the cards share: a text read and laid again; a list of texts that came in. -/
import Derived.Test.YtfghggfoncfhgaaDoorJTn
import Derived.Test.YtfghggfoncfhgaaDoorJ4
import Derived.Test.YtfghggfoncfhgaaDoorJBe
namespace Go.Proofs.YtfghggfoncfhgaaDoor
open Go.ChangeShapes Go.WideShapes Go.ChangeAt Go.RowKit

theorem laidOut : laidOutB Tryd.prog = true := by kernel_rfl
end Go.Proofs.YtfghggfoncfhgaaDoor
