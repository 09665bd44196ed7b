/- What the cards share: a text read and laid again; a list of texts that came in. -/
import Derived.Test.YtjfhcckadibhgaaDoorTn
import Derived.Test.YtjfhcckadibhgaaDoorDb
import Derived.Test.YtjfhcckadibhgaaDoorBe
namespace Go.Proofs.YtjfhcckadibhgaaDoor
open Go.ChangeShapes Go.WideShapes Go.ChangeAt Go.RowKit

theorem laidOut : laidOutB Tryd.prog = true := by kernel_rfl
end Go.Proofs.YtjfhcckadibhgaaDoor
