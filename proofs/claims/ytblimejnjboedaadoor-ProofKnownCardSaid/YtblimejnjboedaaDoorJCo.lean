/- What the cards share: a text read and laid again; a list of texts that came in. -/
import Derived.Test.YtblimejnjboedaaDoorJTn
import Derived.Test.YtblimejnjboedaaDoorJ4
import Derived.Test.YtblimejnjboedaaDoorJBe
namespace Go.Proofs.YtblimejnjboedaaDoor
open Go.ChangeShapes Go.WideShapes Go.ChangeAt Go.RowKit

theorem laidOut : laidOutB Tryd.prog = true := by kernel_rfl
end Go.Proofs.YtblimejnjboedaaDoor
