/- What the cards share: a text read and laid again; a list of texts that came in. -/
import Derived.Test.YtdobmhbfadijoaaDoorTn
import Derived.Test.YtdobmhbfadijoaaDoorDb
import Derived.Test.YtdobmhbfadijoaaDoorBe
namespace Go.Proofs.YtdobmhbfadijoaaDoor
open Go.ChangeShapes Go.WideShapes Go.ChangeAt Go.RowKit

theorem laidOut : laidOutB Tryd.prog = true := by kernel_rfl
end Go.Proofs.YtdobmhbfadijoaaDoor
