/- What the cards share: a text read and laid again; a list of texts that came in. -/
import Derived.Test.YtpbbpkflljcklaaDoorJTn
import Derived.Test.YtpbbpkflljcklaaDoorJ2
import Derived.Test.YtpbbpkflljcklaaDoorJBe
namespace Go.Proofs.YtpbbpkflljcklaaDoor
open Go.ChangeShapes Go.WideShapes Go.ChangeAt Go.RowKit

theorem laidOut : laidOutB Tryd.prog = true := by kernel_rfl
end Go.Proofs.YtpbbpkflljcklaaDoor
