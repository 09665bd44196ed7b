/- A cell is kept. -/
import Derived.Test.YtpbbpkflljcklaaDoorJ1
namespace Go.Proofs.YtpbbpkflljcklaaDoor
open Go.RowKit

theorem key_keep {W w8 : World} (hb : Below W.heap.size W w8) {n o : Nat} {v : Value} (h : W.cell? ⟨n, o, none⟩ = some v) : w8.cell? ⟨n, o, none⟩ = some v := (World.cell?_of_block (hb.block _ (World.block_lt_of_cell? W _ h))).trans h
end Go.Proofs.YtpbbpkflljcklaaDoor
