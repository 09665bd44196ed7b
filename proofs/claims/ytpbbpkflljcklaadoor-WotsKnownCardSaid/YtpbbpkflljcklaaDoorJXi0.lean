/- What the walks of wots' laws keep; what the law's works answers. -/
import Derived.Test.YtpbbpkflljcklaaDoorJXf
namespace Go.Proofs.YtpbbpkflljcklaaDoor
open Go.RowKit

/-- what a walk keeps: its key, in a box -/
structure W13 (w0 : World) (cs : Array Value) (wz : World) : Prop where
  o : Below w0.heap.size w0 wz
  x : wz.heap[w0.heap.size]? = some (.cells cs 24 (0, 0))
theorem W13.next {w0 wz wa : World} {cs : Array Value} (h : W13 w0 cs wz) (hb : Below wz.heap.size wz wa) : W13 w0 cs wa := ⟨h.o.trans (hb.mono h.o.size), (hb.block _ (lit_lt h.x)).trans h.x⟩
theorem W13.start (w : World) (cs : Array Value) : W13 w cs (w.alloc (.cells cs 24)) := ⟨by0 w _, heap_alloc_new w _⟩
theorem W13.drew {w0 wz : World} {cs : Array Value} (h : W13 w0 cs wz) : W13 w0 cs wz.drew := h.next (Below.refl _ _).drew
theorem W13.get {w0 wz : World} {k n : Value} (h : W13 w0 #[k, n] wz) : wz.cell? ⟨w0.heap.size, 0, none⟩ = some k ∧ wz.cell? ⟨w0.heap.size, 1, none⟩ = some n := ⟨(lit_cell h.x 0).trans rfl, (lit_cell h.x 1).trans rfl⟩
/-- what the law's works answers -/
def WorksW : Prop := ∀ w : World, Glob w → Calls Tryd.prog 13 #[] w fun e w' => e = .returned (.bool true) ∧ Below w.heap.size w w'
end Go.Proofs.YtpbbpkflljcklaaDoor
