/- The law's cut. -/
import Derived.Test.YtpbbpkflljcklaaDoorJXf
namespace Go.Proofs.YtpbbpkflljcklaaDoor
open Go.RowKit

set_option maxRecDepth 100000 in
set_option maxHeartbeats 1000000 in
theorem lcut_any (s : (List UInt8)) (n : Nat) (w : World) (_hs : s.length ≤ maxLen) :
    Calls Tryd.prog 16 #[.agg #[.string ⟨s.toArray⟩, .int .u64 (n : Int)]] w fun e w' => e = .returned (.agg #[.string ⟨(s.take 100).toArray⟩, .int .u64 (n : Int)]) ∧ Below w.heap.size w w' := by
  obtain ⟨m, hm1, hm2, hm3⟩ := extract_take s 100
  rw [show ((100 : Nat) : Int) = 100 from rfl] at hm1
  have m0 : (0 : Int) ≤ (m : Int) := by omega
  have m1 : (m : Int) ≤ (s.length : Int) := by omega
  generalize s.take 100 = t at *
  go_enter Tryd.func16, Tryd.ntmps16
  go_wp2
  have hz : ((w.alloc (.cells #[.string ⟨t.toArray⟩, .int .u64 (n : Int)] 24)).alloc (.cells #[.string ⟨t.toArray⟩, .int .u64 (n : Int)] 24)).heap[w.heap.size + 1]? = some (.cells #[.string ⟨t.toArray⟩, .int .u64 (n : Int)] 24 (0, 0)) := by
    rw [show w.heap.size + 1 = (w.alloc (.cells #[.string ⟨t.toArray⟩, .int .u64 (n : Int)] 24)).heap.size by simp]; exact heap_alloc_new _ _
  have v0 := (lit_cell hz 0).trans rfl
  have v1 := (lit_cell hz 1).trans rfl
  refine bodyPost_ret (v := .agg #[.string ⟨t.toArray⟩, .int .u64 (n : Int)]) (by simp [results, Tryd.results16, go_sem, v0, v1]) rfl ⟨rfl, (by0 w _).alloc (by simp) _⟩
end Go.Proofs.YtpbbpkflljcklaaDoor
