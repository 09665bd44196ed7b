/- The sum at once. -/
import Derived.Test.YtdobmhbfadijoaaDoorTi
namespace Go.Proofs.YtdobmhbfadijoaaDoor
open Go.RowKit

set_option maxHeartbeats 400000 in
theorem shaSum_any (S : List UInt8) (w : World) (hg : Glob w) (hlen : S.length < 100000000000) :
    Calls Tryd.prog 22 #[.string ⟨S.toArray⟩] w fun e w' => e = .returned (.string ⟨(shaL S).toArray⟩) ∧ Below w.heap.size w w' := by
  have hsz := hg.size
  go_enter Tryd.func22, Tryd.ntmps22
  go_wp2_with fail
  refine (new_any w hg).mono ?_
  rintro e w1 ⟨rfl, hH1, hB1⟩
  have hG1 : Glob w1 := hg.below (by omega) hB1
  go_wp2_with fail
  refine (write_any w.heap.size [] S w1 hH1 hG1 (by omega) (by simp; omega)).mono ?_
  rintro e w2 ⟨rfl, hH2, hB2⟩
  rw [List.nil_append] at hH2
  have hB12 : Below w.heap.size w w2 := hB1.trans (hB2.below hB1.size (Nat.le_refl _))
  have hG2 : Glob w2 := hg.below (by omega) hB12
  go_wp2_with fail
  refine (sum_any w.heap.size S w2 hH2 hG2 (by omega)).mono ?_
  rintro e w3 ⟨rfl, hB3⟩
  go_wp2
  go_ret
  exact ⟨rfl, hB12.trans (hB3.mono (by have := hB12.size; omega))⟩
end Go.Proofs.YtdobmhbfadijoaaDoor
