/- strings.HasPrefix and strings.Repeat, by the shelf's contracts. -/
import Derived.Test.YtgdlfbphfogphaaDoorPs
import Derived.Test.YtgdlfbphfogphaaDoorPn
import Derived.Test.YtgdlfbphfogphaaDoorShelf
namespace Go.Proofs.YtgdlfbphfogphaaDoor
open Go.RowKit

theorem prefix_c : PrefixC := by
  intro t s w
  refine (Tryd.strings_HasPrefix ⟨t.toArray⟩ ⟨s.toArray⟩ w).mono ?_
  rintro e w' ⟨rfl, rfl⟩
  refine ⟨?_, rfl⟩
  have k : s.isPrefixOf t = decide (s <+: t) := by rw [Bool.eq_iff_iff, List.isPrefixOf_iff_prefix, decide_eq_true_eq]
  rw [← k]
  rfl
theorem repeatL_one (c : UInt8) (k : Nat) : Lib.repeatL [c] k = List.replicate k c := by
  induction k with
  | zero => rfl
  | succ n ih => rw [List.replicate_succ, ← ih]; rfl
theorem repeat_c : RepeatC := by
  intro c k w hk
  refine (Tryd.strings_Repeat ⟨#[c]⟩ k w (by omega) (by show 1 * k ≤ _; omega)).mono ?_
  rintro e w' ⟨rfl, hb⟩
  refine ⟨?_, hb⟩
  have e1 : ((⟨#[c]⟩ : ByteArray)).data.toList = [c] := rfl
  rw [e1, repeatL_one]
end Go.Proofs.YtgdlfbphfogphaaDoor
