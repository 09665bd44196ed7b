/- Hashes of one text, of two; what a walk keeps. -/
import Derived.Test.YtdobmhbfadijoaaDoorAd0
namespace Go.Proofs.YtdobmhbfadijoaaDoor
open Go.RowKit

theorem hash1_any (tag x : (List UInt8)) (wz : World) (hg : Glob wz) (ht : tag.length ≤ 16) (hx : x.length ≤ 10000000) : Calls Tryd.prog 15 #[.string ⟨tag.toArray⟩, .slice (some ⟨wz.heap.size, 0, none⟩) 1 1] (wz.alloc (.cells #[.string ⟨x.toArray⟩] 9)) fun e w' => e = .returned (.string ⟨(hashL tag [x]).toArray⟩) ∧ Below wz.heap.size wz w' := by
  refine (hash_any tag (some ⟨wz.heap.size, 0, none⟩) 1 [x] _ (hg.below hg.size (by0 wz _)) (strs_new wz [x] _ rfl) (by unfold maxLen; omega) (Nat.lt_of_lt_of_le (framed_short tag [x] ht (by simpa using hx) (by simp)) (by decide))).mono ?_
  rintro e w' ⟨h1, h2⟩
  exact ⟨h1, below_next (by0 wz _) h2⟩
theorem hash2_any (tag x y : (List UInt8)) (wz : World) (hg : Glob wz) (ht : tag.length ≤ 16) (hx : x.length ≤ 10000000) (hy : y.length ≤ 10000000) : Calls Tryd.prog 15 #[.string ⟨tag.toArray⟩, .slice (some ⟨wz.heap.size, 0, none⟩) 2 2] (wz.alloc (.cells #[.string ⟨x.toArray⟩, .string ⟨y.toArray⟩] 9)) fun e w' => e = .returned (.string ⟨(hashL tag [x, y]).toArray⟩) ∧ Below wz.heap.size wz w' := by
  refine (hash_any tag (some ⟨wz.heap.size, 0, none⟩) 2 [x, y] _ (hg.below hg.size (by0 wz _)) (strs_new wz [x, y] _ rfl) (by unfold maxLen; omega) (Nat.lt_of_lt_of_le (framed_short tag [x, y] ht (by intro z hz; simp at hz; rcases hz with rfl | rfl <;> assumption) (by simp)) (by decide))).mono ?_
  rintro e w' ⟨h1, h2⟩
  exact ⟨h1, below_next (by0 wz _) h2⟩
/-- what the law's walks keep -/
structure Wl (w0 wz : World) : Prop where
  g : Glob wz
  o : Below w0.heap.size w0 wz
theorem Wl.next {w0 wz wa : World} (h : Wl w0 wz) (hb : Below wz.heap.size wz wa) : Wl w0 wa := ⟨h.g.below h.g.size hb, below_next h.o hb⟩
end Go.Proofs.YtdobmhbfadijoaaDoor
