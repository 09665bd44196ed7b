/- A frame of a tag that is none; all frames; and the hashes of frames, by the program. -/
import Derived.Test.YtdobmhbfadijoaaDoorBa
import Derived.Test.YtdobmhbfadijoaaDoorDb
import Derived.Test.YtdobmhbfadijoaaDoorTk
namespace Go.Proofs.YtdobmhbfadijoaaDoor
open Go.RowKit

set_option maxHeartbeats 400000 in
theorem frame_bad (tag : List UInt8) (v : Value) (w : World) (h : tag.length < 1 ∨ 16 < tag.length) (hm : tag.length ≤ maxLen) :
    Calls Tryd.prog 21 #[.string ⟨tag.toArray⟩, v] w fun e w' => e = .returned (.string ⟨#[]⟩) ∧ w = w' := by
  unfold maxLen at hm
  rcases h with h | h
  · go_enter Tryd.func21, Tryd.ntmps21
    go_wp2
    go_ret
    exact ⟨rfl, rfl⟩
  · have h1 : ¬ tag.length < 1 := by omega
    go_enter Tryd.func21, Tryd.ntmps21
    go_wp2
    go_ret
    exact ⟨rfl, rfl⟩
/-- a tag that is one -/
def Tag (tag : List UInt8) : Prop := 1 ≤ tag.length ∧ tag.length ≤ 16
instance (tag : List UInt8) : Decidable (Tag tag) := by unfold Tag; infer_instance
/-- the frame, and nothing for a tag that is none -/
def frameL (tag : List UInt8) (ps : List (List UInt8)) : List UInt8 := if Tag tag then framed tag ps else []
def hashL (tag : List UInt8) (ps : List (List UInt8)) : List UInt8 := if Tag tag then shaL (framed tag ps) else []

theorem frameAll (tag : List UInt8) (ao : Option Addr) (cap : Nat) (L : List (List UInt8)) (w : World) (hs : Strs ao L w) (hm : tag.length ≤ maxLen) (hlen : (framed tag L).length < 100000000000) :
    Calls Tryd.prog 21 #[.string ⟨tag.toArray⟩, .slice ao L.length cap] w fun e w' => e = .returned (.string ⟨(frameL tag L).toArray⟩) ∧ Below w.heap.size w w' := by
  by_cases h : Tag tag
  · rw [frameL, if_pos h]; exact frame_any tag ao cap L w hs h.1 h.2 hlen
  · rw [frameL, if_neg h]
    exact (frame_bad tag _ w (by unfold Tag at h; omega) hm).mono fun e w' ⟨he, hw⟩ => ⟨he, hw ▸ Below.refl _ _⟩
theorem not_empty (l : List UInt8) (h : l ≠ []) : l.isEmpty = false := by
  cases l <;> simp_all

set_option maxHeartbeats 1000000 in
theorem hash_any (tag : List UInt8) (ao : Option Addr) (cap : Nat) (L : List (List UInt8)) (w : World) (hg : Glob w) (hs : Strs ao L w) (hm : tag.length ≤ maxLen) (hlen : (framed tag L).length < 100000000000) :
    Calls Tryd.prog 15 #[.string ⟨tag.toArray⟩, .slice ao L.length cap] w fun e w' => e = .returned (.string ⟨(hashL tag L).toArray⟩) ∧ Below w.heap.size w w' := by
  have hsz := hg.size
  by_cases h : Tag tag
  · rw [hashL, if_pos h]
    have hf := frameAll tag ao cap L w hs hm hlen
    rw [frameL, if_pos h] at hf
    obtain ⟨F, hF⟩ : ∃ F, framed tag L = F := ⟨_, rfl⟩
    have hne := not_empty F (by rw [← hF]; exact List.cons_ne_nil _ _)
    rw [hF] at hlen hf ⊢
    clear hF
    go_enter Tryd.func15, Tryd.ntmps15
    go_wp2_with fail
    refine hf.mono ?_
    rintro e w1 ⟨rfl, hb1⟩
    clear hf
    have hG1 : Glob w1 := hg.below (by omega) hb1
    go_wp2_with fail
    refine (shaSum_any F w1 hG1 hlen).mono ?_
    rintro e w2 ⟨rfl, hb2⟩
    go_wp2
    go_ret
    exact ⟨rfl, hb1.trans (hb2.mono hb1.size)⟩
  · rw [hashL, if_neg h]
    have hf := frameAll tag ao cap L w hs hm hlen
    rw [frameL, if_neg h] at hf
    go_enter Tryd.func15, Tryd.ntmps15
    go_wp2_with fail
    refine hf.mono ?_
    rintro e w1 ⟨rfl, hb1⟩
    clear hf
    go_wp2
    go_ret
    exact ⟨rfl, hb1⟩

/-- a row of texts that was just made -/
theorem strs_new (w : World) (L : List (List UInt8)) (C : Array Value) (hC : C = (L.map fun x => Value.string ⟨x.toArray⟩).toArray) : Strs (some ⟨w.heap.size, 0, none⟩) L (w.alloc (.cells C 9)) := by
  refine .inr ⟨_, _, rfl, by simp, fun i hi => ?_⟩
  rw [Nat.zero_add, cell_of_row _ _ _ _ 9 _ (heap_alloc_new w _), hC]
  simp [hi]
end Go.Proofs.YtdobmhbfadijoaaDoor
