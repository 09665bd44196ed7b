/- A frame of a tag that is none; the document's frame; and the hashes of frames, by the program and by the document. -/
import Derived.Test.YtmhmcfaalpcngaaDoorVb
import Derived.Test.YtmhmcfaalpcngaaDoorTx
import Derived.Deep.RegionHeld3
namespace Go.Proofs.YtmhmcfaalpcngaaDoor
open Go.RowKit

theorem run_cat (A B : List UInt8) (h : A.length + B.length < 4611686018427387904) (w : World) : (Op.stringOp .add ⟨A.toArray⟩ ⟨B.toArray⟩).run Tryd.prog w = .ok (.string ⟨(A ++ B).toArray⟩) w := by
  have hs : ((((⟨A.toArray⟩ : ByteArray).size + (⟨B.toArray⟩ : ByteArray).size : Nat) : Int) > IntKind.i64.max) = False := by
    have e : IntKind.i64.max = 9223372036854775807 := by decide
    have e1 : (⟨A.toArray⟩ : ByteArray).size = A.length := rfl
    have e2 : (⟨B.toArray⟩ : ByteArray).size = B.length := rfl
    rw [e, e1, e2]
    simp only [gt_iff_lt, eq_iff_iff, iff_false]
    omega
  simp only [Op.stringOp, hs, if_false, strAdd]
  rfl

set_option maxHeartbeats 400000 in
theorem frame_bad (tag : List UInt8) (v : Value) (w : World) (h : tag.length < 1 ∨ 16 < tag.length) (hm : tag.length ≤ maxLen) :
    Calls Tryd.prog 8 #[.string ⟨tag.toArray⟩, v] w fun e w' => e = .returned (.string ⟨#[]⟩) ∧ w = w' := by
  unfold maxLen at hm
  rcases h with h | h
  · go_enter Tryd.func8, Tryd.ntmps8
    go_wp2
    go_ret
    exact ⟨rfl, rfl⟩
  · have h1 : ¬ tag.length < 1 := by omega
    go_enter Tryd.func8, Tryd.ntmps8
    go_wp2
    go_ret
    exact ⟨rfl, rfl⟩
set_option maxHeartbeats 400000 in
theorem refFrame_bad (tag : List UInt8) (v : Value) (w : World) (h : tag.length < 1 ∨ 16 < tag.length) (hm : tag.length ≤ maxLen) :
    Calls Tryd.prog 9 #[.string ⟨tag.toArray⟩, v] w fun e w' => e = .returned (.string ⟨#[]⟩) ∧ w = w' := by
  unfold maxLen at hm
  rcases h with h | h
  · go_enter Tryd.func9, Tryd.ntmps9
    go_wp2
    go_ret
    exact ⟨rfl, rfl⟩
  · have h1 : ¬ tag.length < 1 := by omega
    go_enter Tryd.func9, Tryd.ntmps9
    go_wp2
    go_ret
    exact ⟨rfl, rfl⟩

set_option maxRecDepth 100000 in
set_option maxHeartbeats 1000000 in
theorem refFrame_good (tag : List UInt8) (ao : Option Addr) (cap : Nat) (L : List (List UInt8)) (w : World) (hs : Strs ao L w) (h1 : 1 ≤ tag.length) (h16 : tag.length ≤ 16) (hlen : (framed tag L).length < 100000000000) :
    Calls Tryd.prog 9 #[.string ⟨tag.toArray⟩, .slice ao L.length cap] w fun e w' => e = .returned (.string ⟨(framed tag L).toArray⟩) ∧ Below w.heap.size w w' := by
  have hc := framed_count tag L L.length (Nat.le_refl _)
  rw [List.take_length] at hc
  have HS := Lib.hid hs
  clear hs
  have hX : (tag.length : Int) = ((UInt8.ofNat tag.length).toNat : Int) := by rw [UInt8.toNat_ofNat']; omega
  have hconv := run_convert_bytes_back (P := Tryd.prog) (w.alloc (.cells #[.int .u8 (tag.length : Int)] 5)) 37 9 5 ⟨w.heap.size, 0, none⟩ 1 [UInt8.ofNat tag.length] Tryd.underlying37 Tryd.underlying5 Tryd.underlying9 (oneByte w _ _ hX)
  simp only [List.length_cons, List.length_nil, Nat.zero_add] at hconv
  clear hX
  have HP := Lib.hid (strAdd [UInt8.ofNat tag.length] tag)
  go_enter Tryd.func9, Tryd.ntmps9
  go_wp2
  clear hconv
  go_loopw [5, 6] (fun s i wr => ∃ k : Nat, ∃ T : List UInt8, k ≤ L.length ∧ i = .int .i64 (k : Int) ∧ s = .string ⟨T.toArray⟩ ∧ Hid (T = framed tag (L.take k)) ∧ Below w.heap.size w wr)
    (fun _ i _ => L.length - (intOf i).toNat)
  case atStart => exact ⟨0, _, by omega, rfl, congrArg Value.string HP.out, Lib.hid (by rw [List.take_zero, framed_nil]; rfl), (Below.refl _ _).alloc (Nat.le_refl _) _⟩
  case round =>
    obtain ⟨k, T, hk, rfl, rfl, HT, hb⟩ := hrel
    have hm1 := framed_mono tag L k
    rw [← HT.out] at hm1
    have z := hb.size
    by_cases hlt : k < L.length
    · obtain ⟨b, off, rfl, hcell⟩ := (HS.out.below (Nat.le_refl _) hb).cell k hlt
      have hblt : b < wr.heap.size := World.block_lt_of_cell? wr _ hcell
      have hm2 := framed_mono tag L (k + 1)
      rw [framed_len tag L k hlt, ← HT.out] at hm2
      have HT2 := Lib.hid (framed_snoc tag L k hlt)
      obtain ⟨X, hX⟩ : ∃ X, L[k] = X := ⟨_, rfl⟩
      rw [hX] at hcell hm2 HT2
      clear hX
      have k0 : (0 : Int) ≤ (k : Int) := by omega
      have k1 : (k : Int) < (L.length : Int) := by omega
      have hn8 : (numL X.length).length = 8 := numL_length _
      have hs1 := run_cat T (numL X.length) (by rw [hn8]; omega)
      have hs2 := run_cat (T ++ numL X.length) X (by rw [List.length_append, hn8]; omega)
      have hwr : IntKind.u64.wrap (X.length : Int) = (X.length : Int) := by rw [wrap_u64]; omega
      go_wp2
      go_region_held3 (fun w' => w'.cell? ⟨b, off + k, none⟩ = some (.string ⟨X.toArray⟩))
        (first | (exact (hb1.cell (p := ⟨b, off + k, none⟩) hblt).trans hcell) | (go_keep; done))
        (first | (go_at_call 13; (try rw [hwr]); refine (refNum_any X.length _ (by omega)).mono ?_; rintro e w1 ⟨rfl, hb1⟩))
      all_goals
        have hb2 : Below w.heap.size w w1 := hb.drew.trans (hb1.mono z)
        clear hb1
        go_wp2
        go_roundw
        case rel => exact ⟨k + 1, T ++ (numL X.length ++ X), by omega, by go_num, rfl, Lib.hid (by rw [HT2.out, ← HT.out, partL]), hb2⟩
        case measure => simp [intOf]; omega
    · have ek : k = L.length := by omega
      subst ek
      have HE := Lib.hid (show T = framed tag L by rw [HT.out, List.take_length])
      clear HT
      go_wp2
      go_ret
      exact ⟨by rw [HE.out]; rfl, hb⟩

/-- a tag that is one -/
def Tag (tag : List UInt8) : Prop := 1 ≤ tag.length ∧ tag.length ≤ 16
instance (tag : List UInt8) : Decidable (Tag tag) := by unfold Tag; infer_instance
/-- the frame, and nothing for a tag that is none -/
def frameL (tag : List UInt8) (ps : List (List UInt8)) : List UInt8 := if Tag tag then framed tag ps else []
def hashL (tag : List UInt8) (ps : List (List UInt8)) : List UInt8 := if Tag tag then shaL (framed tag ps) else []

theorem frameAll (tag : List UInt8) (ao : Option Addr) (cap : Nat) (L : List (List UInt8)) (w : World) (hs : Strs ao L w) (hm : tag.length ≤ maxLen) (hlen : (framed tag L).length < 100000000000) :
    Calls Tryd.prog 8 #[.string ⟨tag.toArray⟩, .slice ao L.length cap] w fun e w' => e = .returned (.string ⟨(frameL tag L).toArray⟩) ∧ Below w.heap.size w w' := by
  by_cases h : Tag tag
  · rw [frameL, if_pos h]; exact frame_any tag ao cap L w hs h.1 h.2 hlen
  · rw [frameL, if_neg h]
    exact (frame_bad tag _ w (by unfold Tag at h; omega) hm).mono fun e w' ⟨he, hw⟩ => ⟨he, hw ▸ Below.refl _ _⟩
theorem refFrameAll (tag : List UInt8) (ao : Option Addr) (cap : Nat) (L : List (List UInt8)) (w : World) (hs : Strs ao L w) (hm : tag.length ≤ maxLen) (hlen : (framed tag L).length < 100000000000) :
    Calls Tryd.prog 9 #[.string ⟨tag.toArray⟩, .slice ao L.length cap] w fun e w' => e = .returned (.string ⟨(frameL tag L).toArray⟩) ∧ Below w.heap.size w w' := by
  by_cases h : Tag tag
  · rw [frameL, if_pos h]; exact refFrame_good tag ao cap L w hs h.1 h.2 hlen
  · rw [frameL, if_neg h]
    exact (refFrame_bad tag _ w (by unfold Tag at h; omega) hm).mono fun e w' ⟨he, hw⟩ => ⟨he, hw ▸ Below.refl _ _⟩

theorem not_empty (l : List UInt8) (h : l ≠ []) : l.isEmpty = false := by
  cases l <;> simp_all

set_option maxHeartbeats 1000000 in
theorem hash_any (tag : List UInt8) (ao : Option Addr) (cap : Nat) (L : List (List UInt8)) (w : World) (hg : Glob w) (hs : Strs ao L w) (hm : tag.length ≤ maxLen) (hlen : (framed tag L).length < 100000000000) :
    Calls Tryd.prog 10 #[.string ⟨tag.toArray⟩, .slice ao L.length cap] w fun e w' => e = .returned (.string ⟨(hashL tag L).toArray⟩) ∧ Below w.heap.size w w' := by
  have hsz := hg.size
  by_cases h : Tag tag
  · rw [hashL, if_pos h]
    have hf := frameAll tag ao cap L w hs hm hlen
    rw [frameL, if_pos h] at hf
    obtain ⟨F, hF⟩ : ∃ F, framed tag L = F := ⟨_, rfl⟩
    have hne := not_empty F (by rw [← hF]; exact List.cons_ne_nil _ _)
    rw [hF] at hlen hf ⊢
    clear hF
    go_enter Tryd.func10, Tryd.ntmps10
    go_wp2_with fail
    refine hf.mono ?_
    rintro e w1 ⟨rfl, hb1⟩
    clear hf
    have hG1 : Glob w1 := hg.below (by omega) hb1
    go_wp2_with fail
    refine (shaSum_any F w1 hG1 hlen).mono ?_
    rintro e w2 ⟨rfl, hb2⟩
    go_wp2
    go_ret
    exact ⟨rfl, hb1.trans (hb2.mono hb1.size)⟩
  · rw [hashL, if_neg h]
    have hf := frameAll tag ao cap L w hs hm hlen
    rw [frameL, if_neg h] at hf
    go_enter Tryd.func10, Tryd.ntmps10
    go_wp2_with fail
    refine hf.mono ?_
    rintro e w1 ⟨rfl, hb1⟩
    clear hf
    go_wp2
    go_ret
    exact ⟨rfl, hb1⟩
set_option maxHeartbeats 1000000 in
theorem refHash_any (tag : List UInt8) (ao : Option Addr) (cap : Nat) (L : List (List UInt8)) (w : World) (hs : Strs ao L w) (hm : tag.length ≤ maxLen) (hlen : (framed tag L).length < 10000000000) :
    Calls Tryd.prog 11 #[.string ⟨tag.toArray⟩, .slice ao L.length cap] w fun e w' => e = .returned (.string ⟨(hashL tag L).toArray⟩) ∧ Below w.heap.size w w' := by
  by_cases h : Tag tag
  · rw [hashL, if_pos h]
    have hf := refFrameAll tag ao cap L w hs hm (by omega)
    rw [frameL, if_pos h] at hf
    obtain ⟨F, hF⟩ : ∃ F, framed tag L = F := ⟨_, rfl⟩
    have hne := not_empty F (by rw [← hF]; exact List.cons_ne_nil _ _)
    rw [hF] at hlen hf ⊢
    clear hF
    go_enter Tryd.func11, Tryd.ntmps11
    go_wp2_with fail
    refine hf.mono ?_
    rintro e w1 ⟨rfl, hb1⟩
    clear hf
    go_wp2_with fail
    refine (refSum_any F w1 hlen).mono ?_
    rintro e w2 ⟨rfl, hb2⟩
    go_wp2
    go_ret
    exact ⟨rfl, hb1.trans (hb2.mono hb1.size)⟩
  · rw [hashL, if_neg h]
    have hf := refFrameAll tag ao cap L w hs hm (by omega)
    rw [frameL, if_neg h] at hf
    go_enter Tryd.func11, Tryd.ntmps11
    go_wp2_with fail
    refine hf.mono ?_
    rintro e w1 ⟨rfl, hb1⟩
    clear hf
    go_wp2
    go_ret
    exact ⟨rfl, hb1⟩
end Go.Proofs.YtmhmcfaalpcngaaDoor
