/- Build, and what is asked of a tree: Root, Depth, Len. -/
import Derived.Test.YtjfhcckadibhgaaDoorAh
namespace Go.Proofs.YtjfhcckadibhgaaDoor
open Go.RowKit

/-- a tree in memory -/
structure TreeM (L : List (List UInt8)) (w : World) (t : Nat) : Prop where
  le : L.length ≤ 65536
  blk : ∃ r, w.heap[t]? = some (Obj.cells #[.pointer (some ⟨r, 0, none⟩), .int .i64 (L.length : Int)] 55 (0, 0)) ∧ InT (gl L (dep L.length)) w (dep L.length) 0 r
theorem TreeM.below {L : List (List UInt8)} {w w' : World} {t : Nat} (h : TreeM L w t) (hb : Below w.heap.size w w') : TreeM L w' t := by
  obtain ⟨r, h1, h2⟩ := h.blk
  exact ⟨h.le, r, (hb.block t (lit_lt h1)).trans h1, h2.below hb⟩
theorem TreeM.next {L : List (List UInt8)} {w w' : World} {t B : Nat} (h : TreeM L w t) (hB : w.heap.size ≤ B) (hb : Below B w w') : TreeM L w' t := h.below (hb.mono hB)
theorem isNone_any (L : List (List UInt8)) (t : Nat) (w : World) (h : TreeM L w t) : Calls Tryd.prog 28 #[.pointer (some ⟨t, 0, none⟩)] w fun e w' => e = .returned (.bool false) ∧ w = w' := by
  obtain ⟨r, h1, _⟩ := h.blk
  have c0 := (lit_cell h1 0).trans rfl
  clear h1
  go_enter Tryd.func28, Tryd.ntmps28
  go_wp2
  go_ret
  exact ⟨rfl, rfl⟩
theorem isNone_none (w : World) : Calls Tryd.prog 28 #[.pointer none] w fun e w' => e = .returned (.bool true) ∧ w = w' := by
  go_enter Tryd.func28, Tryd.ntmps28
  go_wp2
  go_ret
  exact ⟨rfl, rfl⟩
/-- the root's digest -/
def rootD (L : List (List UInt8)) : (List UInt8) := dg (gl L (dep L.length)) (dep L.length) 0
theorem rootT_any (L : List (List UInt8)) (t : Nat) (w : World) (h : TreeM L w t) : Calls Tryd.prog 11 #[.pointer (some ⟨t, 0, none⟩)] w fun e w' => e = .returned (.string ⟨(rootD L).toArray⟩) ∧ w = w' := by
  have HN := Lib.hid (isNone_any L t w h)
  obtain ⟨r, h1, h2⟩ := h.blk
  obtain ⟨x, y, h3⟩ := h2.blk
  have c0 := (lit_cell h1 0).trans rfl
  have d0 := (lit_cell h3 0).trans rfl
  rw [show dg (gl L (dep L.length)) (dep L.length) 0 = rootD L from rfl] at d0
  clear h h1 h2 h3
  generalize rootD L = R at *
  go_enter Tryd.func11, Tryd.ntmps11
  go_wp2_with (go_at_call 28; refine HN.out.mono ?_; rintro e w' ⟨rfl, rfl⟩)
  go_ret
  exact ⟨rfl, rfl⟩
theorem root_none (w : World) : Calls Tryd.prog 11 #[.pointer none] w fun e w' => e = .returned (.string ⟨#[]⟩) ∧ w = w' := by
  have HN := Lib.hid (isNone_none w)
  go_enter Tryd.func11, Tryd.ntmps11
  go_wp2_with (go_at_call 28; refine HN.out.mono ?_; rintro e w' ⟨rfl, rfl⟩)
  go_ret
  exact ⟨rfl, rfl⟩
theorem depthT_any (L : List (List UInt8)) (t : Nat) (w : World) (h : TreeM L w t) : Calls Tryd.prog 13 #[.pointer (some ⟨t, 0, none⟩)] w fun e w' => e = .returned (.int .i64 (dep L.length : Int)) ∧ w = w' := by
  have HN := Lib.hid (isNone_any L t w h)
  have HD := Lib.hid (show Calls Tryd.prog 21 #[.int .i64 (L.length : Int)] w fun e w' => e = .returned (.int .i64 (dep L.length : Int)) ∧ w = w' from by
    have h2 := depth_any (L.length : Int) (by have := h.le; omega) w
    rwa [depthV, if_neg (by have := h.le; omega), Int.toNat_natCast] at h2)
  obtain ⟨r, h1, _⟩ := h.blk
  have c1 := (lit_cell h1 1).trans rfl
  clear h h1
  go_enter Tryd.func13, Tryd.ntmps13
  go_wp2_with (first | (go_at_call 28; refine HN.out.mono ?_; rintro e w' ⟨rfl, rfl⟩) | (go_at_call 21; refine HD.out.mono ?_; rintro e w' ⟨rfl, rfl⟩))
  go_ret
  exact ⟨rfl, rfl⟩
theorem depth_none (w : World) : Calls Tryd.prog 13 #[.pointer none] w fun e w' => e = .returned (.int .i64 (-1)) ∧ w = w' := by
  have HN := Lib.hid (isNone_none w)
  go_enter Tryd.func13, Tryd.ntmps13
  go_wp2_with (go_at_call 28; refine HN.out.mono ?_; rintro e w' ⟨rfl, rfl⟩)
  go_ret
  exact ⟨rfl, rfl⟩
theorem lenT_any (L : List (List UInt8)) (t : Nat) (w : World) (h : TreeM L w t) : Calls Tryd.prog 15 #[.pointer (some ⟨t, 0, none⟩)] w fun e w' => e = .returned (.int .i64 (L.length : Int)) ∧ w = w' := by
  have HN := Lib.hid (isNone_any L t w h)
  obtain ⟨r, h1, _⟩ := h.blk
  have c1 := (lit_cell h1 1).trans rfl
  clear h h1
  go_enter Tryd.func15, Tryd.ntmps15
  go_wp2_with (go_at_call 28; refine HN.out.mono ?_; rintro e w' ⟨rfl, rfl⟩)
  go_ret
  exact ⟨rfl, rfl⟩
theorem len_none (w : World) : Calls Tryd.prog 15 #[.pointer none] w fun e w' => e = .returned (.int .i64 0) ∧ w = w' := by
  have HN := Lib.hid (isNone_none w)
  go_enter Tryd.func15, Tryd.ntmps15
  go_wp2_with (go_at_call 28; refine HN.out.mono ?_; rintro e w' ⟨rfl, rfl⟩)
  go_ret
  exact ⟨rfl, rfl⟩

def sliceLen : Value → Nat
  | .slice _ n _ => n
  | _ => 0
theorem build_bad (ao : Option Addr) (n cap : Nat) (w : World) (h : 65536 < n) : Calls Tryd.prog 9 #[.slice ao n cap] w fun e w' => e = .returned (.tuple #[.pointer none, .int .i64 3]) ∧ w = w' := by
  have h1 : (65536 : Int) < (n : Int) := by omega
  go_enter Tryd.func9, Tryd.ntmps9
  go_wp2
  exact bodyPost_ret (v := .tuple #[.pointer none, .int .i64 3]) (by simp [results, Tryd.results9, go_sem]) rfl ⟨rfl, rfl⟩
set_option maxRecDepth 100000 in
set_option maxHeartbeats 1000000 in
theorem build_any (ao : Option Addr) (cap : Nat) (L : List (List UInt8)) (w : World) (hg : Glob w) (hs : Strs ao L w) (hL : L.length ≤ 65536) (hl : ∀ i (h : i < L.length), L[i].length ≤ 10000000) :
    Calls Tryd.prog 9 #[.slice ao L.length cap] w fun e w' => ∃ t, e = .returned (.tuple #[.pointer (some ⟨t, 0, none⟩), .int .i64 0]) ∧ TreeM L w' t ∧ w.heap.size ≤ t ∧ Below w.heap.size w w' := by
  have HL := Lib.hid (leaves_any ao cap L w hg hs hL hl)
  have hd := dep_le L.length hL
  have HA := Lib.hid (fun l m B cp wz (h : Below w.heap.size w wz) hr hm hc => above_any (gl L (dep L.length)) (gl_len L _) l m B cp wz (hg.below hg.size h) hr hm hc)
  have HF := Lib.hid (show ∀ t wz r, wz.heap[t]? = some (Obj.cells #[.pointer (some ⟨r, 0, none⟩), .int .i64 (L.length : Int)] 55 (0, 0)) → InT (gl L (dep L.length)) wz (dep L.length) 0 r → TreeM L wz t from fun t wz r h1 h2 => ⟨hL, r, h1, h2⟩)
  have h1 : ¬ (65536 : Int) < (L.length : Int) := by omega
  clear hg hs hL hl
  generalize gl L (dep L.length) = g at *
  generalize dep L.length = d at *
  go_enter Tryd.func9, Tryd.ntmps9
  go_upto_region 3 with fail
  go_wp2_with (go_at_call 26; refine HL.out.mono ?_; rintro e w1 ⟨B, rfl, hB, hr, hb1⟩)
  go_loopw [4] (fun s4 wr => ∃ (j B cp m : Nat), j ≤ d ∧ m = 2 ^ (d - j) ∧ s4 = .slice (some ⟨B, 0, none⟩) m cp ∧ Hid (m ≤ cp ∧ RowT g wr j m B ∧ Below w.heap.size w wr)) (fun s4 _ => sliceLen s4)
  case atStart => exact ⟨0, B, _, _, Nat.zero_le _, rfl, rfl, Lib.hid ⟨Nat.le_refl _, hr, hb1⟩⟩
  case round =>
    obtain ⟨j, B', cp, m, hj, hm, rfl, HK⟩ := hrel
    by_cases hlt : j < d
    · obtain ⟨q, hq⟩ : ∃ q, q = 2 ^ (d - (j + 1)) := ⟨_, rfl⟩
      have hmq : m = 2 * q := by rw [hm, hq, show d - j = (d - (j + 1)) + 1 by omega, Nat.pow_succ, Nat.mul_comm]
      have hq1 : 1 ≤ q := by rw [hq]; exact Nat.one_le_two_pow
      have hq2 : q ≤ 65536 := by rw [hq]; exact Nat.le_trans (Nat.pow_le_pow_right (by decide) (by omega)) (show 2 ^ 16 ≤ 65536 by decide)
      have HX := Lib.hid (show Calls Tryd.prog 27 #[.slice (some ⟨B', 0, none⟩) m cp] wr fun e w' => ∃ B2 cp2, e = .returned (.slice (some ⟨B2, 0, none⟩) q cp2) ∧ q ≤ cp2 ∧ RowT g w' (j + 1) q B2 ∧ Below wr.heap.size wr w' from by
        have h1 := HK.out.1
        have h2 := HK.out.2.1
        rw [hmq] at h1 h2 ⊢
        exact HA.out j q B' cp wr HK.out.2.2 h2 ⟨hq1, hq2⟩ h1)
      have k1 : (1 : Int) < (m : Int) := by omega
      have HQ := Lib.hid (And.intro hq (And.intro hq1 hmq))
      clear hq hq1 hq2 hmq hm
      go_wp2_with (go_at_call 27; refine HX.out.mono ?_; rintro e w2 ⟨B2, cp2, rfl, hc2, hr2, hb2⟩)
      go_roundw
      case rel => exact ⟨j + 1, B2, cp2, q, hlt, HQ.out.1, rfl, Lib.hid ⟨hc2, hr2, below_next HK.out.2.2 hb2⟩⟩
      case measure => simp [sliceLen]; have := HQ.out; omega
    · obtain rfl : j = d := by omega
      rw [Nat.sub_self, Nat.pow_zero] at hm
      subst hm
      have k1 : ¬ (1 : Int) < ((1 : Nat) : Int) := by omega
      obtain ⟨b, hb0, hbt⟩ := HK.out.2.1.at_ 0 (by omega)
      have HBT := Lib.hid hbt
      clear hbt
      go_wp2
      refine bodyPost_ret (v := .tuple #[.pointer (some ⟨wr.heap.size, 0, none⟩), .int .i64 0]) (by simp [results, Tryd.results9, go_sem]) rfl ⟨wr.heap.size, rfl, HF.out _ _ _ (heap_alloc_new wr _) (HBT.out.below (by0 wr _)), HK.out.2.2.size, below_alloc HK.out.2.2 _⟩
end Go.Proofs.YtjfhcckadibhgaaDoor
