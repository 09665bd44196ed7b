/- With, whole. -/
import Derived.Test.YtjfhcckadibhgaaDoorAk
import Derived.Laws.EntriesVeiled
namespace Go.Proofs.YtjfhcckadibhgaaDoor
open Go.RowKit

theorem gl_set {L : List (List UInt8)} {d i j : Nat} {E : (List UInt8)} (hd : d ≤ 16) (hi : i < L.length) (hid : i < 2 ^ d) (hj : j < 2 ^ d) : gSet (gl L d) (turnB i d) (hashL leafT [E]) j = gl (L.set i E) d j := by
  unfold gSet gl
  by_cases h : j = turnB i (d : Int)
  · have ht : turnB j (d : Int) = i := by rw [h, turnB_turnB hd hid]
    rw [if_pos h, dif_pos (by rw [ht, List.length_set]; exact hi)]
    congr 2
    simp [ht]
  · have ht : turnB j (d : Int) ≠ i := fun e => h (by rw [← e, turnB_turnB hd hj])
    rw [if_neg h]
    by_cases hl : turnB j (d : Int) < L.length
    · rw [dif_pos hl, dif_pos (by rw [List.length_set]; exact hl), List.getElem_set_ne (Ne.symm ht)]
    · rw [dif_neg hl, dif_neg (by rw [List.length_set]; exact hl)]
theorem withT_none (i : Nat) (E : (List UInt8)) (w : World) : Calls Tryd.prog 19 #[.pointer none, .int .u64 (i : Int), .string ⟨E.toArray⟩] w fun e w' => e = .returned (.tuple #[.pointer none, .int .i64 1]) ∧ Below w.heap.size w w' := by
  have HN := Lib.hid (fun w => isNone_none w)
  go_enter Tryd.func19, Tryd.ntmps19
  go_wp2_with (go_at_call 28; refine (HN.out _).mono ?_; rintro e w' ⟨rfl, rfl⟩)
  exact bodyPost_ret (v := .tuple #[.pointer none, .int .i64 1]) (by simp [results, Tryd.results19, go_sem]) rfl ⟨rfl, by0 w _⟩
theorem withT_bad (L : List (List UInt8)) (t i : Nat) (E : (List UInt8)) (w : World) (hT : TreeM L w t) (hi : L.length ≤ i) : Calls Tryd.prog 19 #[.pointer (some ⟨t, 0, none⟩), .int .u64 (i : Int), .string ⟨E.toArray⟩] w fun e w' => e = .returned (.tuple #[.pointer none, .int .i64 2]) ∧ Below w.heap.size w w' := by
  have hT1 := hT.below (by0 w (.cells #[.string ⟨E.toArray⟩] 9))
  have HN := Lib.hid (isNone_any L t _ hT1)
  obtain ⟨r, h1, _⟩ := hT1.blk
  have HC := Lib.hid ((lit_cell h1 1).trans rfl)
  have hu : IntKind.u64.wrap (L.length : Int) = (L.length : Int) := by rw [IntKind.wrap_u64]; have := hT.le; omega
  have hge : (L.length : Int) ≤ (i : Int) := by omega
  have HB := Lib.hid (by0 w (.cells #[.string ⟨E.toArray⟩] 9))
  clear hT hT1 h1
  go_enter Tryd.func19, Tryd.ntmps19
  go_upto_region 1 with fail
  change Code.wp _ _ _ _ (w.alloc (.cells #[.string ⟨E.toArray⟩] 9))
  generalize w.alloc (.cells #[.string ⟨E.toArray⟩] 9) = w1 at *
  have c1 := HC.out
  go_wp2_with (go_at_call 28; refine HN.out.mono ?_; rintro e w' ⟨rfl, rfl⟩)
  exact bodyPost_ret (v := .tuple #[.pointer none, .int .i64 2]) (by simp [results, Tryd.results19, go_sem]) rfl ⟨rfl, HB.out⟩
set_option maxRecDepth 100000 in
set_option maxHeartbeats 1000000 in
theorem withT_any (L : List (List UInt8)) (t i : Nat) (E : (List UInt8)) (w : World) (hg : Glob w) (hT : TreeM L w t) (hi : i < L.length) (hE : E.length ≤ 10000000) : Calls Tryd.prog 19 #[.pointer (some ⟨t, 0, none⟩), .int .u64 (i : Int), .string ⟨E.toArray⟩] w fun e w' => ∃ u, e = .returned (.tuple #[.pointer (some ⟨u, 0, none⟩), .int .i64 0]) ∧ TreeM (L.set i E) w' u ∧ Below w.heap.size w w' := by
  have hd := dep_le L.length hT.le
  have hid : i < 2 ^ dep L.length := Nat.lt_of_lt_of_le hi (dep_spec L.length hT.le).1
  have hi64 : i < 18446744073709551616 := by have := hT.le; omega
  have ha := turnB_lt hd hid
  have hT1 := hT.below (by0 w (.cells #[.string ⟨E.toArray⟩] 9))
  have HN := Lib.hid (isNone_any L t _ hT1)
  have HD := Lib.hid (depthT_any L t _ hT1)
  have HLF := Lib.hid (fun w => leaf_any i hi64 (dep L.length : Int) w)
  have HFIN := Lib.hid (show ∀ wz u r, wz.heap[u]? = some (Obj.cells #[.pointer (some ⟨r, 0, none⟩), .int .i64 (L.length : Int)] 55 (0, 0)) → InT (gSet (gl L (dep L.length)) (turnB i (dep L.length : Int)) (hashL leafT [E])) wz (dep L.length) 0 r → TreeM (L.set i E) wz u from fun wz u r h1 h2 => by
    refine ⟨by rw [List.length_set]; exact hT.le, r, by rw [List.length_set]; exact h1, ?_⟩
    rw [List.length_set]
    exact h2.congr fun j _ hj => gl_set hd hi hid (by omega))
  have HAN := Lib.hid (fun e5 a9 f10 b wz hgz hC hI => anew_any (gl L (dep L.length)) (gl_len L _) e5 a9 f10 E hE (turnB i (dep L.length : Int)) (Nat.lt_of_lt_of_le ha (Nat.le_trans (Nat.pow_le_pow_right (by decide) hd) (by decide))) (dep L.length) b wz hd hgz hC hI)
  rw [Nat.div_eq_of_lt ha] at HAN
  have hu : IntKind.u64.wrap (L.length : Int) = (L.length : Int) := by rw [IntKind.wrap_u64]; have := hT.le; omega
  have hge : ¬ (L.length : Int) ≤ (i : Int) := by omega
  obtain ⟨r, h1, h2⟩ := hT1.blk
  have H12 := Lib.hid (And.intro h1 h2)
  have HG1 : Hid (Glob (w.alloc (.cells #[.string ⟨E.toArray⟩] 9)) ∧ 2 ≤ (w.alloc (.cells #[.string ⟨E.toArray⟩] 9)).heap.size) := Lib.hid ⟨hg.below hg.size (by0 w _), by simp; have := hg.size; omega⟩
  have HB := Lib.hid (by0 w (.cells #[.string ⟨E.toArray⟩] 9))
  have HE5 := Lib.hid (heap_alloc_new w (.cells #[.string ⟨E.toArray⟩] 9))
  have HLT : Hid (w.heap.size < (w.alloc (.cells #[.string ⟨E.toArray⟩] 9)).heap.size) := Lib.hid (by simp)
  clear hT hT1 h1 h2 hg ha hid hd hi hE
  generalize gl L (dep L.length) = g at *
  generalize dep L.length = d at *
  generalize turnB i (d : Int) = a at *
  go_enter Tryd.func19, Tryd.ntmps19
  go_upto_region 1 with fail
  change Code.wp _ _ _ _ (w.alloc (.cells #[.string ⟨E.toArray⟩] 9))
  generalize w.alloc (.cells #[.string ⟨E.toArray⟩] 9) = w1 at *
  have c1 := (lit_cell H12.out.1 1).trans rfl
  have c0 := (lit_cell H12.out.1 0).trans rfl
  go_upto_region 8 with (first | (go_at_call 28; refine HN.out.mono ?_; rintro e w' ⟨rfl, rfl⟩) | (go_at_call 13; refine HD.out.mono ?_; rintro e w' ⟨rfl, rfl⟩) | (go_at_call 24; refine (HLF.out _).mono ?_; rintro e w' ⟨rfl, rfl⟩))
  change Code.wp _ _ _ _ ((w1.alloc (.cells #[.int .u64 (a : Int)] 23)).alloc (.cells #[.nilFunc] 64))
  have hb2 : Below w1.heap.size w1 ((w1.alloc (.cells #[.int .u64 (a : Int)] 23)).alloc (.cells #[.nilFunc] 64)) := (by0 w1 _).alloc (by simp) _
  have ha2 : ((w1.alloc (.cells #[.int .u64 (a : Int)] 23)).alloc (.cells #[.nilFunc] 64)).heap[w1.heap.size]? = some (Obj.cells #[.int .u64 (a : Int)] 23 (0, 0)) := lit_old _ (heap_alloc_new w1 _)
  have hf2 : ((w1.alloc (.cells #[.int .u64 (a : Int)] 23)).alloc (.cells #[.nilFunc] 64)).heap[w1.heap.size + 1]? = some (Obj.cells #[.nilFunc] 64 (0, 0)) := by
    rw [show w1.heap.size + 1 = (w1.alloc (.cells #[.int .u64 (a : Int)] 23)).heap.size by simp]; exact heap_alloc_new _ _
  generalize (w1.alloc (.cells #[.int .u64 (a : Int)] 23)).alloc (.cells #[.nilFunc] 64) = w2 at *
  have HB2 := Lib.hid hb2
  have HA2 := Lib.hid ha2
  have HF2 := Lib.hid hf2
  have f0 := (lit_cell hf2 0).trans rfl
  have g0 := lit_free hf2 0
  clear hb2 ha2 hf2 c0 c1
  go_upto_region 9 with fail
  have hn3 : w2.heap.size = (w2.setCell ⟨w1.heap.size + 1, 0, none⟩ (.func (.func 33) #[] #[.pointer (some ⟨w.heap.size, 0, none⟩), .pointer (some ⟨w1.heap.size, 0, none⟩), .pointer (some ⟨w1.heap.size + 1, 0, none⟩)])).heap.size := by simp
  have hf3 := lit_set (k := 0) (.func (.func 33) #[] #[.pointer (some ⟨w.heap.size, 0, none⟩), .pointer (some ⟨w1.heap.size, 0, none⟩), .pointer (some ⟨w1.heap.size + 1, 0, none⟩)]) HF2.out
  have hb3 : Below w1.heap.size w1 (w2.setCell ⟨w1.heap.size + 1, 0, none⟩ (.func (.func 33) #[] #[.pointer (some ⟨w.heap.size, 0, none⟩), .pointer (some ⟨w1.heap.size, 0, none⟩), .pointer (some ⟨w1.heap.size + 1, 0, none⟩)])) := HB2.out.setCell (Nat.le_succ _) _
  have ha3 := (lit_far (k := 0) (.func (.func 33) #[] #[.pointer (some ⟨w.heap.size, 0, none⟩), .pointer (some ⟨w1.heap.size, 0, none⟩), .pointer (some ⟨w1.heap.size + 1, 0, none⟩)]) (show w1.heap.size ≠ w1.heap.size + 1 by omega) (w := w2)).trans HA2.out
  generalize w2.setCell ⟨w1.heap.size + 1, 0, none⟩ (.func (.func 33) #[] #[.pointer (some ⟨w.heap.size, 0, none⟩), .pointer (some ⟨w1.heap.size, 0, none⟩), .pointer (some ⟨w1.heap.size + 1, 0, none⟩)]) = w3 at *
  have HB3 := Lib.hid hb3
  have h13 := (hb3.block t (lit_lt H12.out.1)).trans H12.out.1
  have c1 := (lit_cell h13 1).trans rfl
  have c0 := (lit_cell h13 0).trans rfl
  have f0 := (lit_cell hf3 0).trans rfl
  have HI := Lib.hid (HAN.out w.heap.size w1.heap.size (w1.heap.size + 1) r w3.drew (HG1.out.1.below HG1.out.2 hb3.drew) ⟨(lit_cell ((hb3.block _ HLT.out).trans HE5.out) 0).trans rfl, (lit_cell ha3 0).trans rfl, f0⟩ (H12.out.2.below hb3.drew))
  have H13 := Lib.hid h13
  clear hn3 hf3 hb3 ha3 h13 g0 HF2 HA2 HB2

  go_region_with
    (first | (go_at_call 33; refine HI.out.mono ?_; rintro e w4 ⟨c, rfl, hc, hb4⟩; have h14 := (hb4.block t (lit_lt H13.out)).trans H13.out; have c1 := (lit_cell h14 1).trans rfl))
  all_goals
    go_wp2
    refine bodyPost_ret (v := .tuple #[.pointer (some ⟨w4.heap.size, 0, none⟩), .int .i64 0]) (by simp [results, Tryd.results19, go_sem]) rfl ⟨w4.heap.size, rfl, HFIN.out _ _ _ (heap_alloc_new w4 _) (hc.below (by0 w4 _)), below_alloc ?_ _⟩
    exact (HB.out.trans (HB3.out.mono (Nat.le_of_lt HLT.out))).trans (((Below.refl _ _).drew.trans hb4).mono (show w.heap.size ≤ w3.heap.size by have := HB3.out.size; have := HLT.out; omega))
end Go.Proofs.YtjfhcckadibhgaaDoor
