/- The program's ladder in memory; whether it is none; its tree's root and paths; Root, Key, Part. -/
import Derived.Test.YtmnklonoelpidaaGreatDoorJ38
import Derived.Test.YtmnklonoelpidaaGreatDoorJ21
import Derived.Test.YtmnklonoelpidaaGreatDoorJ39
import Derived.Test.YtmnklonoelpidaaGreatDoorJ25
import Derived.Test.YtmnklonoelpidaaGreatDoorJ31
import Derived.Deep.RegionHeld3
namespace Go.Proofs.YtmnklonoelpidaaGreatDoor
open Go.RowKit

/-- the program's ladder in memory -/
def PLad (b : Nat) (s : (List UInt8)) (f l n : Nat) (w : World) : Prop := ∃ t, w.heap[b]? = some (.cells #[.int .u64 (f : Int), .int .u64 (l : Int), .int .u64 (n : Int), .pointer (some ⟨t, 0, none⟩), .string ⟨s.toArray⟩] 70 (0, 0)) ∧ TreeM (rungsL s n) w t
theorem PLad.next {b : Nat} {s : (List UInt8)} {f l n : Nat} {w w' : World} (h : PLad b s f l n w) (hb : Below w.heap.size w w') : PLad b s f l n w' := by
  obtain ⟨t, h1, h2⟩ := h
  exact ⟨t, (hb.block _ (lit_lt h1)).trans h1, h2.below hb⟩
theorem PLad.off {b : Nat} {s : (List UInt8)} {f l n : Nat} {w w' : World} {X : Nat} {C : Array Value} {T : TypeId} (h : PLad b s f l n w) (hx : w.heap[X]? = some (.cells C T (0, 0))) (h0 : T ≠ 70) (h1 : T ≠ 107) (h2 : T ≠ 103) (hk : Kept (fun j => j ≠ X) w w') : PLad b s f l n w' := by
  obtain ⟨t, hb, ht⟩ := h
  refine ⟨t, (hk.block b (lit_lt hb) (fun e => ?_)).trans hb, ht.off hx h1 h2 hk⟩
  rw [e, hx] at hb
  cases hb
  exact h0 rfl
theorem PLad.cells {b : Nat} {s : (List UInt8)} {f l n : Nat} {w : World} (h : PLad b s f l n w) : ∃ t, w.cell? ⟨b, 0, none⟩ = some (.int .u64 (f : Int)) ∧ w.cell? ⟨b, 1, none⟩ = some (.int .u64 (l : Int)) ∧ w.cell? ⟨b, 2, none⟩ = some (.int .u64 (n : Int)) ∧ w.cell? ⟨b, 3, none⟩ = some (.pointer (some ⟨t, 0, none⟩)) ∧ w.cell? ⟨b, 4, none⟩ = some (.string ⟨s.toArray⟩) ∧ TreeM (rungsL s n) w t := by
  obtain ⟨t, h1, h2⟩ := h
  exact ⟨t, (lit_cell h1 0).trans rfl, (lit_cell h1 1).trans rfl, (lit_cell h1 2).trans rfl, (lit_cell h1 3).trans rfl, (lit_cell h1 4).trans rfl, h2⟩
theorem lnone_any (b : Nat) (s : (List UInt8)) (f l n : Nat) (w : World) (h : PLad b s f l n w) : Calls Tryz.prog 42 #[.pointer (some ⟨b, 0, none⟩)] w fun e w' => e = .returned (.bool false) ∧ w = w' := by
  obtain ⟨t, _, _, _, c3, _, _⟩ := h.cells
  clear h
  go_enter Tryz.func42, Tryz.ntmps42
  go_wp2
  go_ret
  exact ⟨rfl, rfl⟩
theorem lnone_nil (w : World) : Calls Tryz.prog 42 #[.pointer none] w fun e w' => e = .returned (.bool true) ∧ w = w' := by
  go_enter Tryz.func42, Tryz.ntmps42
  go_wp2
  go_ret
  exact ⟨rfl, rfl⟩
theorem groot_any (L : List (List UInt8)) (t : Nat) (w : World) (h : TreeM L w t) : Calls Tryz.prog 43 #[.agg #[.pointer (some ⟨t, 0, none⟩)]] w fun e w' => e = .returned (.string ⟨(rootD L).toArray⟩) ∧ Below w.heap.size w w' := by
  have HB := Lib.hid (by0 w (.cells #[.pointer (some ⟨t, 0, none⟩)] 68))
  have hx := heap_alloc_new w (.cells #[.pointer (some ⟨t, 0, none⟩)] 68)
  have c0 : (w.alloc (.cells #[.pointer (some ⟨t, 0, none⟩)] 68)).cell? ⟨w.heap.size, 0, none⟩ = some (.pointer (some ⟨t, 0, none⟩)) := (lit_cell hx 0).trans rfl
  have HR := Lib.hid (rootT_any L t _ (h.below HB.out))
  generalize rootD L = R at *
  clear hx h
  go_enter Tryz.func43, Tryz.ntmps43
  go_wp2_with (go_at_call 29; with_reducible refine HR.out.mono ?_; rintro e w' ⟨rfl, rfl⟩)
  go_ret
  exact ⟨rfl, HB.out⟩
theorem gpath_any (L : List (List UInt8)) (t k : Nat) (w : World) (h : TreeM L w t) (hs : k < L.length) : Calls Tryz.prog 54 #[.agg #[.pointer (some ⟨t, 0, none⟩)], .int .u64 (k : Int)] w fun e w' => ∃ (ao : Option Addr) (cp : Nat), e = .returned (.tuple #[.slice ao (proofD L [k]).length cp, .int .i64 0]) ∧ Strs ao (proofD L [k]) w' ∧ (proofD L [k]).length ≤ cp ∧ Below w.heap.size w w' := by
  obtain ⟨w1, hw1⟩ : ∃ w1, w1 = w.alloc (.cells #[.pointer (some ⟨t, 0, none⟩)] 68) := ⟨_, rfl⟩
  have HB := Lib.hid (show Below w.heap.size w w1 by rw [hw1]; exact by0 w _)
  have hx := heap_alloc_new w (.cells #[.pointer (some ⟨t, 0, none⟩)] 68)
  rw [← hw1] at hx
  have c0 : w1.cell? ⟨w.heap.size, 0, none⟩ = some (.pointer (some ⟨t, 0, none⟩)) := (lit_cell hx 0).trans rfl
  have HW := Lib.hid hw1
  have hbx := below_next HB.out (by0 w1 (.cells #[.int .u64 (k : Int)] 22))
  have HP := Lib.hid (show Calls Tryz.prog 84 #[.pointer (some ⟨t, 0, none⟩), .slice (some ⟨w1.heap.size, 0, none⟩) 1 1] (w1.alloc (.cells #[.int .u64 (k : Int)] 22)) fun e w' => ∃ (ao : Option Addr) (cp : Nat), e = .returned (.tuple #[.slice ao (proofD L [k]).length cp, .int .i64 0]) ∧ Strs ao (proofD L [k]) w' ∧ (proofD L [k]).length ≤ cp ∧ Below w.heap.size w w' by
    refine (prove_good L t (some ⟨w1.heap.size, 0, none⟩) 1 [k] (w1.alloc (.cells #[.int .u64 (k : Int)] 22)) (h.below hbx) (numOne (cell_new1 _ _ _)) (by simp) (stands_one hs)).mono ?_
    rintro e w' ⟨v, rfl, h1, h2⟩
    obtain ⟨ao, cp, rfl, h3, h4⟩ := strs_cap_of_row h1
    exact ⟨ao, cp, rfl, h3, h4, below_next hbx h2⟩)
  generalize proofD L [k] = Q at *
  clear hx h hw1 hbx hs
  go_enter Tryz.func54, Tryz.ntmps54
  go_upto_region 1 with fail
  rw [← HW.out]
  go_wp2_with (go_at_call 84; with_reducible refine HP.out.mono ?_; rintro e w2 ⟨ao, cp, rfl, h1, h2, h3⟩; have H1 := Lib.hid (And.intro h1 (And.intro h2 h3)); clear h1 h2 h3)
  exact bodyPost_ret (v := .tuple #[.slice ao Q.length cp, .int .i64 0]) (by simp [results, Tryz.results54, go_sem]) rfl ⟨ao, cp, rfl, H1.out.1, H1.out.2.1, H1.out.2.2⟩
theorem pRoot_any (b : Nat) (s : (List UInt8)) (f l n : Nat) (w : World) (h : PLad b s f l n w) : Calls Tryz.prog 14 #[.pointer (some ⟨b, 0, none⟩)] w fun e w' => e = .returned (.string ⟨(rootS s n).toArray⟩) ∧ Below w.heap.size w w' := by
  have HN := Lib.hid (lnone_any b s f l n w h)
  obtain ⟨t, _, _, _, c3, _, ht⟩ := h.cells
  have HR := Lib.hid (groot_any (rungsL s n) t w ht)
  rw [show rootD (rungsL s n) = rootS s n from rfl] at HR
  generalize rootS s n = R at *
  clear h ht
  go_enter Tryz.func14, Tryz.ntmps14
  go_wp2_with (first
    | (go_at_call 42; with_reducible refine HN.out.mono ?_; rintro e w' ⟨rfl, rfl⟩)
    | (go_at_call 43; with_reducible refine HR.out.mono ?_; rintro e w' ⟨rfl, hb⟩; have HB := Lib.hid hb; clear hb))
  go_ret
  exact ⟨rfl, HB.out⟩
theorem pRoot_nil (w : World) : Calls Tryz.prog 14 #[.pointer none] w fun e w' => e = .returned (.string ⟨#[]⟩) ∧ Below w.heap.size w w' := by
  have HN := Lib.hid (lnone_nil w)
  go_enter Tryz.func14, Tryz.ntmps14
  go_wp2_with (go_at_call 42; with_reducible refine HN.out.mono ?_; rintro e w' ⟨rfl, rfl⟩)
  go_ret
  exact ⟨rfl, Below.refl _ _⟩
theorem pKey_any (b : Nat) (s : (List UInt8)) (f l n r : Nat) (w : World) (h : PLad b s f l n w) (hl : 0 < l) (hr : r < 18446744073709551616) : Calls Tryz.prog 18 #[.pointer (some ⟨b, 0, none⟩), .int .u64 (r : Int)] w fun e w' => e = .returned (.tuple #[.int .u64 ((keyF f l n r).1 : Nat), .bool (keyF f l n r).2]) ∧ Below w.heap.size w w' := by
  have HN := Lib.hid (lnone_any b s f l n w h)
  obtain ⟨t, c0, c1, c2, _, _, _⟩ := h.cells
  have HK := Lib.hid (pkey_any f l n r w hl hr)
  generalize (keyF f l n r).1 = k at *
  generalize (keyF f l n r).2 = q at *
  clear h hl hr
  go_enter Tryz.func18, Tryz.ntmps18
  go_wp2_with (first
    | (go_at_call 42; with_reducible refine HN.out.mono ?_; rintro e w' ⟨rfl, rfl⟩)
    | (go_at_call 46; with_reducible refine HK.out.mono ?_; rintro e w' ⟨rfl, hb⟩; have HB := Lib.hid hb; clear hb))
  exact bodyPost_ret (v := .tuple #[.int .u64 (k : Int), .bool q]) (by simp [results, Tryz.results18, go_sem]) rfl ⟨rfl, HB.out⟩
theorem pKey_nil (r : Nat) (w : World) : Calls Tryz.prog 18 #[.pointer none, .int .u64 (r : Int)] w fun e w' => e = .returned (.tuple #[.int .u64 0, .bool false]) ∧ Below w.heap.size w w' := by
  have HN := Lib.hid (lnone_nil w)
  go_enter Tryz.func18, Tryz.ntmps18
  go_wp2_with (go_at_call 42; with_reducible refine HN.out.mono ?_; rintro e w' ⟨rfl, rfl⟩)
  exact bodyPost_ret (v := .tuple #[.int .u64 0, .bool false]) (by simp [results, Tryz.results18, go_sem]) rfl ⟨rfl, Below.refl _ _⟩
set_option maxRecDepth 100000 in
set_option maxHeartbeats 4000000 in
theorem pPart_any (b : Nat) (s : (List UInt8)) (f l n wt : Nat) (w : World) (h : PLad b s f l n w) : Calls Tryz.prog 16 #[.pointer (some ⟨b, 0, none⟩), .int .u64 (wt : Int)] w fun e w' => e = .returned (.agg #[.string ⟨(rootS s n).toArray⟩, .int .u64 (wt : Int), .int .u64 (f : Int), .int .u64 (l : Int), .int .u64 (n : Int)]) ∧ Below w.heap.size w w' := by
  obtain ⟨R, hR⟩ : ∃ R, R = w.heap.size := ⟨_, rfl⟩
  obtain ⟨w1, hw1⟩ : ∃ w1, w1 = w.alloc (.cells #[.string ⟨#[]⟩, .int .u64 0, .int .u64 0, .int .u64 0, .int .u64 0] 39) := ⟨_, rfl⟩
  have hb1 : Below R w w1 := by rw [hw1, hR]; exact by0 w _
  have hx1 : w1.heap[R]? = some (.cells #[.string ⟨#[]⟩, .int .u64 0, .int .u64 0, .int .u64 0, .int .u64 0] 39 (0, 0)) := by rw [hw1, hR]; exact heap_alloc_new w _
  have h1 : PLad b s f l n w1 := h.next (by rw [← hR]; exact hb1)
  have HN := Lib.hid (lnone_any b s f l n w1 h1)
  obtain ⟨t, c0, c1, c2, c3, c4, ht⟩ := h.cells
  have HRT := Lib.hid (fun wz (hz : Below R w wz) => show Calls Tryz.prog 43 #[.agg #[.pointer (some ⟨t, 0, none⟩)]] wz fun e w' => e = .returned (.string ⟨(rootS s n).toArray⟩) ∧ Below wz.heap.size wz w' from groot_any (rungsL s n) t wz (ht.below (by rw [← hR]; exact hz)))
  generalize rootS s n = rt at *
  have HOF := Lib.hid (show ∀ wz, Below R w wz → (wz.cell? ⟨b, 0, none⟩ = some (.int .u64 (f : Int)) ∧ wz.cell? ⟨b, 1, none⟩ = some (.int .u64 (l : Int)) ∧ wz.cell? ⟨b, 2, none⟩ = some (.int .u64 (n : Int)) ∧ wz.cell? ⟨b, 3, none⟩ = some (.pointer (some ⟨t, 0, none⟩)) ∧ Below R w wz) from fun wz hb => ⟨key_keep (by rw [← hR]; exact hb) c0, key_keep (by rw [← hR]; exact hb) c1, key_keep (by rw [← hR]; exact hb) c2, key_keep (by rw [← hR]; exact hb) c3, hb⟩)
  have hS1 := HOF.out _ hb1.drew
  have HRS := Lib.hid (fun wz (hz : (wz.cell? ⟨b, 0, none⟩ = some (.int .u64 (f : Int)) ∧ wz.cell? ⟨b, 1, none⟩ = some (.int .u64 (l : Int)) ∧ wz.cell? ⟨b, 2, none⟩ = some (.int .u64 (n : Int)) ∧ wz.cell? ⟨b, 3, none⟩ = some (.pointer (some ⟨t, 0, none⟩)) ∧ Below R w wz)) => HRT.out wz hz.2.2.2.2)
  have HRR := Lib.hid hR
  have HX1 := Lib.hid (show w1.drew.heap[R]? = some (.cells #[.string ⟨#[]⟩, .int .u64 0, .int .u64 0, .int .u64 0, .int .u64 0] 39 (0, 0)) from hx1)
  have HW1 := Lib.hid hw1
  clear h h1 hb1 hx1 c0 c1 c2 c3 c4 ht HRT hw1
  go_enter Tryz.func16, Tryz.ntmps16
  go_upto_region 1 with fail
  rw [← HW1.out, ← HRR.out]
  clear hR
  go_upto_region 3 with (go_at_call 42; with_reducible refine HN.out.mono ?_; rintro e w' ⟨rfl, rfl⟩)
  go_region_held3 (fun wz => (wz.cell? ⟨b, 0, none⟩ = some (.int .u64 (f : Int)) ∧ wz.cell? ⟨b, 1, none⟩ = some (.int .u64 (l : Int)) ∧ wz.cell? ⟨b, 2, none⟩ = some (.int .u64 (n : Int)) ∧ wz.cell? ⟨b, 3, none⟩ = some (.pointer (some ⟨t, 0, none⟩)) ∧ Below R w wz))
    (first | (with_reducible assumption))
    (first
      | (go_at_call 43; with_reducible refine (HRS.out _ (by with_reducible assumption)).mono ?_; rintro e wa ⟨rfl, hba⟩; have hSa := HOF.out wa (hS1.2.2.2.2.trans (hba.mono (by rw [HRR.out]; exact hS1.2.2.2.2.size))); have hX := (hba.block _ (lit_lt HX1.out)).trans HX1.out; have r0 := (lit_cell hX 0).trans rfl; have r1 := (lit_cell hX 1).trans rfl; have r2 := (lit_cell hX 2).trans rfl; have r3 := (lit_cell hX 3).trans rfl; have r4 := (lit_cell hX 4).trans rfl; have f0 := lit_free hX 0; have f1 := lit_free hX 1; have f2 := lit_free hX 2; have f3 := lit_free hX 3; have f4 := lit_free hX 4; have hT := HOF.out (((((wa.setCell ⟨R, 0, none⟩ (.string ⟨rt.toArray⟩)).setCell ⟨R, 1, none⟩ (.int .u64 (wt : Int))).setCell ⟨R, 2, none⟩ (.int .u64 (f : Int))).setCell ⟨R, 3, none⟩ (.int .u64 (l : Int))).setCell ⟨R, 4, none⟩ (.int .u64 (n : Int))) (((((hSa.2.2.2.2.setCell (p := ⟨R, 0, none⟩) (Nat.le_refl _) _).setCell (p := ⟨R, 1, none⟩) (Nat.le_refl _) _).setCell (p := ⟨R, 2, none⟩) (Nat.le_refl _) _).setCell (p := ⟨R, 3, none⟩) (Nat.le_refl _) _).setCell (p := ⟨R, 4, none⟩) (Nat.le_refl _) _); have HX := Lib.hid hX))
  all_goals
    have hXT := lit_set (k := 4) (.int .u64 (n : Int)) (lit_set (k := 3) (.int .u64 (l : Int)) (lit_set (k := 2) (.int .u64 (f : Int)) (lit_set (k := 1) (.int .u64 (wt : Int)) (lit_set (k := 0) (.string ⟨rt.toArray⟩) HX.out))))
    have v0 := (lit_cell hXT 0).trans rfl
    have v1 := (lit_cell hXT 1).trans rfl
    have v2 := (lit_cell hXT 2).trans rfl
    have v3 := (lit_cell hXT 3).trans rfl
    have v4 := (lit_cell hXT 4).trans rfl
    have HF := Lib.hid hT.2.2.2.2
    clear hXT hT hX r0 r1 r2 r3 r4 f0 f1 f2 f3 f4 hS1 hSa HOF HRS
    generalize (((((wa.setCell ⟨R, 0, none⟩ (.string ⟨rt.toArray⟩)).setCell ⟨R, 1, none⟩ (.int .u64 (wt : Int))).setCell ⟨R, 2, none⟩ (.int .u64 (f : Int))).setCell ⟨R, 3, none⟩ (.int .u64 (l : Int))).setCell ⟨R, 4, none⟩ (.int .u64 (n : Int))) = wT at *
    go_wp2
    refine bodyPost_ret (v := .agg #[.string ⟨rt.toArray⟩, .int .u64 (wt : Int), .int .u64 (f : Int), .int .u64 (l : Int), .int .u64 (n : Int)]) (by simp [results, Tryz.results16, go_sem, v0, v1, v2, v3, v4]) rfl ⟨rfl, by rw [← HRR.out]; exact HF.out⟩
theorem pPart_nil (wt : Nat) (w : World) : Calls Tryz.prog 16 #[.pointer none, .int .u64 (wt : Int)] w fun e w' => e = .returned (.agg #[.string ⟨#[]⟩, .int .u64 0, .int .u64 0, .int .u64 0, .int .u64 0]) ∧ Below w.heap.size w w' := by
  obtain ⟨R, hR⟩ : ∃ R, R = w.heap.size := ⟨_, rfl⟩
  obtain ⟨w1, hw1⟩ : ∃ w1, w1 = w.alloc (.cells #[.string ⟨#[]⟩, .int .u64 0, .int .u64 0, .int .u64 0, .int .u64 0] 39) := ⟨_, rfl⟩
  have hb1 : Below R w w1 := by rw [hw1, hR]; exact by0 w _
  have hX : w1.heap[R]? = some (.cells #[.string ⟨#[]⟩, .int .u64 0, .int .u64 0, .int .u64 0, .int .u64 0] 39 (0, 0)) := by rw [hw1, hR]; exact heap_alloc_new w _
  have HN := Lib.hid (lnone_nil w1)
  have HRR := Lib.hid hR
  have HW1 := Lib.hid hw1
  have HX := Lib.hid hX
  have HB1 := Lib.hid hb1
  have r0 := (lit_cell hX 0).trans rfl
  have r1 := (lit_cell hX 1).trans rfl
  have r2 := (lit_cell hX 2).trans rfl
  have r3 := (lit_cell hX 3).trans rfl
  have r4 := (lit_cell hX 4).trans rfl
  have f0 := lit_free hX 0
  have f1 := lit_free hX 1
  have f2 := lit_free hX 2
  have f3 := lit_free hX 3
  have f4 := lit_free hX 4
  clear hw1 hX hb1
  go_enter Tryz.func16, Tryz.ntmps16
  go_upto_region 1 with fail
  rw [← HW1.out, ← HRR.out]
  clear hR
  go_wp2_with (go_at_call 42; with_reducible refine HN.out.mono ?_; rintro e w' ⟨rfl, rfl⟩)
  clear r0 r1 r2 r3 r4 f0 f1 f2 f3 f4
  have hXT := lit_set (k := 4) (.int .u64 0) (lit_set (k := 3) (.int .u64 0) (lit_set (k := 2) (.int .u64 0) (lit_set (k := 1) (.int .u64 0) (lit_set (k := 0) (.string ⟨#[]⟩) HX.out))))
  have v0 := (lit_cell hXT 0).trans rfl
  have v1 := (lit_cell hXT 1).trans rfl
  have v2 := (lit_cell hXT 2).trans rfl
  have v3 := (lit_cell hXT 3).trans rfl
  have v4 := (lit_cell hXT 4).trans rfl
  have hT := (((((HB1.out.setCell (p := ⟨R, 0, none⟩) (Nat.le_refl _) (.string ⟨#[]⟩)).setCell (p := ⟨R, 1, none⟩) (Nat.le_refl _) (.int .u64 0)).setCell (p := ⟨R, 2, none⟩) (Nat.le_refl _) (.int .u64 0)).setCell (p := ⟨R, 3, none⟩) (Nat.le_refl _) (.int .u64 0)).setCell (p := ⟨R, 4, none⟩) (Nat.le_refl _) (.int .u64 0))
  clear hXT
  generalize (((((w1.setCell ⟨R, 0, none⟩ (.string ⟨#[]⟩)).setCell ⟨R, 1, none⟩ (.int .u64 0)).setCell ⟨R, 2, none⟩ (.int .u64 0)).setCell ⟨R, 3, none⟩ (.int .u64 0)).setCell ⟨R, 4, none⟩ (.int .u64 0)) = wT at *
  refine bodyPost_ret (v := .agg #[.string ⟨#[]⟩, .int .u64 0, .int .u64 0, .int .u64 0, .int .u64 0]) (by simp [results, Tryz.results16, go_sem, v0, v1, v2, v3, v4]) rfl ⟨rfl, by rw [← HRR.out]; exact hT⟩
end Go.Proofs.YtmnklonoelpidaaGreatDoor
/- The program's ladder: whether a signature leads to a root. -/
namespace Go.Proofs.YtmnklonoelpidaaGreatDoor
open Go.RowKit

theorem recover_len (g : List (List UInt8)) (ao : Option Addr) (cp : Nat) (d : (List UInt8)) (w : World) (h : ¬ g.length = 67) (hd : d.length ≤ 1000000000) :
    Calls Tryz.prog 89 #[.slice ao g.length cp, .string ⟨d.toArray⟩] w fun e w' => e = .returned (.tuple #[.string ⟨(recC g d).1.toArray⟩, .int .i64 ((recC g d).2 : Nat)]) ∧ Below w.heap.size w w' := by
  have HNO := Lib.hid (fun wz => wisno_any d wz hd)
  by_cases h32 : d.length = 32
  · rw [decide_eq_false (fun h => h h32)] at HNO
    rw [recC_sig h32 (isSig_len h)]
    have hi : ¬ (g.length : Int) = 67 := by omega
    have HNS := Lib.hid (show Calls Tryz.prog 124 #[.slice ao g.length cp] w fun e w' => e = .returned (.bool true) ∧ w = w' by
      clear HNO h32 h hd
      go_enter Tryz.func124, Tryz.ntmps124
      go_wp2
      go_ret
      exact ⟨rfl, rfl⟩)
    clear h hd h32 hi
    go_enter Tryz.func89, Tryz.ntmps89
    go_wp2_with (first
      | (go_at_call 80; refine (HNO.out _).mono ?_; rintro e w0 ⟨rfl, rfl⟩)
      | (go_at_call 124; refine HNS.out.mono ?_; rintro e w0 ⟨rfl, rfl⟩))
    refine bodyPost_ret (v := .tuple #[.string ⟨#[]⟩, .int .i64 10]) (by simp [results, Tryz.results89, go_sem]) rfl ⟨rfl, Below.refl _ _⟩
  · rw [recC_arg h32]
    rw [decide_eq_true h32] at HNO
    clear h hd h32
    go_enter Tryz.func89, Tryz.ntmps89
    go_wp2_with (go_at_call 80; refine (HNO.out _).mono ?_; rintro e w0 ⟨rfl, rfl⟩)
    refine bodyPost_ret (v := .tuple #[.string ⟨#[]⟩, .int .i64 2]) (by simp [results, Tryz.results89, go_sem]) rfl ⟨rfl, Below.refl _ _⟩
theorem prec_any (g : List (List UInt8)) (ao : Option Addr) (cp : Nat) (d : (List UInt8)) (w : World) (hg : Glob w) (hS : Strs ao g w) (hl : g.length ≤ 1000) (hgl : g.length = 67 → ∀ x ∈ g, x.length ≤ 1000) (hd : d.length ≤ 1000) :
    Calls Tryz.prog 89 #[.slice ao g.length cp, .string ⟨d.toArray⟩] w fun e w' => e = .returned (.tuple #[.string ⟨(recC g d).1.toArray⟩, .int .i64 ((recC g d).2 : Nat)]) ∧ Below w.heap.size w w' := by
  by_cases h : g.length = 67
  · exact wotsC.r g ao cp d w hg hS hl (hgl h) hd
  · exact recover_len g ao cp d w h (by omega)
/-- does a signature lead to a root? -/
def leadB (root : (List UInt8)) (n i : Nat) (d : (List UInt8)) (W P : List (List UInt8)) : Bool := decide ((recC W d).2 = 0 ∧ checkV root n [i] [numL i ++ (recC W d).1] P = 0)
set_option maxRecDepth 100000 in
set_option maxHeartbeats 8000000 in
theorem leads_any (root : (List UInt8)) (wt f l n : Nat) (d : (List UInt8)) (i : Nat) (W P : List (List UInt8)) (wo po : Option Addr) (wc pc : Nat) (w : World) (hg : Glob w) (hn : n ≤ 64) (hW : Strs wo W w) (hP : Strs po P w) (hd : d.length ≤ 1000) (hwl : W.length ≤ 1000) (hwb : W.length = 67 → ∀ x ∈ W, x.length ≤ 1000) (hpc : P.length ≤ pc) (hpl : P.length ≤ 100000) (hpb : (recC W d).2 = 0 → ∀ x ∈ P, x.length ≤ 1000) :
    Calls Tryz.prog 62 #[.agg #[.string ⟨root.toArray⟩, .int .u64 (wt : Int), .int .u64 (f : Int), .int .u64 (l : Int), .int .u64 (n : Int)], .string ⟨d.toArray⟩, .agg #[.int .u64 (i : Int), .slice wo W.length wc, .slice po P.length pc]] w fun e w' => e = .returned (.bool (leadB root n i d W P)) ∧ Below w.heap.size w w' := by
  have HV := Lib.hid (Vb.start w #[.string ⟨root.toArray⟩, .int .u64 (wt : Int), .int .u64 (f : Int), .int .u64 (l : Int), .int .u64 (n : Int)] #[.int .u64 (i : Int), .slice wo W.length wc, .slice po P.length pc])
  have HRC := Lib.hid (fun wz (hb : Below w.heap.size w wz) => prec_any W wo wc d wz (hg.below hg.size hb) (hW.below (Nat.le_refl _) hb) hwl hwb hd)
  have hrc32 := recC_len W d
  by_cases hre : (recC W d).2 = 0
  · have hpb := hpb hre
    have HL := Lib.hid (show leadB root n i d W P = decide (checkV root n [i] [numL i ++ (recC W d).1] P = 0) by simp [leadB, hre])
    rw [HL.out]
    rw [hre] at HRC
    clear HL hre
    generalize (recC W d).1 = pub at *
    have HRU := Lib.hid (fun wz => prung_any i pub wz (by omega))
    have HCK := Lib.hid (fun (X Y : Nat) wz (hb : Below w.heap.size w wz) (hx : wz.cell? ⟨X, 0, none⟩ = some (.int .u64 (i : Int))) (hy : wz.cell? ⟨Y, 0, none⟩ = some (.string ⟨(numL i ++ pub).toArray⟩)) => show Calls Tryz.prog 90 #[.string ⟨root.toArray⟩, .int .i64 (n : Int), .slice (some ⟨X, 0, none⟩) 1 1, .slice (some ⟨Y, 0, none⟩) 1 1, .slice po P.length pc] wz fun e w' => e = .returned (.int .i64 (checkV root n [i] [numL i ++ pub] P)) ∧ Below wz.heap.size wz w' from
      ocheck_any root (n : Int) (by omega) [i] [numL i ++ pub] P (some ⟨X, 0, none⟩) (some ⟨Y, 0, none⟩) po 1 1 pc wz (hg.below hg.size hb) (numOne hx) (strOne hy) (hP.below (Nat.le_refl _) hb) (by simp) (by simp) hpc hpl (fun i hi => by
        have hi0 : i = 0 := by simp at hi; omega
        subst hi0
        show (numL _ ++ pub).length ≤ _
        rw [List.length_append, numL_length]; omega) (fun i hi => Nat.le_trans (hpb _ (List.getElem_mem hi)) (by decide)))
    generalize checkV root n [i] [numL i ++ pub] P = cv at *
    generalize numL i ++ pub = rg at *
    have hn64 : (n : Int) ≤ 64 := by omega
    have hwm : IntKind.i64.wrap (n : Int) = (n : Int) := IntWalk.i64_in _ (by omega)
    clear hd hn hW hP hpc hpl hpb hrc32 hg hwl hwb
    go_enter Tryz.func62, Tryz.ntmps62
    have d1 := (lit_cell HV.out.y 1).trans rfl
    go_upto_region 1 with fail
    generalize (w.alloc (.cells #[.string ⟨root.toArray⟩, .int .u64 (wt : Int), .int .u64 (f : Int), .int .u64 (l : Int), .int .u64 (n : Int)] 39)).alloc (.cells #[.int .u64 (i : Int), .slice wo W.length wc, .slice po P.length pc] 48) = w1 at *
    go_upto_region 4 with (go_at_call 89; with_reducible refine (HRC.out _ HV.out.o).mono ?_; rintro e w3 ⟨rfl, hb3⟩; have HV3 := Lib.hid (HV.out.next hb3); clear hb3)
    clear d1
    go_cut [8] from 34 (fun s8 wx => s8 = .int .i64 cv ∧ Hid (Vb w #[.string ⟨root.toArray⟩, .int .u64 (wt : Int), .int .u64 (f : Int), .int .u64 (l : Int), .int .u64 (n : Int)] #[.int .u64 (i : Int), .slice wo W.length wc, .slice po P.length pc] wx))
    case first =>
      have HOF := Lib.hid (show ∀ wz, Vb w #[.string ⟨root.toArray⟩, .int .u64 (wt : Int), .int .u64 (f : Int), .int .u64 (l : Int), .int .u64 (n : Int)] #[.int .u64 (i : Int), .slice wo W.length wc, .slice po P.length pc] wz → (wz.cell? ⟨w.heap.size, 0, none⟩ = some (.string ⟨root.toArray⟩) ∧ wz.cell? ⟨w.heap.size, 4, none⟩ = some (.int .u64 (n : Int)) ∧ wz.cell? ⟨w.heap.size + 1, 0, none⟩ = some (.int .u64 (i : Int)) ∧ wz.cell? ⟨w.heap.size + 1, 2, none⟩ = some (.slice po P.length pc) ∧ Vb w #[.string ⟨root.toArray⟩, .int .u64 (wt : Int), .int .u64 (f : Int), .int .u64 (l : Int), .int .u64 (n : Int)] #[.int .u64 (i : Int), .slice wo W.length wc, .slice po P.length pc] wz) from fun wz h => ⟨(lit_cell h.x 0).trans rfl, (lit_cell h.x 4).trans rfl, (lit_cell h.y 0).trans rfl, (lit_cell h.y 2).trans rfl, h⟩)
      have HGET := Lib.hid (show ∀ wz, (wz.cell? ⟨w.heap.size, 0, none⟩ = some (.string ⟨root.toArray⟩) ∧ wz.cell? ⟨w.heap.size, 4, none⟩ = some (.int .u64 (n : Int)) ∧ wz.cell? ⟨w.heap.size + 1, 0, none⟩ = some (.int .u64 (i : Int)) ∧ wz.cell? ⟨w.heap.size + 1, 2, none⟩ = some (.slice po P.length pc) ∧ Vb w #[.string ⟨root.toArray⟩, .int .u64 (wt : Int), .int .u64 (f : Int), .int .u64 (l : Int), .int .u64 (n : Int)] #[.int .u64 (i : Int), .slice wo W.length wc, .slice po P.length pc] wz) → Vb w #[.string ⟨root.toArray⟩, .int .u64 (wt : Int), .int .u64 (f : Int), .int .u64 (l : Int), .int .u64 (n : Int)] #[.int .u64 (i : Int), .slice wo W.length wc, .slice po P.length pc] wz from fun wz h => h.2.2.2.2)
      have HRU2 := Lib.hid (fun wz (hv : Vb w #[.string ⟨root.toArray⟩, .int .u64 (wt : Int), .int .u64 (f : Int), .int .u64 (l : Int), .int .u64 (n : Int)] #[.int .u64 (i : Int), .slice wo W.length wc, .slice po P.length pc] wz) => (HRU.out wz).mono fun e w' (h : e = .returned (.string ⟨rg.toArray⟩) ∧ Below wz.heap.size wz w') => (show e = .returned (.string ⟨rg.toArray⟩) ∧ Below wz.heap.size wz w' ∧ Vb w #[.string ⟨root.toArray⟩, .int .u64 (wt : Int), .int .u64 (f : Int), .int .u64 (l : Int), .int .u64 (n : Int)] #[.int .u64 (i : Int), .slice wo W.length wc, .slice po P.length pc] w' from ⟨h.1, h.2, hv.next h.2⟩))
      have HCK2 := Lib.hid (fun (X Y : Nat) wz (hv : Vb w #[.string ⟨root.toArray⟩, .int .u64 (wt : Int), .int .u64 (f : Int), .int .u64 (l : Int), .int .u64 (n : Int)] #[.int .u64 (i : Int), .slice wo W.length wc, .slice po P.length pc] wz) (hx : wz.cell? ⟨X, 0, none⟩ = some (.int .u64 (i : Int))) (hy : wz.cell? ⟨Y, 0, none⟩ = some (.string ⟨rg.toArray⟩)) => (HCK.out X Y wz hv.o hx hy).mono fun e w' (h : e = .returned (.int .i64 cv) ∧ Below wz.heap.size wz w') => (show e = .returned (.int .i64 cv) ∧ Vb w #[.string ⟨root.toArray⟩, .int .u64 (wt : Int), .int .u64 (f : Int), .int .u64 (l : Int), .int .u64 (n : Int)] #[.int .u64 (i : Int), .slice wo W.length wc, .slice po P.length pc] w' from ⟨h.1, hv.next h.2⟩))
      have hS1 := HOF.out _ (HV3.out.next (Below.refl _ _).drew)
      have HAL := Lib.hid (show ∀ (wz : World) (o : Obj), (wz.cell? ⟨w.heap.size, 0, none⟩ = some (.string ⟨root.toArray⟩) ∧ wz.cell? ⟨w.heap.size, 4, none⟩ = some (.int .u64 (n : Int)) ∧ wz.cell? ⟨w.heap.size + 1, 0, none⟩ = some (.int .u64 (i : Int)) ∧ wz.cell? ⟨w.heap.size + 1, 2, none⟩ = some (.slice po P.length pc) ∧ Vb w #[.string ⟨root.toArray⟩, .int .u64 (wt : Int), .int .u64 (f : Int), .int .u64 (l : Int), .int .u64 (n : Int)] #[.int .u64 (i : Int), .slice wo W.length wc, .slice po P.length pc] wz) → ((wz.alloc o).cell? ⟨w.heap.size, 0, none⟩ = some (.string ⟨root.toArray⟩) ∧ (wz.alloc o).cell? ⟨w.heap.size, 4, none⟩ = some (.int .u64 (n : Int)) ∧ (wz.alloc o).cell? ⟨w.heap.size + 1, 0, none⟩ = some (.int .u64 (i : Int)) ∧ (wz.alloc o).cell? ⟨w.heap.size + 1, 2, none⟩ = some (.slice po P.length pc) ∧ Vb w #[.string ⟨root.toArray⟩, .int .u64 (wt : Int), .int .u64 (f : Int), .int .u64 (l : Int), .int .u64 (n : Int)] #[.int .u64 (i : Int), .slice wo W.length wc, .slice po P.length pc] (wz.alloc o)) from fun wz o h => HOF.out _ (h.2.2.2.2.next (by0 wz o)))
      have a1 : ∀ o, ((w3.alloc o).drew.cell? ⟨w.heap.size, 0, none⟩ = some (.string ⟨root.toArray⟩) ∧ (w3.alloc o).drew.cell? ⟨w.heap.size, 4, none⟩ = some (.int .u64 (n : Int)) ∧ (w3.alloc o).drew.cell? ⟨w.heap.size + 1, 0, none⟩ = some (.int .u64 (i : Int)) ∧ (w3.alloc o).drew.cell? ⟨w.heap.size + 1, 2, none⟩ = some (.slice po P.length pc) ∧ Vb w #[.string ⟨root.toArray⟩, .int .u64 (wt : Int), .int .u64 (f : Int), .int .u64 (l : Int), .int .u64 (n : Int)] #[.int .u64 (i : Int), .slice wo W.length wc, .slice po P.length pc] (w3.alloc o).drew) := fun o => HOF.out _ ((HV3.out.next (by0 w3 o)).next (Below.refl _ _).drew)
      go_region_held3 (fun wz => (wz.cell? ⟨w.heap.size, 0, none⟩ = some (.string ⟨root.toArray⟩) ∧ wz.cell? ⟨w.heap.size, 4, none⟩ = some (.int .u64 (n : Int)) ∧ wz.cell? ⟨w.heap.size + 1, 0, none⟩ = some (.int .u64 (i : Int)) ∧ wz.cell? ⟨w.heap.size + 1, 2, none⟩ = some (.slice po P.length pc) ∧ Vb w #[.string ⟨root.toArray⟩, .int .u64 (wt : Int), .int .u64 (f : Int), .int .u64 (l : Int), .int .u64 (n : Int)] #[.int .u64 (i : Int), .slice wo W.length wc, .slice po P.length pc] wz))
        (first | (with_reducible assumption) | (with_reducible exact a1 _) | (with_reducible exact b1 _) | (with_reducible exact HAL.out _ _ (b1 _)))
        (first
          | (go_at_call 72; with_reducible refine (HRU2.out _ ?_).mono ?_; (focus (first | (with_reducible assumption) | (exact HGET.out _ (by with_reducible assumption)) | (with_reducible exact HGET.out _ (a1 _)) | (with_reducible exact HGET.out _ (b1 _)) | (with_reducible exact HGET.out _ (HAL.out _ _ (b1 _))))); rintro e wa ⟨rfl, hba, hva⟩; have hSa := HOF.out _ hva; have b1 := fun o => HAL.out wa o hSa; (first | (have kA : wa.cell? ⟨w3.heap.size, 0, none⟩ = some (.int .u64 (i : Int)) := key_keep hba ((cell_drew1 _ _).trans (cell_new1 w3 _ _))) | (have kA : True := trivial)))
          | (go_at_call 90; with_reducible refine (HCK2.out _ _ _ ?_ ?_ ?_).mono ?_; (focus (first | (with_reducible assumption) | (exact HGET.out _ (by with_reducible assumption)) | (with_reducible exact HGET.out _ (a1 _)) | (with_reducible exact HGET.out _ (b1 _)) | (with_reducible exact HGET.out _ (HAL.out _ _ (b1 _))))); (focus (first | (exact key_keep (by0 _ _) kA) | (exact cell_old1 _ _ _ _) | (exact cell_new2 _ _ _ _) | (exact cell_new1 _ _ _))); (focus (first | (exact cell_new1 _ _ _) | (exact cell_new2 _ _ _ _) | (exact cell_old1 _ _ _ _))); rintro e wb ⟨rfl, hvb⟩; have hSb := HOF.out _ hvb))
      all_goals
        have HF := Lib.hid hSb.2.2.2.2
        go_wp2
        go_meet
        exact ⟨rfl, HF⟩
    case rest =>
      obtain ⟨rfl, HVC⟩ := hcut
      clear HRC HRU HCK
      by_cases h1 : cv = 0
      · subst h1
        go_wp2
        go_ret
        exact ⟨by simp, HVC.out.o⟩
      · go_wp2
        go_ret
        exact ⟨by simp [h1], HVC.out.o⟩
  · have HL := Lib.hid (show leadB root n i d W P = false by simp [leadB, hre])
    rw [HL.out]
    obtain ⟨e2, he2⟩ : ∃ e2, (recC W d).2 = e2 := ⟨_, rfl⟩
    rw [he2] at HRC
    have he0 : ((e2 : Int) != 0) = true := by simp; omega
    generalize (recC W d).1 = pub at *
    clear HL hre he2 hd hn hW hP hpc hpl hpb hrc32 hg hwl hwb
    go_enter Tryz.func62, Tryz.ntmps62
    have d1 := (lit_cell HV.out.y 1).trans rfl
    go_upto_region 1 with fail
    generalize (w.alloc (.cells #[.string ⟨root.toArray⟩, .int .u64 (wt : Int), .int .u64 (f : Int), .int .u64 (l : Int), .int .u64 (n : Int)] 39)).alloc (.cells #[.int .u64 (i : Int), .slice wo W.length wc, .slice po P.length pc] 48) = w1 at *
    go_wp2_with (go_at_call 89; with_reducible refine (HRC.out _ HV.out.o).mono ?_; rintro e w3 ⟨rfl, hb3⟩; have HV3 := Lib.hid (HV.out.next hb3); clear hb3)
    go_ret
    exact ⟨rfl, HV3.out.o⟩
end Go.Proofs.YtmnklonoelpidaaGreatDoor
