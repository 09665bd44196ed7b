/- With: another element. -/
import Derived.Test.YtjfhcckadibhgaaDoorAj
namespace Go.Proofs.YtjfhcckadibhgaaDoor
open Go.RowKit

/-- the leaves, one of them another -/
def gSet (g : Nat → (List UInt8)) (i : Nat) (D : (List UInt8)) : Nat → (List UInt8) := fun j => if j = i then D else g j
theorem gSet_len {g : Nat → (List UInt8)} {i : Nat} {D : (List UInt8)} (h : ∀ k, (g k).length ≤ 32) (hD : D.length ≤ 32) : ∀ k, (gSet g i D k).length ≤ 32 := fun k => by
  unfold gSet
  split
  · exact hD
  · exact h k
theorem range_of {l k j : Nat} (h1 : k * 2 ^ l ≤ j) (h2 : j < (k + 1) * 2 ^ l) : j / 2 ^ l = k := by
  rw [Nat.div_eq_iff (Nat.two_pow_pos l)]
  rw [Nat.succ_mul] at h2
  omega
/-- off the way nothing turns -/
theorem InT.off {g : Nat → (List UInt8)} {w : World} {l k b i : Nat} {D : (List UInt8)} (h : InT g w l k b) (hne : k ≠ i / 2 ^ l) : InT (gSet g i D) w l k b := h.congr fun j h1 h2 => by
  unfold gSet
  rw [if_neg]
  rintro rfl
  exact hne (range_of h1 h2).symm
theorem InT.set {g : Nat → (List UInt8)} {w : World} {l k b K o : Nat} {v : Value} {cs : Array Value} (h : InT g w l k b) (hK : w.heap[K]? = some (Obj.cells cs 59 (0, 0))) : InT g (w.setCell ⟨K, o, none⟩ v) l k b :=
  h.keep fun c C e => lit_far _ (by
    rintro rfl
    rw [e] at hK
    cases hK)
theorem glob_set {w : World} {K o : Nat} {v : Value} (h : Glob w) (hK : 2 ≤ K) : Glob (w.setCell ⟨K, o, none⟩ v) := h.below (B := K) hK ((Below.refl K w).setCell (Nat.le_refl _) v)
theorem InT.node {g : Nat → (List UInt8)} {w : World} {l k c x y : Nat} (hx : InT g w l (2 * k) x) (hy : InT g w l (2 * k + 1) y) (hc : w.heap[c]? = some (Obj.cells #[.string ⟨(hashL nodeT [dg g l (2 * k), dg g l (2 * k + 1)]).toArray⟩, .pointer (some ⟨x, 0, none⟩), .pointer (some ⟨y, 0, none⟩)] 61 (0, 0))) : InT g w (l + 1) k c := ⟨x, y, hc, hx, hy⟩
theorem InT.at_ {g : Nat → (List UInt8)} {w : World} {l k b : Nat} (h : InT g w l k b) : PlaceAt w b (dg g l k) := h.blk
/-- what the closure holds -/
structure Cl (e5 a9 f10 : Nat) (E : (List UInt8)) (i : Nat) (w : World) : Prop where
  e : w.cell? ⟨e5, 0, none⟩ = some (.string ⟨E.toArray⟩)
  a : w.cell? ⟨a9, 0, none⟩ = some (.int .u64 (i : Int))
  f : w.cell? ⟨f10, 0, none⟩ = some (.func (.func 33) #[] #[.pointer (some ⟨e5, 0, none⟩), .pointer (some ⟨a9, 0, none⟩), .pointer (some ⟨f10, 0, none⟩)])
theorem Cl.below {e5 a9 f10 : Nat} {E : (List UInt8)} {i : Nat} {w w' : World} (h : Cl e5 a9 f10 E i w) (hb : Below w.heap.size w w') : Cl e5 a9 f10 E i w' := by
  have k : ∀ {c o : Nat} {v : Value}, w.cell? ⟨c, o, none⟩ = some v → w'.cell? ⟨c, o, none⟩ = some v := fun hc => (World.cell?_of_block (hb.block _ (World.block_lt_of_cell? w _ hc))).trans hc
  exact ⟨k h.e, k h.a, k h.f⟩
set_option maxRecDepth 100000 in
set_option maxHeartbeats 1000000 in
theorem anew_any (g : Nat → (List UInt8)) (hgl : ∀ k, (g k).length ≤ 32) (e5 a9 f10 : Nat) (E : (List UInt8)) (hE : E.length ≤ 10000000) (i : Nat) (hi : i < 18446744073709551616) : ∀ (l b : Nat) (w : World), l ≤ 16 → Glob w → Cl e5 a9 f10 E i w → InT g w l (i / 2 ^ l) b →
    Calls Tryd.prog 33 #[.pointer (some ⟨b, 0, none⟩), .int .i64 (l : Int), .pointer (some ⟨e5, 0, none⟩), .pointer (some ⟨a9, 0, none⟩), .pointer (some ⟨f10, 0, none⟩)] w fun e w' => ∃ c, e = .returned (.pointer (some ⟨c, 0, none⟩)) ∧ InT (gSet g i (hashL leafT [E])) w' l (i / 2 ^ l) c ∧ Below w.heap.size w w'
  | 0, b, w, _, hg, hC, hT => by
    have HL := Lib.hid (tleaf_any E w hg hE)
    have c1 := hC.e
    have h0 : (((0 : Nat) : Int) == 0) = true := by decide
    have HG : Hid (∀ w' c, w'.heap[c]? = some (Obj.cells #[.string ⟨(hashL leafT [E]).toArray⟩, .pointer none, .pointer none] 61 (0, 0)) → InT (gSet g i (hashL leafT [E])) w' 0 (i / 2 ^ 0) c) := Lib.hid fun w' c h => by
      unfold InT gSet
      rw [Nat.pow_zero, Nat.div_one, if_pos rfl]
      exact h
    clear hC hT
    go_enter Tryd.func33, Tryd.ntmps33
    go_wp2_with (go_at_call 34; refine HL.out.mono ?_; rintro e w1 ⟨c, rfl, hc, hcs, hb1⟩)
    go_ret
    exact ⟨c, rfl, HG.out _ _ hc, hb1⟩
  | l + 1, b, w, hl, hg, hC, hT => by
    have IH := Lib.hid (fun b w => anew_any g hgl e5 a9 f10 E hE i hi l b w (by omega))
    obtain ⟨x, y, hb, hx, hy⟩ := hT
    have hHalf := half_pow i l
    have d1 := (lit_cell hb 1).trans rfl
    have d2 := (lit_cell hb 2).trans rfl
    have ca := hC.a
    have HS := Lib.hid (fun w => side_any i l hi (by omega) w)
    have h0 : (((l + 1 : Nat) : Int) == 0) = false := by rw [beq_eq_false_iff_ne]; omega
    have e1 : ((l + 1 : Nat) : Int) - 1 = (l : Int) := by omega
    have e2 : IntKind.i64.wrap (l : Int) = (l : Int) := by rw [IntKind.wrap_i64]; omega
    have HX := Lib.hid (hx.below (by0 w (.cells #[.pointer (some ⟨x, 0, none⟩), .pointer (some ⟨y, 0, none⟩)] 59)))
    have HY := Lib.hid (hy.below (by0 w (.cells #[.pointer (some ⟨x, 0, none⟩), .pointer (some ⟨y, 0, none⟩)] 59)))
    have HP := Lib.hid (heap_alloc_new w (.cells #[.pointer (some ⟨x, 0, none⟩), .pointer (some ⟨y, 0, none⟩)] 59))
    have HBW := Lib.hid (by0 w (.cells #[.pointer (some ⟨x, 0, none⟩), .pointer (some ⟨y, 0, none⟩)] 59))
    have HG1 := Lib.hid (hg.below hg.size HBW.out)
    have HC1 := Lib.hid (hC.below HBW.out)
    have hsz := hg.size
    have HSZ : Hid (2 ≤ (w.alloc (.cells #[.pointer (some ⟨x, 0, none⟩), .pointer (some ⟨y, 0, none⟩)] 59)).heap.size ∧ 2 ≤ w.heap.size ∧ w.heap.size < (w.alloc (.cells #[.pointer (some ⟨x, 0, none⟩), .pointer (some ⟨y, 0, none⟩)] 59)).heap.size) := Lib.hid (by simp; omega)
    generalize hq : l + 1 = q at *
    have HQ := Lib.hid hq
    clear hb hx hy hC hg hl hq hsz
    go_enter Tryd.func33, Tryd.ntmps33
    go_upto_region 4 with fail
    change Code.wp _ _ _ _ (w.alloc (.cells #[.pointer (some ⟨x, 0, none⟩), .pointer (some ⟨y, 0, none⟩)] 59))
    generalize w.alloc (.cells #[.pointer (some ⟨x, 0, none⟩), .pointer (some ⟨y, 0, none⟩)] 59) = w1 at *
    generalize hKe : w.heap.size = K at *
    have p0 := (lit_cell HP.out 0).trans rfl
    have p1 := (lit_cell HP.out 1).trans rfl
    have ca := HC1.out.a
    have cf := HC1.out.f
    clear d1 d2
    rcases Nat.mod_two_eq_zero_or_one (i / 2 ^ l) with hs | hs
    · rw [hs] at HS
      have HE := Lib.hid (show i / 2 ^ l = 2 * (i / 2 ^ q) from by omega)
      have HI := Lib.hid (IH.out x w1.drew (HG1.out.below HSZ.out.1 (Below.refl _ _).drew) (HC1.out.below (Below.refl _ _).drew) (by rw [HE.out]; exact HX.out.below (Below.refl _ _).drew))
      clear hs hHalf IH
      go_wp2_with (go_at_call 31; refine (HS.out _).mono ?_; rintro e w' ⟨rfl, rfl⟩)
      go_region_with
        (first | (go_at_call 33; refine HI.out.mono ?_; rintro e w2 ⟨c, rfl, hc, hb2⟩; have hp2 := (hb2.block K HSZ.out.2.2).trans HP.out; have q0 := (lit_cell hp2 0).trans rfl; have f0 := lit_free hp2 0))
      all_goals
        have hp3 := lit_set (k := 0) (.pointer (some ⟨c, 0, none⟩)) hp2
        have hcx : InT (gSet g i (hashL leafT [E])) (w2.setCell ⟨K, 0, none⟩ (.pointer (some ⟨c, 0, none⟩))) l (2 * (i / 2 ^ q)) c := by
          have h := hc.set (o := 0) (v := .pointer (some ⟨c, 0, none⟩)) hp2
          rwa [HE.out] at h
        have hoy := ((HY.out.off (i := i) (D := hashL leafT [E]) (by have := HE.out; omega)).below (w' := w2) ((Below.refl _ _).drew.trans hb2)).set (o := 0) (v := .pointer (some ⟨c, 0, none⟩)) hp2
        have hg3 := glob_set (o := 0) (v := .pointer (some ⟨c, 0, none⟩)) (HG1.out.below HSZ.out.1 ((Below.refl _ _).drew.trans hb2)) (K := K) HSZ.out.2.1
        have HN := Lib.hid (tnode_any c y _ _ _ hg3 hcx.at_ hoy.at_ (dg_len (gSet_len hgl (hashL_len _ _)) _ _) (dg_len (gSet_len hgl (hashL_len _ _)) _ _))
        have HFX := Lib.hid hcx
        have HFY := Lib.hid hoy
        have hb3 : Below K w (w2.setCell ⟨K, 0, none⟩ (.pointer (some ⟨c, 0, none⟩))) := (HBW.out.trans (((Below.refl _ _).drew.trans hb2).mono (Nat.le_of_lt HSZ.out.2.2))).setCell (Nat.le_refl K) _
        have HB3 := Lib.hid hb3
        clear hcx hoy hg3 hb3 hc hb2 hp2
        generalize w2.setCell ⟨K, 0, none⟩ (.pointer (some ⟨c, 0, none⟩)) = w3 at *
        have r0 := (lit_cell hp3 0).trans rfl
        have r1 := (lit_cell hp3 1).trans rfl
        go_wp2_with (go_at_call 35; refine HN.out.mono ?_; rintro e w4 ⟨z, rfl, hz, hzs, hb4⟩)
        go_ret
        exact ⟨z, rfl, by have h := HQ.out; subst h; exact (HFX.out.below hb4).node (HFY.out.below hb4) hz, by rw [hKe]; exact HB3.out.trans (hb4.mono (by have := HB3.out.size; have := HSZ.out; omega))⟩
    · rw [hs] at HS
      have HE := Lib.hid (show i / 2 ^ l = 2 * (i / 2 ^ q) + 1 from by omega)
      have HI := Lib.hid (IH.out y w1.drew (HG1.out.below HSZ.out.1 (Below.refl _ _).drew) (HC1.out.below (Below.refl _ _).drew) (by rw [HE.out]; exact HY.out.below (Below.refl _ _).drew))
      clear hs hHalf IH
      go_wp2_with (go_at_call 31; refine (HS.out _).mono ?_; rintro e w' ⟨rfl, rfl⟩)
      go_region_with
        (first | (go_at_call 33; refine HI.out.mono ?_; rintro e w2 ⟨c, rfl, hc, hb2⟩; have hp2 := (hb2.block K HSZ.out.2.2).trans HP.out; have q1 := (lit_cell hp2 1).trans rfl; have f1 := lit_free hp2 1))
      all_goals
        have hp3 := lit_set (k := 1) (.pointer (some ⟨c, 0, none⟩)) hp2
        have hcx : InT (gSet g i (hashL leafT [E])) (w2.setCell ⟨K, 1, none⟩ (.pointer (some ⟨c, 0, none⟩))) l (2 * (i / 2 ^ q) + 1) c := by
          have h := hc.set (o := 1) (v := .pointer (some ⟨c, 0, none⟩)) hp2
          rwa [HE.out] at h
        have hox := ((HX.out.off (i := i) (D := hashL leafT [E]) (by have := HE.out; omega)).below (w' := w2) ((Below.refl _ _).drew.trans hb2)).set (o := 1) (v := .pointer (some ⟨c, 0, none⟩)) hp2
        have hg3 := glob_set (o := 1) (v := .pointer (some ⟨c, 0, none⟩)) (HG1.out.below HSZ.out.1 ((Below.refl _ _).drew.trans hb2)) (K := K) HSZ.out.2.1
        have HN := Lib.hid (tnode_any x c _ _ _ hg3 hox.at_ hcx.at_ (dg_len (gSet_len hgl (hashL_len _ _)) _ _) (dg_len (gSet_len hgl (hashL_len _ _)) _ _))
        have HFX := Lib.hid hox
        have HFY := Lib.hid hcx
        have hb3 : Below K w (w2.setCell ⟨K, 1, none⟩ (.pointer (some ⟨c, 0, none⟩))) := (HBW.out.trans (((Below.refl _ _).drew.trans hb2).mono (Nat.le_of_lt HSZ.out.2.2))).setCell (Nat.le_refl K) _
        have HB3 := Lib.hid hb3
        clear hcx hox hg3 hb3 hc hb2 hp2
        generalize w2.setCell ⟨K, 1, none⟩ (.pointer (some ⟨c, 0, none⟩)) = w3 at *
        have r0 := (lit_cell hp3 0).trans rfl
        have r1 := (lit_cell hp3 1).trans rfl
        go_wp2_with (go_at_call 35; refine HN.out.mono ?_; rintro e w4 ⟨z, rfl, hz, hzs, hb4⟩)
        go_ret
        exact ⟨z, rfl, by have h := HQ.out; subst h; exact (HFX.out.below hb4).node (HFY.out.below hb4) hz, by rw [hKe]; exact HB3.out.trans (hb4.mono (by have := HB3.out.size; have := HSZ.out; omega))⟩
end Go.Proofs.YtjfhcckadibhgaaDoor
