/- The row above. -/
import Derived.Test.YtjfhcckadibhgaaDoorAg
import Derived.Deep.AppendLies
namespace Go.Proofs.YtjfhcckadibhgaaDoor
open Go.RowKit
attribute [local go_sem] Oper.semAt_some

theorem infoP9 : (Tryd.prog.info? 53).map (fun i => (i.zero, i.size, i.bytes)) = some (some (.pointer none), 1, 8) := by kernel_rfl
theorem chunk_any (B n cap : Nat) (w : World) : Calls Tryd.prog 41 #[.slice (some ⟨B, 0, none⟩) n cap, .int .i64 2] w fun e w' => e = .returned (.func (.func 59) #[] #[.pointer (some ⟨w.heap.size, 0, none⟩), .pointer (some ⟨w.heap.size + 1, 0, none⟩)]) ∧ w' = (w.alloc (.cells #[.slice (some ⟨B, 0, none⟩) n cap] 50)).alloc (.cells #[.int .i64 2] 3) := by
  go_enter Tryd.func41, Tryd.ntmps41
  go_wp2
  go_ret
  exact ⟨by simp, rfl⟩
/-- k places of the row above, in a row that the variable at b4 holds; the kids are those of the world w -/
def AbAt (g : Nat → (List UInt8)) (w : World) (l lo b4 k : Nat) (W : World) : Prop :=
  ∃ (v : Value) (xs : List Value), W.heap[b4]? = some (.cells #[v] 50 (0, 0)) ∧ W.ownsRow (lo + 2) 53 1 v k xs ∧
    ∀ i, i < k → ∃ b x y, xs[i]? = some (.pointer (some ⟨b, 0, none⟩)) ∧ lo + 2 ≤ b ∧ W.heap[b]? = some (.cells #[.string ⟨(dg g (l + 1) i).toArray⟩, .pointer (some ⟨x, 0, none⟩), .pointer (some ⟨y, 0, none⟩)] 61 (0, 0)) ∧ InT g w l (2 * i) x ∧ InT g w l (2 * i + 1) y
theorem AbAt.kept {g : Nat → (List UInt8)} {w : World} {l lo b4 k : Nat} {W W' : World} {S : Nat → Prop} (h : AbAt g w l lo b4 k W) (hk : Kept S W W') (h4 : S b4) (hS : ∀ j, lo + 2 ≤ j → S j) : AbAt g w l lo b4 k W' := by
  obtain ⟨v, xs, h1, h2, h3⟩ := h
  refine ⟨v, xs, (hk.block b4 (lit_lt h1) h4).trans h1, own_kept h2 hk hS, fun i hi => ?_⟩
  obtain ⟨b, x, y, e1, e2, e3, e4, e5⟩ := h3 i hi
  exact ⟨b, x, y, e1, e2, (hk.block b (lit_lt e3) (hS b e2)).trans e3, e4, e5⟩
theorem ab_step {g : Nat → (List UInt8)} {w : World} {l lo b4 k : Nat} {W w1 : World} {v : Value} {xs : List Value} {p x y : Nat} (h4 : b4 < lo) (hz : lo + 2 ≤ W.heap.size) (hk : k ≤ 100000)
    (hcell : W.heap[b4]? = some (.cells #[v] 50 (0, 0))) (hown : W.ownsRow (lo + 2) 53 1 v k xs)
    (hrows : ∀ i, i < k → ∃ b x y, xs[i]? = some (.pointer (some ⟨b, 0, none⟩)) ∧ lo + 2 ≤ b ∧ W.heap[b]? = some (.cells #[.string ⟨(dg g (l + 1) i).toArray⟩, .pointer (some ⟨x, 0, none⟩), .pointer (some ⟨y, 0, none⟩)] 61 (0, 0)) ∧ InT g w l (2 * i) x ∧ InT g w l (2 * i + 1) y)
    (hx : InT g w l (2 * k) x) (hy : InT g w l (2 * k + 1) y)
    (hb : Below W.heap.size W w1) (hp : w1.heap[p]? = some (.cells #[.string ⟨(dg g (l + 1) k).toArray⟩, .pointer (some ⟨x, 0, none⟩), .pointer (some ⟨y, 0, none⟩)] 61 (0, 0))) (hps : W.heap.size ≤ p) :
    ∃ (g2 cp : Nat) (w2 : World), (Builtin.append_ #[50, 50] 50 #[v, .slice (some ⟨w1.heap.size, 0, none⟩) 1 1]).run Tryd.prog (w1.alloc (.cells #[.pointer (some ⟨p, 0, none⟩)] 53)) = .ok (.slice (some ⟨g2, 0, none⟩) (k + 1) cp) w2 ∧
      w1.cell? ⟨b4, 0, none⟩ = some v ∧ w2.cell? ⟨b4, 0, none⟩ = some v ∧ w2.frozen? ⟨b4, 0, none⟩ = false ∧
      Kept (fun j => (j < lo ∧ j ∉ [b4]) ∨ (lo ≤ j ∧ j < lo + 2)) W (w2.setCell ⟨b4, 0, none⟩ (.slice (some ⟨g2, 0, none⟩) (k + 1) cp)) ∧
      AbAt g w l lo b4 (k + 1) (w2.setCell ⟨b4, 0, none⟩ (.slice (some ⟨g2, 0, none⟩) (k + 1) cp)) := by
  obtain ⟨i0, hi, hz0, hz1, hz2⟩ := info_parts infoP9
  have hsz := hb.size
  have kb : Kept (fun j => j < W.heap.size) W w1 := Kept.of_below hb fun j h => h
  have ka : Kept (fun j => j < W.heap.size) W (w1.alloc (.cells #[.pointer (some ⟨p, 0, none⟩)] 53)) := kb.alloc _
  have ho1 : w1.ownsRow (lo + 2) 53 1 v k xs := by
    refine ⟨hown.1, ?_⟩
    rcases hown.2 with h | ⟨g, cap, cur, h0, h1, h2, h3⟩
    · exact .inl h
    · exact .inr ⟨g, cap, cur, h0, h1, (hb.block g (Array.getElem?_eq_some_iff.1 h2).1).trans h2, h3⟩
  obtain ⟨v2, w2, hrun, ho2, hg2, _⟩ := run_append_own (P := Tryd.prog) (w := w1.alloc (.cells #[.pointer (some ⟨p, 0, none⟩)] 53)) (lo + 2) 50 50 53 i0 (.pointer none) 1 8 Tryd.underlying50 hi hz0 hz1 hz2 rfl (by decide) v k xs (ho1.alloc _) ⟨w1.heap.size, 0, none⟩ 1 1 [.pointer (some ⟨p, 0, none⟩)] rfl (cell_one_new _ _ _)
    (by intro u hu; simp at hu; subst hu; rfl) (by unfold maxLen; omega) (by omega) (by simp; omega)
  obtain ⟨g2, cp, rfl⟩ := ownsRow_succ ho2
  have hv4 : ∀ j, some j = v.ownBlock → lo + 2 ≤ j := fun j e => (hown.lt j e.symm).1
  have kw : Kept (fun j => j < lo + 2) W w2 := (ka.less (fun j _ h => by omega)).grown hg2 (fun j e _ h => by have := hv4 j e; omega)
  have c2 : w2.heap[b4]? = some (.cells #[v] 50 (0, 0)) := (kw.block b4 (by omega) (by omega)).trans hcell
  have ks : Kept (fun j => (j < lo ∧ j ∉ [b4]) ∨ (lo ≤ j ∧ j < lo + 2)) W (w2.setCell ⟨b4, 0, none⟩ (.slice (some ⟨g2, 0, none⟩) (k + 1) cp)) := (kw.less (fun j _ h => by rcases h with h | h <;> omega)).setCell b4 0 _ (fun _ h => h.elim (fun h => h.2 (by simp)) (fun h => by omega))
  refine ⟨g2, cp, w2, hrun, by simp [World.cell?, (kb.block b4 (by omega) (by omega)).trans hcell], by simp [World.cell?, c2], by simp [World.frozen?, c2], ks, ?_⟩
  have k2 : Kept (fun j => j ≠ b4) w2 (w2.setCell ⟨b4, 0, none⟩ (.slice (some ⟨g2, 0, none⟩) (k + 1) cp)) := (Kept.refl _ w2).setCell b4 0 _ (fun _ h => h rfl)
  -- a place of w1 is a place behind the append
  have kp : ∀ (b : Nat) (C : Array Value), lo + 2 ≤ b → w1.heap[b]? = some (.cells C 61 (0, 0)) → (w2.setCell ⟨b4, 0, none⟩ (.slice (some ⟨g2, 0, none⟩) (k + 1) cp)).heap[b]? = some (.cells C 61 (0, 0)) := by
    intro b C hlb hC
    have hne : some b ≠ v.ownBlock := by
      intro e
      rcases ho1.2 with ⟨rfl, _⟩ | ⟨g3, cap3, cur3, rfl, _, hg3, _⟩
      · cases e
      · cases e
        exact place_type hC hg3 rfl
    have e1 : w2.heap[b]? = (w1.alloc (.cells #[.pointer (some ⟨p, 0, none⟩)] 53)).heap[b]? := hg2.block b (by rw [World.size_alloc]; have := lit_lt hC; omega) hne
    exact (k2.block b (by have := hg2.size; rw [World.size_alloc] at this; have := lit_lt hC; omega) (show b ≠ b4 by omega)).trans (e1.trans (lit_old _ hC))
  have hxl : xs.length = k := by simpa using hown.1
  refine ⟨_, xs ++ [.pointer (some ⟨p, 0, none⟩)], ?_, own_kept ho2 k2 (fun j hj => by omega), fun i hik => ?_⟩
  · show (w2.heap.modify b4 _)[b4]? = _
    rw [Array.getElem?_modify, if_pos rfl, c2]
    rfl
  · by_cases hlt : i < k
    · obtain ⟨b, x', y', e1, e2, e3, e4, e5⟩ := hrows i hlt
      refine ⟨b, x', y', ?_, e2, kp b _ e2 ((hb.block b (lit_lt e3)).trans e3), e4, e5⟩
      rw [List.getElem?_append_left (by omega)]
      exact e1
    · obtain rfl : i = k := by omega
      refine ⟨p, x, y, ?_, by omega, kp p _ (by omega) hp, hx, hy⟩
      rw [← hxl, List.getElem?_concat_length]
set_option maxRecDepth 100000 in
set_option maxHeartbeats 4000000 in
theorem above_any (g : Nat → (List UInt8)) (hgl : ∀ k, (g k).length ≤ 32) (l m B cap : Nat) (w : World) (hg : Glob w) (hr : RowT g w l (2 * m) B) (hm : 1 ≤ m ∧ m ≤ 65536) (hcap : 2 * m ≤ cap) :
    Calls Tryd.prog 27 #[.slice (some ⟨B, 0, none⟩) (2 * m) cap] w fun e w' => ∃ B' cp, e = .returned (.slice (some ⟨B', 0, none⟩) m cp) ∧ m ≤ cp ∧ RowT g w' (l + 1) m B' ∧ Below w.heap.size w w' := by
  obtain ⟨b4, hb4⟩ : ∃ b4, b4 = w.heap.size := ⟨_, rfl⟩
  obtain ⟨w1, hw1⟩ : ∃ w1, w.alloc (.cells #[.slice none 0 0] 50) = w1 := ⟨_, rfl⟩
  have hz1 : w1.heap.size = b4 + 1 := by rw [← hw1, World.size_alloc, hb4]
  have hn1 : w1.heap[b4]? = some (.cells #[.slice none 0 0] 50 (0, 0)) := by rw [← hw1, hb4]; exact heap_alloc_new _ _
  have hb1 : Below b4 w w1 := by rw [← hw1]; exact (Below.refl _ _).alloc (by omega) _
  obtain ⟨w3, hw3⟩ : ∃ w3, (w1.alloc (.cells #[.slice (some ⟨B, 0, none⟩) (2 * m) cap] 50)).alloc (.cells #[.int .i64 2] 3) = w3 := ⟨_, rfl⟩
  have hz3 : w3.heap.size = b4 + 3 := by rw [← hw3, World.size_alloc, World.size_alloc, hz1]
  have hk3 : Below (b4 + 1) w1 w3 := by rw [← hw3]; exact ((Below.refl _ _).alloc (by omega) _).alloc (by simp; omega) _
  have hq1 : w3.cell? ⟨b4 + 1, 0, none⟩ = some (.slice (some ⟨B, 0, none⟩) (2 * m) cap) := by
    rw [← hw3, ← hz1]; exact (World.cell?_alloc_lt _ _ _ (by simp)).trans (by simp)
  have hq2 : w3.cell? ⟨b4 + 2, 0, none⟩ = some (.int .i64 2) := by
    rw [← hw3, show b4 + 2 = (w1.alloc (.cells #[.slice (some ⟨B, 0, none⟩) (2 * m) cap] 50)).heap.size by simp; omega]; simp
  have hb3 : Below b4 w w3 := hb1.trans (hk3.mono (by omega))
  have hn3 : w3.heap[b4]? = some (.cells #[.slice none 0 0] 50 (0, 0)) := (hk3.block _ (by omega)).trans hn1
  have hr3 : RowT g w3 l (2 * m) B := hr.below (by rw [← hb4]; exact hb3)
  have hBlt := hr.lt
  have HV := Lib.hid (chunk_any B (2 * m) cap w1)
  rw [hw3, hz1] at HV
  have HG3 : Hid (Glob w3 ∧ 2 ≤ b4) := Lib.hid ⟨hg.below hg.size (by rw [← hb4]; exact hb3), by have := hg.size; omega⟩
  have HW := Lib.hid (And.intro hb3 (And.intro hn3 (And.intro hr3 (And.intro hq1 hq2))))
  have HB := Lib.hid (And.intro hb4 (And.intro hBlt (And.intro hm hcap)))
  have HZ3 := Lib.hid hz3
  have hB' : w.heap.size = b4 := hb4.symm
  clear hb4 hb1 hb3 hn1 hn3 hr3 hq1 hq2 hk3 hw3 hz1 hz3 hr hBlt hm hcap hg
  refine calls_of_wp_marks Tryd.func27 rfl ?_
  simp only [Tryd.ntmps27, List.size_toArray, List.length_cons, List.length_nil, Nat.reduceAdd, Nat.reduceSub, Array.replicate_succ, Array.replicate_zero, List.push_toArray, List.append_toArray, List.nil_append, List.cons_append]
  go_wp2_with (go_at_call 41; refine HV.out.mono ?_; rintro e wx ⟨rfl, hwx⟩; have hwx := hwx.symm; subst hwx)
  obtain ⟨hb3, hn3, hr3, hq1, hq2⟩ := HW.out
  refine wp_rangeFunc_read (gf := 59) (lb := #[.pointer (some ⟨b4 + 1, 0, none⟩), .pointer (some ⟨b4 + 2, 0, none⟩)]) rfl (enters_of Tryd.func59 (by kernel_rfl) rfl)
    (chunk_hands (b4 + 1) (b4 + 2) B m cap HB.out.2.2.1.2 HB.out.2.2.2) (fun _ => rfl) (b4 + 3) HZ3.out [b4] ?ok
    (fun k W => AbAt g w3 l (b4 + 3) b4 k W ∧ Kept (fun j => j < b4 + 3 ∧ j ∉ [b4]) w3 W ∧ b4 + 3 ≤ W.heap.size) ?keep ?start
    (fun k => { tmps := #[.slice (some ⟨B, 0, none⟩) (2 * m) cap, undef, .slice none 0 0, .pointer (some ⟨b4, 0, none⟩), .slice (some ⟨B, 2 * k, none⟩) 2 2, .slice (some ⟨B, 0, none⟩) (2 * m) cap, .func (.func 59) #[] #[.pointer (some ⟨b4 + 1, 0, none⟩), .pointer (some ⟨b4 + 2, 0, none⟩)], .slice (some ⟨B, 2 * k, none⟩) 2 2, undef, undef, undef, undef, undef, undef, undef, undef], defers := [] }) ?assign ?body ?done
  case ok =>
    intro W' hW'
    have hz := HZ3.out
    exact ⟨(World.cell?_of_block (a := ⟨b4 + 1, 0, none⟩) (hW'.block (b4 + 1) (by omega) ⟨by omega, by simp⟩)).trans hq1, (World.cell?_of_block (a := ⟨b4 + 2, 0, none⟩) (hW'.block (b4 + 2) (by omega) ⟨by omega, by simp⟩)).trans hq2⟩
  case keep =>
    rintro k W W' ⟨h, h2, hz⟩ hk
    exact ⟨h.kept hk (.inl (by omega)) (fun j hj => .inr (by omega)), h2.trans (hk.less fun j _ hj => .inl hj.1), by have := hk.size; omega⟩
  case start => exact ⟨⟨.slice none 0 0, [], hn3, World.ownsRow_nil _ _ _ _, fun i hi => absurd hi (Nat.not_lt_zero _)⟩, Kept.refl _ _, by rw [HZ3.out]; omega⟩
  case assign =>
    intro l k W K hK
    gi_wp2
    exact hK
  case body =>
    rintro l' k W hkm hWz ⟨⟨v, vs, hcell, hown, hrows⟩, hkp3, hz⟩
    obtain ⟨x, hx0, hx⟩ := hr3.at_ (2 * k) (by omega)
    obtain ⟨y, hy0, hy⟩ := hr3.at_ (2 * k + 1) (by omega)
    have hB3 : B < b4 + 3 ∧ B ∉ [b4] := ⟨by have := HB.out.1; have := HB.out.2.1; omega, by simp; have := HB.out.1; have := HB.out.2.1; omega⟩
    have eB : W.heap[B]? = w3.heap[B]? := hkp3.block B hr3.lt hB3
    have cx : W.cell? ⟨B, 2 * k, none⟩ = some (.pointer (some ⟨x, 0, none⟩)) := (World.cell?_of_block (a := ⟨B, 2 * k, none⟩) eB).trans hx0
    have cy : W.cell? ⟨B, 2 * k + 1, none⟩ = some (.pointer (some ⟨y, 0, none⟩)) := (World.cell?_of_block (a := ⟨B, 2 * k + 1, none⟩) eB).trans hy0
    have hpl : ∀ (b : Nat) (C : Array Value), w3.heap[b]? = some (Obj.cells C 61 (0, 0)) → W.drew.heap[b]? = some (Obj.cells C 61 (0, 0)) := fun b C e => (hkp3.block b (lit_lt e) ⟨by have := lit_lt e; rw [HZ3.out] at this; exact this, by
      intro h
      rw [List.mem_singleton] at h
      subst h
      rw [e] at hn3
      cases hn3⟩).trans e
    have hPx : PlaceAt W.drew x (dg g l (2 * k)) := by obtain ⟨a, c, e⟩ := hx.blk; exact ⟨a, c, hpl _ _ e⟩
    have hPy : PlaceAt W.drew y (dg g l (2 * k + 1)) := by obtain ⟨a, c, e⟩ := hy.blk; exact ⟨a, c, hpl _ _ e⟩
    have hGW : Glob W.drew := HG3.out.1.below (B := 2) (Nat.le_refl _) ⟨hkp3.os, hkp3.tape, hkp3.output, hkp3.size, fun j hj => hkp3.block j (by rw [HZ3.out]; omega) ⟨by omega, by simp; have := HG3.out.2; omega⟩⟩
    have HND := Lib.hid (tnode_any x y _ _ W.drew hGW hPx hPy (dg_len hgl _ _) (dg_len hgl _ _))
    have hc4 : W.cell? ⟨b4, 0, none⟩ = some v := by simp [World.cell?, hcell]
    have HST := Lib.hid (fun (w1 : World) (b : Nat) (hbel : Below W.drew.heap.size W.drew w1) (hbc : w1.heap[b]? = some (.cells #[.string ⟨(dg g (l + 1) k).toArray⟩, .pointer (some ⟨x, 0, none⟩), .pointer (some ⟨y, 0, none⟩)] 61 (0, 0))) (hbs : W.drew.heap.size ≤ b) => ab_step (g := g) (w := w3) (l := l) (lo := b4 + 3) (b4 := b4) (k := k) (W := W.drew) (w1 := w1) (v := v) (xs := vs) (p := b) (x := x) (y := y) (by omega) hWz (by have := HB.out.2.2.1.2; omega) hcell (own_kept hown (S := fun _ => True) (Kept.refl _ W).drew (fun _ _ => trivial)) hrows hx hy hbel hbc hbs)
    have HFIN := Lib.hid (show ∀ W'', Kept (fun j => (j < b4 + 3 ∧ j ∉ [b4]) ∨ (b4 + 3 ≤ j ∧ j < b4 + 3 + 2)) W W'' → Kept (fun j => j < b4 + 3 ∧ j ∉ [b4]) w3 W'' ∧ b4 + 3 ≤ W''.heap.size from fun W'' h => ⟨hkp3.trans (h.less fun j _ hj => .inl hj), by have := h.size; omega⟩)
    have hAP : ∀ w : World, (Instr.arrayAt 59 (.slice (some ⟨B, 2 * k, none⟩) 2 2)).run Tryd.prog w = .ok (.pointer (some ⟨B, 2 * k, none⟩)) w := fun w => by
      simp [Instr.arrayAt, run_underlying Tryd.underlying59]
    have hmo : Tryd.prog.follows .mixedOrders = true := by kernel_rfl
    clear hown hcell hrows hx0 hy0 hx hy hPx hPy hGW hpl eB hB3 hkp3

    gi_wp2
    refine wpIn_region_any hmo ?_
    change wpAnyIn _ _ _ _ _ _ _ _ _ (World.drew _)
    refine wpAnyIn_ready (rs := [0, 1]) (by kernel_rfl) (by simp) (AllReadyIn.cons rfl (fun K hK => ?_) (AllReadyIn.cons rfl (fun K hK => ?_) AllReadyIn.nil))
    · go_simp
      refine hK _ _ ?_
      clear hK K
      refine wpAnyIn_ready (rs := [1]) (by kernel_rfl) (by simp) (AllReadyIn.cons rfl (fun K hK => ?_) AllReadyIn.nil)
      go_simp
      refine hK _ _ ?_
      clear hK K
      refine wpAnyIn_ready (rs := [2]) (by kernel_rfl) (by simp) (AllReadyIn.cons rfl (fun K hK => ?_) AllReadyIn.nil)
      go_simp
      refine hK _ _ ?_
      clear hK K
      refine wpAnyIn_ready (rs := [3]) (by kernel_rfl) (by simp) (AllReadyIn.cons rfl (fun K hK => ?_) AllReadyIn.nil)
      go_simp
      refine hK _ _ ?_
      clear hK K
      refine wpAnyIn_ready (rs := [4]) (by kernel_rfl) (by simp) (AllReadyIn.cons rfl (fun K hK => ?_) AllReadyIn.nil)
      go_simp
      refine ⟨trivial, rfl, (CallsIn.inRound l' (callsIn_wide.2 HND.out)).mono ?_⟩
      rintro e w1 ⟨b, rfl, hbc, hbs, hbel⟩
      obtain ⟨g2, cp, w2, hrun, e1, e2, e3, hkp, hat⟩ := HST.out w1 b hbel hbc hbs
      have HKP := Lib.hid ((Kept.refl _ W).drew.trans hkp)
      have HAT := Lib.hid hat
      have e4 : (w1.alloc (.cells #[.pointer (some ⟨b, 0, none⟩)] 53)).cell? ⟨b4, 0, none⟩ = some v := (World.cell?_alloc_lt _ _ _ (World.block_lt_of_cell? w1 _ e1)).trans e1
      clear hkp hat hbc hbs hbel
      refine hK _ _ ?_
      clear hK K
      refine wpAnyIn_ready (rs := [5]) (by kernel_rfl) (by simp) (AllReadyIn.cons rfl (fun K hK => ?_) AllReadyIn.nil)
      go_simp
      refine hK _ _ ?_
      clear hK K
      refine wpAnyIn_ready (rs := [6]) (by kernel_rfl) (by simp) (AllReadyIn.cons rfl (fun K hK => ?_) AllReadyIn.nil)
      refine step_append_in rfl _ _ 50 rfl rfl rfl hrun ?_
      go_frame
      refine hK _ _ ?_
      clear hK K
      refine wpAnyIn_ready (rs := [7]) (by kernel_rfl) (by simp) (AllReadyIn.cons rfl (fun K hK => ?_) AllReadyIn.nil)
      go_simp
      refine hK _ _ ?_
      clear hK K
      refine wpAnyIn_done (by kernel_rfl) ?_ _
      exact ⟨HKP.out, HAT.out, HFIN.out _ HKP.out⟩
    · go_simp
      refine hK _ _ ?_
      clear hK K
      refine wpAnyIn_ready (rs := [0, 2]) (by kernel_rfl) (by simp) (AllReadyIn.cons rfl (fun K hK => ?_) (AllReadyIn.cons rfl (fun K hK => ?_) AllReadyIn.nil))
      · go_simp
        refine hK _ _ ?_
        clear hK K
        refine wpAnyIn_ready (rs := [2]) (by kernel_rfl) (by simp) (AllReadyIn.cons rfl (fun K hK => ?_) AllReadyIn.nil)
        go_simp
        refine hK _ _ ?_
        clear hK K
        refine wpAnyIn_ready (rs := [3]) (by kernel_rfl) (by simp) (AllReadyIn.cons rfl (fun K hK => ?_) AllReadyIn.nil)
        go_simp
        refine hK _ _ ?_
        clear hK K
        refine wpAnyIn_ready (rs := [4]) (by kernel_rfl) (by simp) (AllReadyIn.cons rfl (fun K hK => ?_) AllReadyIn.nil)
        go_simp
        refine ⟨trivial, rfl, (CallsIn.inRound l' (callsIn_wide.2 HND.out)).mono ?_⟩
        rintro e w1 ⟨b, rfl, hbc, hbs, hbel⟩
        obtain ⟨g2, cp, w2, hrun, e1, e2, e3, hkp, hat⟩ := HST.out w1 b hbel hbc hbs
        have HKP := Lib.hid ((Kept.refl _ W).drew.trans hkp)
        have HAT := Lib.hid hat
        have e4 : (w1.alloc (.cells #[.pointer (some ⟨b, 0, none⟩)] 53)).cell? ⟨b4, 0, none⟩ = some v := (World.cell?_alloc_lt _ _ _ (World.block_lt_of_cell? w1 _ e1)).trans e1
        clear hkp hat hbc hbs hbel
        refine hK _ _ ?_
        clear hK K
        refine wpAnyIn_ready (rs := [5]) (by kernel_rfl) (by simp) (AllReadyIn.cons rfl (fun K hK => ?_) AllReadyIn.nil)
        go_simp
        refine hK _ _ ?_
        clear hK K
        refine wpAnyIn_ready (rs := [6]) (by kernel_rfl) (by simp) (AllReadyIn.cons rfl (fun K hK => ?_) AllReadyIn.nil)
        refine step_append_in rfl _ _ 50 rfl rfl rfl hrun ?_
        go_frame
        refine hK _ _ ?_
        clear hK K
        refine wpAnyIn_ready (rs := [7]) (by kernel_rfl) (by simp) (AllReadyIn.cons rfl (fun K hK => ?_) AllReadyIn.nil)
        go_simp
        refine hK _ _ ?_
        clear hK K
        refine wpAnyIn_done (by kernel_rfl) ?_ _
        exact ⟨HKP.out, HAT.out, HFIN.out _ HKP.out⟩
      · go_simp
        refine hK _ _ ?_
        clear hK K
        refine wpAnyIn_ready (rs := [0, 3]) (by kernel_rfl) (by simp) (AllReadyIn.cons rfl (fun K hK => ?_) (AllReadyIn.cons rfl (fun K hK => ?_) AllReadyIn.nil))
        · go_simp
          refine hK _ _ ?_
          clear hK K
          refine wpAnyIn_ready (rs := [3]) (by kernel_rfl) (by simp) (AllReadyIn.cons rfl (fun K hK => ?_) AllReadyIn.nil)
          go_simp
          refine hK _ _ ?_
          clear hK K
          refine wpAnyIn_ready (rs := [4]) (by kernel_rfl) (by simp) (AllReadyIn.cons rfl (fun K hK => ?_) AllReadyIn.nil)
          go_simp
          refine ⟨trivial, rfl, (CallsIn.inRound l' (callsIn_wide.2 HND.out)).mono ?_⟩
          rintro e w1 ⟨b, rfl, hbc, hbs, hbel⟩
          obtain ⟨g2, cp, w2, hrun, e1, e2, e3, hkp, hat⟩ := HST.out w1 b hbel hbc hbs
          have HKP := Lib.hid ((Kept.refl _ W).drew.trans hkp)
          have HAT := Lib.hid hat
          have e4 : (w1.alloc (.cells #[.pointer (some ⟨b, 0, none⟩)] 53)).cell? ⟨b4, 0, none⟩ = some v := (World.cell?_alloc_lt _ _ _ (World.block_lt_of_cell? w1 _ e1)).trans e1
          clear hkp hat hbc hbs hbel
          refine hK _ _ ?_
          clear hK K
          refine wpAnyIn_ready (rs := [5]) (by kernel_rfl) (by simp) (AllReadyIn.cons rfl (fun K hK => ?_) AllReadyIn.nil)
          go_simp
          refine hK _ _ ?_
          clear hK K
          refine wpAnyIn_ready (rs := [6]) (by kernel_rfl) (by simp) (AllReadyIn.cons rfl (fun K hK => ?_) AllReadyIn.nil)
          refine step_append_in rfl _ _ 50 rfl rfl rfl hrun ?_
          go_frame
          refine hK _ _ ?_
          clear hK K
          refine wpAnyIn_ready (rs := [7]) (by kernel_rfl) (by simp) (AllReadyIn.cons rfl (fun K hK => ?_) AllReadyIn.nil)
          go_simp
          refine hK _ _ ?_
          clear hK K
          refine wpAnyIn_done (by kernel_rfl) ?_ _
          exact ⟨HKP.out, HAT.out, HFIN.out _ HKP.out⟩
        · go_simp
          refine hK _ _ ?_
          clear hK K
          refine wpAnyIn_ready (rs := [0, 4]) (by kernel_rfl) (by simp) (AllReadyIn.cons rfl (fun K hK => ?_) (AllReadyIn.cons rfl (fun K hK => ?_) AllReadyIn.nil))
          · go_simp
            refine hK _ _ ?_
            clear hK K
            refine wpAnyIn_ready (rs := [4]) (by kernel_rfl) (by simp) (AllReadyIn.cons rfl (fun K hK => ?_) AllReadyIn.nil)
            go_simp
            refine ⟨trivial, rfl, (CallsIn.inRound l' (callsIn_wide.2 HND.out)).mono ?_⟩
            rintro e w1 ⟨b, rfl, hbc, hbs, hbel⟩
            obtain ⟨g2, cp, w2, hrun, e1, e2, e3, hkp, hat⟩ := HST.out w1 b hbel hbc hbs
            have HKP := Lib.hid ((Kept.refl _ W).drew.trans hkp)
            have HAT := Lib.hid hat
            have e4 : (w1.alloc (.cells #[.pointer (some ⟨b, 0, none⟩)] 53)).cell? ⟨b4, 0, none⟩ = some v := (World.cell?_alloc_lt _ _ _ (World.block_lt_of_cell? w1 _ e1)).trans e1
            clear hkp hat hbc hbs hbel
            refine hK _ _ ?_
            clear hK K
            refine wpAnyIn_ready (rs := [5]) (by kernel_rfl) (by simp) (AllReadyIn.cons rfl (fun K hK => ?_) AllReadyIn.nil)
            go_simp
            refine hK _ _ ?_
            clear hK K
            refine wpAnyIn_ready (rs := [6]) (by kernel_rfl) (by simp) (AllReadyIn.cons rfl (fun K hK => ?_) AllReadyIn.nil)
            refine step_append_in rfl _ _ 50 rfl rfl rfl hrun ?_
            go_frame
            refine hK _ _ ?_
            clear hK K
            refine wpAnyIn_ready (rs := [7]) (by kernel_rfl) (by simp) (AllReadyIn.cons rfl (fun K hK => ?_) AllReadyIn.nil)
            go_simp
            refine hK _ _ ?_
            clear hK K
            refine wpAnyIn_done (by kernel_rfl) ?_ _
            exact ⟨HKP.out, HAT.out, HFIN.out _ HKP.out⟩
          · go_simp
            refine ⟨trivial, rfl, (CallsIn.inRound l' (callsIn_wide.2 HND.out)).mono ?_⟩
            rintro e w1 ⟨b, rfl, hbc, hbs, hbel⟩
            obtain ⟨g2, cp, w2, hrun, e1, e2, e3, hkp, hat⟩ := HST.out w1 b hbel hbc hbs
            have HKP := Lib.hid ((Kept.refl _ W).drew.trans hkp)
            have HAT := Lib.hid hat
            have e4 : (w1.alloc (.cells #[.pointer (some ⟨b, 0, none⟩)] 53)).cell? ⟨b4, 0, none⟩ = some v := (World.cell?_alloc_lt _ _ _ (World.block_lt_of_cell? w1 _ e1)).trans e1
            clear hkp hat hbc hbs hbel
            refine hK _ _ ?_
            clear hK K
            refine wpAnyIn_ready (rs := [0, 5]) (by kernel_rfl) (by simp) (AllReadyIn.cons rfl (fun K hK => ?_) (AllReadyIn.cons rfl (fun K hK => ?_) AllReadyIn.nil))
            · go_simp
              refine hK _ _ ?_
              clear hK K
              refine wpAnyIn_ready (rs := [5]) (by kernel_rfl) (by simp) (AllReadyIn.cons rfl (fun K hK => ?_) AllReadyIn.nil)
              go_simp
              refine hK _ _ ?_
              clear hK K
              refine wpAnyIn_ready (rs := [6]) (by kernel_rfl) (by simp) (AllReadyIn.cons rfl (fun K hK => ?_) AllReadyIn.nil)
              refine step_append_in rfl _ _ 50 rfl rfl rfl hrun ?_
              go_frame
              refine hK _ _ ?_
              clear hK K
              refine wpAnyIn_ready (rs := [7]) (by kernel_rfl) (by simp) (AllReadyIn.cons rfl (fun K hK => ?_) AllReadyIn.nil)
              go_simp
              refine hK _ _ ?_
              clear hK K
              refine wpAnyIn_done (by kernel_rfl) ?_ _
              exact ⟨HKP.out, HAT.out, HFIN.out _ HKP.out⟩
            · go_simp
              refine hK _ _ ?_
              clear hK K
              refine wpAnyIn_ready (rs := [0]) (by kernel_rfl) (by simp) (AllReadyIn.cons rfl (fun K hK => ?_) AllReadyIn.nil)
              go_simp
              refine hK _ _ ?_
              clear hK K
              refine wpAnyIn_ready (rs := [6]) (by kernel_rfl) (by simp) (AllReadyIn.cons rfl (fun K hK => ?_) AllReadyIn.nil)
              refine step_append_in rfl _ _ 50 rfl rfl rfl hrun ?_
              go_frame
              refine hK _ _ ?_
              clear hK K
              refine wpAnyIn_ready (rs := [7]) (by kernel_rfl) (by simp) (AllReadyIn.cons rfl (fun K hK => ?_) AllReadyIn.nil)
              go_simp
              refine hK _ _ ?_
              clear hK K
              refine wpAnyIn_done (by kernel_rfl) ?_ _
              exact ⟨HKP.out, HAT.out, HFIN.out _ HKP.out⟩
  case done =>
    rintro W ⟨⟨v, xs, hcell, hown, hrows⟩, hkp3, hz⟩ hkept hdef
    have hc4 : W.cell? ⟨b4, 0, none⟩ = some v := by simp [World.cell?, hcell]
    have HR := Lib.hid (And.intro hown (And.intro hrows hkp3))
    have HH3 := Lib.hid hb3
    clear hcell hown hrows hkept hkp3
    go_wp2
    refine ⟨by simp, .inl ⟨_, _, rfl, run_takeDeferred hdef, ?_⟩⟩
    obtain ⟨hown, hrows, hkp3⟩ := HR.out
    have kp : Kept (fun j => j ≠ b4 + 3) W (W.putObj (b4 + 3) (.deferred none)) := Kept.putObj _ _ _ _ (by simp)
    have hbw := (hkp3.trans (kp.less (T := fun j => j < b4 + 3 ∧ j ∉ [b4]) fun j _ h => by omega)).below (B := b4) (by rw [HZ3.out]; omega) (fun j h => ⟨by omega, by simp; omega⟩)
    generalize hWe : W.putObj (b4 + 3) (.deferred none) = We at *
    obtain ⟨h1, ⟨h2, h3⟩ | ⟨g2, cp, cur, rfl, h3, h4, h5, h6, h7⟩⟩ := hown
    · exfalso
      have := HB.out.2.2.1.1
      omega
    refine ⟨_, results_tmp rfl _ _ _, g2, cp, rfl, ?_, ⟨⟨cur, (kp.block g2 (lit_lt h4) (show g2 ≠ b4 + 3 by omega)).trans h4, ?_⟩, fun k hk => ?_⟩, by rw [hB']; exact HH3.out.trans hbw⟩
    · exact h5
    · have := h7.1; omega
    · obtain ⟨b, x, y, e1, e2, e3, e4, e5⟩ := hrows k hk
      have kk : ∀ (c : Nat) (C : Array Value), w3.heap[c]? = some (Obj.cells C 61 (0, 0)) → We.heap[c]? = w3.heap[c]? := fun c C e => by
        have hlt := lit_lt e
        rw [HZ3.out] at hlt
        have hne : c ≠ b4 := by
          intro h
          subst h
          rw [e] at hn3
          cases hn3
        exact (kp.block c (by have := hkp3.size; rw [HZ3.out] at this; omega) (show c ≠ b4 + 3 by omega)).trans (hkp3.block c (by rw [HZ3.out]; exact hlt) ⟨hlt, by simp; exact hne⟩)
      refine ⟨b, ?_, x, y, (kp.block b (lit_lt e3) (show b ≠ b4 + 3 by omega)).trans e3, e4.keep kk, e5.keep kk⟩
      have e6 : (cur.toList.take (m * 1))[k]? = some (.pointer (some ⟨b, 0, none⟩)) := by rw [h7.2]; exact e1
      rw [List.getElem?_take_of_lt (by omega), Array.getElem?_toList] at e6
      exact (World.cell?_of_block (a := ⟨g2, k, none⟩) (kp.block g2 (lit_lt h4) (show g2 ≠ b4 + 3 by omega))).trans ((lit_cell h4 k).trans e6)
end Go.Proofs.YtjfhcckadibhgaaDoor
