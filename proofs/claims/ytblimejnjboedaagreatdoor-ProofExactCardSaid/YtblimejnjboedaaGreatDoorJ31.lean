/- The row above: slices.Chunk by pairs. -/
import Derived.Test.YtblimejnjboedaaGreatDoorJ30
import Derived.Deep.AppendLies
namespace Go.Proofs.YtblimejnjboedaaGreatDoor
open Go.RowKit

set_option maxRecDepth 100000 in
set_option maxHeartbeats 2000000 in
theorem chunk_hands (b1 b2 B m cap : Nat) (hm : m ≤ 65536) (hcap : 2 * m ≤ cap) : HandsRead Tryz.prog 84 #[.pointer (some ⟨b1, 0, none⟩), .pointer (some ⟨b2, 0, none⟩)] (fun k => #[.slice (some ⟨B, 2 * k, none⟩) 2 2]) m
      (fun W => W.cell? ⟨b1, 0, none⟩ = some (.slice (some ⟨B, 0, none⟩) (2 * m) cap) ∧ W.cell? ⟨b2, 0, none⟩ = some (.int .i64 2)) := by
  rintro l J W hok hY h0
  have HY := Lib.hid hY
  have HJ0 := Lib.hid h0
  have HOK := Lib.hid hok
  clear hY h0 hok
  refine (callsIn_wide (n := 1)).1 ?_
  refine callsIn_of_wp Tryz.func84 rfl trivial ?_ rfl
  simp only [Tryz.ntmps84, List.size_toArray, List.length_cons, List.length_nil, Nat.reduceAdd, Nat.reduceSub, Array.replicate_succ, Array.replicate_zero, List.push_toArray, List.append_toArray, List.nil_append, List.cons_append]
  gi_wp2
  gi_loopw [4, 5] (fun i s5 wr => ∃ k : Nat, k ≤ m ∧ i = .int .i64 ((2 * k : Nat) : Int) ∧ Hid (∃ W1, J k W1 ∧ Kept (fun _ => True) W1 wr) ∧ Hid (wr.cell? ⟨b1, 0, none⟩ = some (.slice (some ⟨B, 0, none⟩) (2 * m) cap) ∧ wr.cell? ⟨b2, 0, none⟩ = some (.int .i64 2))) (fun i _ _ => 2 * m - (intOf i).toNat)
  case atStart => exact ⟨0, by omega, rfl, Lib.hid ⟨W, HJ0.out, Kept.refl _ _⟩, HOK⟩
  case round =>
    obtain ⟨k, hk, rfl, HJ, HC⟩ := hrel
    obtain ⟨c1, c2⟩ := HC.out
    by_cases hlt : k < m
    · have hl : ((2 * k : Nat) : Int) < ((2 * m : Nat) : Int) := by omega
      have hl0 : (0 : Int) ≤ ((2 * k : Nat) : Int) := by omega
      have hl2 : ((2 * k : Nat) : Int) ≤ ((2 * m : Nat) : Int) := by omega
      generalize hK : 2 * k = K at *
      generalize hM : 2 * m = M at *
      have hne : ¬ cap = K := by omega
      gi_wp2
      refine wpIn_wide.2 ?_
      go_region_held3 (fun w' => w'.cell? ⟨b1, 0, none⟩ = some (.slice (some ⟨B, 0, none⟩) M cap) ∧ w'.cell? ⟨b2, 0, none⟩ = some (.int .i64 2)) (first | (with_reducible assumption) | (exact ⟨c1, c2⟩)) (fail)
      all_goals
        have hmn : min (2 : Int) ((M - K : Nat) : Int) = 2 := by omega
        rw [hmn]
        clear hmn
        have e1 : wr.drew.cell? ⟨b1, 0, none⟩ = some (.slice (some ⟨B, 0, none⟩) M cap) := c1
        have e2 : wr.drew.cell? ⟨b2, 0, none⟩ = some (.int .i64 2) := c2
        obtain ⟨W1, hj1, hk1⟩ := HJ.out
        have HY2 := HY.out k W1 wr.drew hlt hj1 hk1.drew
        have hK2 : K + 2 ≤ M := by omega
        clear hj1 hk1 hne
        rw [hK] at HY2
        obtain ⟨fn, tmps, assign, body, hy, hR⟩ := HY2
        gi_wp2
        refine hR.mono ?_
        rintro e w2 ⟨rfl, hj2, hok2⟩
        have HJ2 := Lib.hid hj2
        have HO2 := Lib.hid hok2
        obtain ⟨f1, f2⟩ := hok2
        clear hR hy hj2 e1 e2 c1 c2
        gi_wp2
        go_roundw
        case rel => exact ⟨k + 1, by omega, by rw [← hK]; go_num, Lib.hid ⟨w2, HJ2.out, Kept.refl _ _⟩, Lib.hid ⟨f1, f2⟩⟩
        case measure => simp [intOf] <;> omega
    · have hl : ¬ ((2 * k : Nat) : Int) < ((2 * m : Nat) : Int) := by omega
      have hkd : k = m := by omega
      subst hkd
      gi_wp2
      go_end0
      exact ⟨⟨_, rfl⟩, HJ.out⟩
end Go.Proofs.YtblimejnjboedaaGreatDoor
/- The row above. -/
namespace Go.Proofs.YtblimejnjboedaaGreatDoor
open Go.RowKit
attribute [local go_sem] Oper.semAt_some

theorem infoP9 : (Tryz.prog.info? 59).map (fun i => (i.zero, i.size, i.bytes)) = some (some (.pointer none), 1, 8) := by kernel_rfl
theorem chunk_any (B n cap : Nat) (w : World) : Calls Tryz.prog 54 #[.slice (some ⟨B, 0, none⟩) n cap, .int .i64 2] w fun e w' => e = .returned (.func (.func 84) #[] #[.pointer (some ⟨w.heap.size, 0, none⟩), .pointer (some ⟨w.heap.size + 1, 0, none⟩)]) ∧ w' = (w.alloc (.cells #[.slice (some ⟨B, 0, none⟩) n cap] 56)).alloc (.cells #[.int .i64 2] 3) := by
  go_enter Tryz.func54, Tryz.ntmps54
  go_wp2
  go_ret
  exact ⟨by simp, rfl⟩
/-- k places of the row above, in a row that the variable at b4 holds; the kids are those of the world w -/
def AbAt (g : Nat → (List UInt8)) (w : World) (l lo b4 k : Nat) (W : World) : Prop :=
  ∃ (v : Value) (xs : List Value), W.heap[b4]? = some (.cells #[v] 56 (0, 0)) ∧ W.ownsRow (lo + 2) 59 1 v k xs ∧
    ∀ i, i < k → ∃ b x y, xs[i]? = some (.pointer (some ⟨b, 0, none⟩)) ∧ lo + 2 ≤ b ∧ W.heap[b]? = some (.cells #[.string ⟨(dg g (l + 1) i).toArray⟩, .pointer (some ⟨x, 0, none⟩), .pointer (some ⟨y, 0, none⟩)] 72 (0, 0)) ∧ InT g w l (2 * i) x ∧ InT g w l (2 * i + 1) y
theorem AbAt.kept {g : Nat → (List UInt8)} {w : World} {l lo b4 k : Nat} {W W' : World} {S : Nat → Prop} (h : AbAt g w l lo b4 k W) (hk : Kept S W W') (h4 : S b4) (hS : ∀ j, lo + 2 ≤ j → S j) : AbAt g w l lo b4 k W' := by
  obtain ⟨v, xs, h1, h2, h3⟩ := h
  refine ⟨v, xs, (hk.block b4 (lit_lt h1) h4).trans h1, own_kept h2 hk hS, fun i hi => ?_⟩
  obtain ⟨b, x, y, e1, e2, e3, e4, e5⟩ := h3 i hi
  exact ⟨b, x, y, e1, e2, (hk.block b (lit_lt e3) (hS b e2)).trans e3, e4, e5⟩
theorem ab_step {g : Nat → (List UInt8)} {w : World} {l lo b4 k : Nat} {W w1 : World} {v : Value} {xs : List Value} {p x y : Nat} (h4 : b4 < lo) (hz : lo + 2 ≤ W.heap.size) (hk : k ≤ 100000)
    (hcell : W.heap[b4]? = some (.cells #[v] 56 (0, 0))) (hown : W.ownsRow (lo + 2) 59 1 v k xs)
    (hrows : ∀ i, i < k → ∃ b x y, xs[i]? = some (.pointer (some ⟨b, 0, none⟩)) ∧ lo + 2 ≤ b ∧ W.heap[b]? = some (.cells #[.string ⟨(dg g (l + 1) i).toArray⟩, .pointer (some ⟨x, 0, none⟩), .pointer (some ⟨y, 0, none⟩)] 72 (0, 0)) ∧ InT g w l (2 * i) x ∧ InT g w l (2 * i + 1) y)
    (hx : InT g w l (2 * k) x) (hy : InT g w l (2 * k + 1) y)
    (hb : Below W.heap.size W w1) (hp : w1.heap[p]? = some (.cells #[.string ⟨(dg g (l + 1) k).toArray⟩, .pointer (some ⟨x, 0, none⟩), .pointer (some ⟨y, 0, none⟩)] 72 (0, 0))) (hps : W.heap.size ≤ p) :
    ∃ (g2 cp : Nat) (w2 : World), (Builtin.append_ #[56, 56] 56 #[v, .slice (some ⟨w1.heap.size, 0, none⟩) 1 1]).run Tryz.prog (w1.alloc (.cells #[.pointer (some ⟨p, 0, none⟩)] 59)) = .ok (.slice (some ⟨g2, 0, none⟩) (k + 1) cp) w2 ∧
      w1.cell? ⟨b4, 0, none⟩ = some v ∧ w2.cell? ⟨b4, 0, none⟩ = some v ∧ w2.frozen? ⟨b4, 0, none⟩ = false ∧
      Kept (fun j => (j < lo ∧ j ∉ [b4]) ∨ (lo ≤ j ∧ j < lo + 2)) W (w2.setCell ⟨b4, 0, none⟩ (.slice (some ⟨g2, 0, none⟩) (k + 1) cp)) ∧
      AbAt g w l lo b4 (k + 1) (w2.setCell ⟨b4, 0, none⟩ (.slice (some ⟨g2, 0, none⟩) (k + 1) cp)) := by
  obtain ⟨i0, hi, hz0, hz1, hz2⟩ := info_parts infoP9
  have hsz := hb.size
  have kb : Kept (fun j => j < W.heap.size) W w1 := Kept.of_below hb fun j h => h
  have ka : Kept (fun j => j < W.heap.size) W (w1.alloc (.cells #[.pointer (some ⟨p, 0, none⟩)] 59)) := kb.alloc _
  have ho1 : w1.ownsRow (lo + 2) 59 1 v k xs := by
    refine ⟨hown.1, ?_⟩
    rcases hown.2 with h | ⟨g, cap, cur, h0, h1, h2, h3⟩
    · exact .inl h
    · exact .inr ⟨g, cap, cur, h0, h1, (hb.block g (Array.getElem?_eq_some_iff.1 h2).1).trans h2, h3⟩
  obtain ⟨v2, w2, hrun, ho2, hg2, _⟩ := run_append_own (P := Tryz.prog) (w := w1.alloc (.cells #[.pointer (some ⟨p, 0, none⟩)] 59)) (lo + 2) 56 56 59 i0 (.pointer none) 1 8 Tryz.underlying56 hi hz0 hz1 hz2 rfl (by decide) v k xs (ho1.alloc _) ⟨w1.heap.size, 0, none⟩ 1 1 [.pointer (some ⟨p, 0, none⟩)] rfl (cell_one_new _ _ _)
    (by intro u hu; simp at hu; subst hu; rfl) (by unfold maxLen; omega) (by omega) (by simp; omega)
  obtain ⟨g2, cp, rfl⟩ := ownsRow_succ ho2
  have hv4 : ∀ j, some j = v.ownBlock → lo + 2 ≤ j := fun j e => (hown.lt j e.symm).1
  have kw : Kept (fun j => j < lo + 2) W w2 := (ka.less (fun j _ h => by omega)).grown hg2 (fun j e _ h => by have := hv4 j e; omega)
  have c2 : w2.heap[b4]? = some (.cells #[v] 56 (0, 0)) := (kw.block b4 (by omega) (by omega)).trans hcell
  have ks : Kept (fun j => (j < lo ∧ j ∉ [b4]) ∨ (lo ≤ j ∧ j < lo + 2)) W (w2.setCell ⟨b4, 0, none⟩ (.slice (some ⟨g2, 0, none⟩) (k + 1) cp)) := (kw.less (fun j _ h => by rcases h with h | h <;> omega)).setCell b4 0 _ (fun _ h => h.elim (fun h => h.2 (by simp)) (fun h => by omega))
  refine ⟨g2, cp, w2, hrun, by simp [World.cell?, (kb.block b4 (by omega) (by omega)).trans hcell], by simp [World.cell?, c2], by simp [World.frozen?, c2], ks, ?_⟩
  have k2 : Kept (fun j => j ≠ b4) w2 (w2.setCell ⟨b4, 0, none⟩ (.slice (some ⟨g2, 0, none⟩) (k + 1) cp)) := (Kept.refl _ w2).setCell b4 0 _ (fun _ h => h rfl)
  -- a place of w1 is a place behind the append
  have kp : ∀ (b : Nat) (C : Array Value), lo + 2 ≤ b → w1.heap[b]? = some (.cells C 72 (0, 0)) → (w2.setCell ⟨b4, 0, none⟩ (.slice (some ⟨g2, 0, none⟩) (k + 1) cp)).heap[b]? = some (.cells C 72 (0, 0)) := by
    intro b C hlb hC
    have hne : some b ≠ v.ownBlock := by
      intro e
      rcases ho1.2 with ⟨rfl, _⟩ | ⟨g3, cap3, cur3, rfl, _, hg3, _⟩
      · cases e
      · cases e
        exact place_type hC hg3 rfl
    have e1 : w2.heap[b]? = (w1.alloc (.cells #[.pointer (some ⟨p, 0, none⟩)] 59)).heap[b]? := hg2.block b (by rw [World.size_alloc]; have := lit_lt hC; omega) hne
    exact (k2.block b (by have := hg2.size; rw [World.size_alloc] at this; have := lit_lt hC; omega) (show b ≠ b4 by omega)).trans (e1.trans (lit_old _ hC))
  have hxl : xs.length = k := by simpa using hown.1
  refine ⟨_, xs ++ [.pointer (some ⟨p, 0, none⟩)], ?_, own_kept ho2 k2 (fun j hj => by omega), fun i hik => ?_⟩
  · show (w2.heap.modify b4 _)[b4]? = _
    rw [Array.getElem?_modify, if_pos rfl, c2]
    rfl
  · by_cases hlt : i < k
    · obtain ⟨b, x', y', e1, e2, e3, e4, e5⟩ := hrows i hlt
      refine ⟨b, x', y', ?_, e2, kp b _ e2 ((hb.block b (lit_lt e3)).trans e3), e4, e5⟩
      rw [List.getElem?_append_left (by omega)]
      exact e1
    · obtain rfl : i = k := by omega
      refine ⟨p, x, y, ?_, by omega, kp p _ (by omega) hp, hx, hy⟩
      rw [← hxl, List.getElem?_concat_length]
set_option maxRecDepth 100000 in
set_option maxHeartbeats 4000000 in
theorem above_any (g : Nat → (List UInt8)) (hgl : ∀ k, (g k).length ≤ 32) (l m B cap : Nat) (w : World) (hg : Glob w) (hr : RowT g w l (2 * m) B) (hm : 1 ≤ m ∧ m ≤ 65536) (hcap : 2 * m ≤ cap) :
    Calls Tryz.prog 26 #[.slice (some ⟨B, 0, none⟩) (2 * m) cap] w fun e w' => ∃ B' cp, e = .returned (.slice (some ⟨B', 0, none⟩) m cp) ∧ m ≤ cp ∧ RowT g w' (l + 1) m B' ∧ Below w.heap.size w w' := by
  obtain ⟨b4, hb4⟩ : ∃ b4, b4 = w.heap.size := ⟨_, rfl⟩
  obtain ⟨w1, hw1⟩ : ∃ w1, w.alloc (.cells #[.slice none 0 0] 56) = w1 := ⟨_, rfl⟩
  have hz1 : w1.heap.size = b4 + 1 := by rw [← hw1, World.size_alloc, hb4]
  have hn1 : w1.heap[b4]? = some (.cells #[.slice none 0 0] 56 (0, 0)) := by rw [← hw1, hb4]; exact heap_alloc_new _ _
  have hb1 : Below b4 w w1 := by rw [← hw1]; exact (Below.refl _ _).alloc (by omega) _
  obtain ⟨w3, hw3⟩ : ∃ w3, (w1.alloc (.cells #[.slice (some ⟨B, 0, none⟩) (2 * m) cap] 56)).alloc (.cells #[.int .i64 2] 3) = w3 := ⟨_, rfl⟩
  have hz3 : w3.heap.size = b4 + 3 := by rw [← hw3, World.size_alloc, World.size_alloc, hz1]
  have hk3 : Below (b4 + 1) w1 w3 := by rw [← hw3]; exact ((Below.refl _ _).alloc (by omega) _).alloc (by simp; omega) _
  have hq1 : w3.cell? ⟨b4 + 1, 0, none⟩ = some (.slice (some ⟨B, 0, none⟩) (2 * m) cap) := by
    rw [← hw3, ← hz1]; exact (World.cell?_alloc_lt _ _ _ (by simp)).trans (by simp)
  have hq2 : w3.cell? ⟨b4 + 2, 0, none⟩ = some (.int .i64 2) := by
    rw [← hw3, show b4 + 2 = (w1.alloc (.cells #[.slice (some ⟨B, 0, none⟩) (2 * m) cap] 56)).heap.size by simp; omega]; simp
  have hb3 : Below b4 w w3 := hb1.trans (hk3.mono (by omega))
  have hn3 : w3.heap[b4]? = some (.cells #[.slice none 0 0] 56 (0, 0)) := (hk3.block _ (by omega)).trans hn1
  have hr3 : RowT g w3 l (2 * m) B := hr.below (by rw [← hb4]; exact hb3)
  have hBlt := hr.lt
  have HV := Lib.hid (chunk_any B (2 * m) cap w1)
  rw [hw3, hz1] at HV
  have HG3 : Hid (Glob w3 ∧ 2 ≤ b4) := Lib.hid ⟨hg.below hg.size (by rw [← hb4]; exact hb3), by have := hg.size; omega⟩
  have HW := Lib.hid (And.intro hb3 (And.intro hn3 (And.intro hr3 (And.intro hq1 hq2))))
  have HB := Lib.hid (And.intro hb4 (And.intro hBlt (And.intro hm hcap)))
  have HZ3 := Lib.hid hz3
  have hB' : w.heap.size = b4 := hb4.symm
  clear hb4 hb1 hb3 hn1 hn3 hr3 hq1 hq2 hk3 hw3 hz1 hz3 hr hBlt hm hcap hg
  refine calls_of_wp_marks Tryz.func26 rfl ?_
  simp only [Tryz.ntmps26, List.size_toArray, List.length_cons, List.length_nil, Nat.reduceAdd, Nat.reduceSub, Array.replicate_succ, Array.replicate_zero, List.push_toArray, List.append_toArray, List.nil_append, List.cons_append]
  go_wp2_with (go_at_call 54; refine HV.out.mono ?_; rintro e wx ⟨rfl, hwx⟩; have hwx := hwx.symm; subst hwx)
  obtain ⟨hb3, hn3, hr3, hq1, hq2⟩ := HW.out
  refine wp_rangeFunc_read (gf := 84) (lb := #[.pointer (some ⟨b4 + 1, 0, none⟩), .pointer (some ⟨b4 + 2, 0, none⟩)]) rfl (enters_of Tryz.func84 (by kernel_rfl) rfl)
    (chunk_hands (b4 + 1) (b4 + 2) B m cap HB.out.2.2.1.2 HB.out.2.2.2) (fun _ => rfl) (b4 + 3) HZ3.out [b4] ?ok
    (fun k W => AbAt g w3 l (b4 + 3) b4 k W ∧ Kept (fun j => j < b4 + 3 ∧ j ∉ [b4]) w3 W ∧ b4 + 3 ≤ W.heap.size) ?keep ?start
    (fun k => { tmps := #[.slice (some ⟨B, 0, none⟩) (2 * m) cap, undef, .slice none 0 0, .pointer (some ⟨b4, 0, none⟩), .slice (some ⟨B, 2 * k, none⟩) 2 2, .slice (some ⟨B, 0, none⟩) (2 * m) cap, .func (.func 84) #[] #[.pointer (some ⟨b4 + 1, 0, none⟩), .pointer (some ⟨b4 + 2, 0, none⟩)], .slice (some ⟨B, 2 * k, none⟩) 2 2, undef, undef, undef, undef, undef, undef, undef, undef], defers := [] }) ?assign ?body ?done
  case ok =>
    intro W' hW'
    have hz := HZ3.out
    exact ⟨(World.cell?_of_block (a := ⟨b4 + 1, 0, none⟩) (hW'.block (b4 + 1) (by omega) ⟨by omega, by simp⟩)).trans hq1, (World.cell?_of_block (a := ⟨b4 + 2, 0, none⟩) (hW'.block (b4 + 2) (by omega) ⟨by omega, by simp⟩)).trans hq2⟩
  case keep =>
    rintro k W W' ⟨h, h2, hz⟩ hk
    exact ⟨h.kept hk (.inl (by omega)) (fun j hj => .inr (by omega)), h2.trans (hk.less fun j _ hj => .inl hj.1), by have := hk.size; omega⟩
  case start => exact ⟨⟨.slice none 0 0, [], hn3, World.ownsRow_nil _ _ _ _, fun i hi => absurd hi (Nat.not_lt_zero _)⟩, Kept.refl _ _, by rw [HZ3.out]; omega⟩
  case assign =>
    intro l k W K hK
    gi_wp2
    exact hK
  case body =>
    rintro l' k W hkm hWz ⟨⟨v, vs, hcell, hown, hrows⟩, hkp3, hz⟩
    obtain ⟨x, hx0, hx⟩ := hr3.at_ (2 * k) (by omega)
    obtain ⟨y, hy0, hy⟩ := hr3.at_ (2 * k + 1) (by omega)
    have hB3 : B < b4 + 3 ∧ B ∉ [b4] := ⟨by have := HB.out.1; have := HB.out.2.1; omega, by simp; have := HB.out.1; have := HB.out.2.1; omega⟩
    have eB : W.heap[B]? = w3.heap[B]? := hkp3.block B hr3.lt hB3
    have cx : W.cell? ⟨B, 2 * k, none⟩ = some (.pointer (some ⟨x, 0, none⟩)) := (World.cell?_of_block (a := ⟨B, 2 * k, none⟩) eB).trans hx0
    have cy : W.cell? ⟨B, 2 * k + 1, none⟩ = some (.pointer (some ⟨y, 0, none⟩)) := (World.cell?_of_block (a := ⟨B, 2 * k + 1, none⟩) eB).trans hy0
    have hpl : ∀ (b : Nat) (C : Array Value), w3.heap[b]? = some (Obj.cells C 72 (0, 0)) → W.drew.heap[b]? = some (Obj.cells C 72 (0, 0)) := fun b C e => (hkp3.block b (lit_lt e) ⟨by have := lit_lt e; rw [HZ3.out] at this; exact this, by
      intro h
      rw [List.mem_singleton] at h
      subst h
      rw [e] at hn3
      cases hn3⟩).trans e
    have hPx : PlaceAt W.drew x (dg g l (2 * k)) := by obtain ⟨a, c, e⟩ := hx.blk; exact ⟨a, c, hpl _ _ e⟩
    have hPy : PlaceAt W.drew y (dg g l (2 * k + 1)) := by obtain ⟨a, c, e⟩ := hy.blk; exact ⟨a, c, hpl _ _ e⟩
    have hGW : Glob W.drew := HG3.out.1.below (B := 2) (Nat.le_refl _) ⟨hkp3.os, hkp3.tape, hkp3.output, hkp3.size, fun j hj => hkp3.block j (by rw [HZ3.out]; omega) ⟨by omega, by simp; have := HG3.out.2; omega⟩⟩
    have HND := Lib.hid (tnode_any x y _ _ W.drew hGW hPx hPy (dg_len hgl _ _) (dg_len hgl _ _))
    have hc4 : W.cell? ⟨b4, 0, none⟩ = some v := by simp [World.cell?, hcell]
    have HST := Lib.hid (fun (w1 : World) (b : Nat) (hbel : Below W.drew.heap.size W.drew w1) (hbc : w1.heap[b]? = some (.cells #[.string ⟨(dg g (l + 1) k).toArray⟩, .pointer (some ⟨x, 0, none⟩), .pointer (some ⟨y, 0, none⟩)] 72 (0, 0))) (hbs : W.drew.heap.size ≤ b) => ab_step (g := g) (w := w3) (l := l) (lo := b4 + 3) (b4 := b4) (k := k) (W := W.drew) (w1 := w1) (v := v) (xs := vs) (p := b) (x := x) (y := y) (by omega) hWz (by have := HB.out.2.2.1.2; omega) hcell (own_kept hown (S := fun _ => True) (Kept.refl _ W).drew (fun _ _ => trivial)) hrows hx hy hbel hbc hbs)
    have HFIN := Lib.hid (show ∀ W'', Kept (fun j => (j < b4 + 3 ∧ j ∉ [b4]) ∨ (b4 + 3 ≤ j ∧ j < b4 + 3 + 2)) W W'' → Kept (fun j => j < b4 + 3 ∧ j ∉ [b4]) w3 W'' ∧ b4 + 3 ≤ W''.heap.size from fun W'' h => ⟨hkp3.trans (h.less fun j _ hj => .inl hj), by have := h.size; omega⟩)
    have hAP : ∀ w : World, (Instr.arrayAt 70 (.slice (some ⟨B, 2 * k, none⟩) 2 2)).run Tryz.prog w = .ok (.pointer (some ⟨B, 2 * k, none⟩)) w := fun w => by
      simp [Instr.arrayAt, run_underlying Tryz.underlying70]
    have hmo : Tryz.prog.follows .mixedOrders = true := by kernel_rfl
    clear hown hcell hrows hx0 hy0 hx hy hPx hPy hGW hpl eB hB3 hkp3

    gi_wp2
    refine wpIn_region_any hmo ?_
    change wpAnyIn _ _ _ _ _ _ _ _ _ (World.drew _)
    refine wpAnyIn_ready (rs := [0, 1]) (by kernel_rfl) (by simp) (AllReadyIn.cons rfl (fun K hK => ?_) (AllReadyIn.cons rfl (fun K hK => ?_) AllReadyIn.nil))
    · go_simp
      refine hK _ _ ?_
      clear hK K
      refine wpAnyIn_ready (rs := [1]) (by kernel_rfl) (by simp) (AllReadyIn.cons rfl (fun K hK => ?_) AllReadyIn.nil)
      go_simp
      refine hK _ _ ?_
      clear hK K
      refine wpAnyIn_ready (rs := [2]) (by kernel_rfl) (by simp) (AllReadyIn.cons rfl (fun K hK => ?_) AllReadyIn.nil)
      go_simp
      refine hK _ _ ?_
      clear hK K
      refine wpAnyIn_ready (rs := [3]) (by kernel_rfl) (by simp) (AllReadyIn.cons rfl (fun K hK => ?_) AllReadyIn.nil)
      go_simp
      refine hK _ _ ?_
      clear hK K
      refine wpAnyIn_ready (rs := [4]) (by kernel_rfl) (by simp) (AllReadyIn.cons rfl (fun K hK => ?_) AllReadyIn.nil)
      go_simp
      refine ⟨trivial, rfl, (CallsIn.inRound l' (callsIn_wide.2 HND.out)).mono ?_⟩
      rintro e w1 ⟨b, rfl, hbc, hbs, hbel⟩
      obtain ⟨g2, cp, w2, hrun, e1, e2, e3, hkp, hat⟩ := HST.out w1 b hbel hbc hbs
      have HKP := Lib.hid ((Kept.refl _ W).drew.trans hkp)
      have HAT := Lib.hid hat
      have e4 : (w1.alloc (.cells #[.pointer (some ⟨b, 0, none⟩)] 59)).cell? ⟨b4, 0, none⟩ = some v := (World.cell?_alloc_lt _ _ _ (World.block_lt_of_cell? w1 _ e1)).trans e1
      clear hkp hat hbc hbs hbel
      refine hK _ _ ?_
      clear hK K
      refine wpAnyIn_ready (rs := [5]) (by kernel_rfl) (by simp) (AllReadyIn.cons rfl (fun K hK => ?_) AllReadyIn.nil)
      go_simp
      refine hK _ _ ?_
      clear hK K
      refine wpAnyIn_ready (rs := [6]) (by kernel_rfl) (by simp) (AllReadyIn.cons rfl (fun K hK => ?_) AllReadyIn.nil)
      refine step_append_in rfl _ _ 56 rfl rfl rfl hrun ?_
      go_frame
      refine hK _ _ ?_
      clear hK K
      refine wpAnyIn_ready (rs := [7]) (by kernel_rfl) (by simp) (AllReadyIn.cons rfl (fun K hK => ?_) AllReadyIn.nil)
      go_simp
      refine hK _ _ ?_
      clear hK K
      refine wpAnyIn_done (by kernel_rfl) ?_ _
      exact ⟨HKP.out, HAT.out, HFIN.out _ HKP.out⟩
    · go_simp
      refine hK _ _ ?_
      clear hK K
      refine wpAnyIn_ready (rs := [0, 2]) (by kernel_rfl) (by simp) (AllReadyIn.cons rfl (fun K hK => ?_) (AllReadyIn.cons rfl (fun K hK => ?_) AllReadyIn.nil))
      · go_simp
        refine hK _ _ ?_
        clear hK K
        refine wpAnyIn_ready (rs := [2]) (by kernel_rfl) (by simp) (AllReadyIn.cons rfl (fun K hK => ?_) AllReadyIn.nil)
        go_simp
        refine hK _ _ ?_
        clear hK K
        refine wpAnyIn_ready (rs := [3]) (by kernel_rfl) (by simp) (AllReadyIn.cons rfl (fun K hK => ?_) AllReadyIn.nil)
        go_simp
        refine hK _ _ ?_
        clear hK K
        refine wpAnyIn_ready (rs := [4]) (by kernel_rfl) (by simp) (AllReadyIn.cons rfl (fun K hK => ?_) AllReadyIn.nil)
        go_simp
        refine ⟨trivial, rfl, (CallsIn.inRound l' (callsIn_wide.2 HND.out)).mono ?_⟩
        rintro e w1 ⟨b, rfl, hbc, hbs, hbel⟩
        obtain ⟨g2, cp, w2, hrun, e1, e2, e3, hkp, hat⟩ := HST.out w1 b hbel hbc hbs
        have HKP := Lib.hid ((Kept.refl _ W).drew.trans hkp)
        have HAT := Lib.hid hat
        have e4 : (w1.alloc (.cells #[.pointer (some ⟨b, 0, none⟩)] 59)).cell? ⟨b4, 0, none⟩ = some v := (World.cell?_alloc_lt _ _ _ (World.block_lt_of_cell? w1 _ e1)).trans e1
        clear hkp hat hbc hbs hbel
        refine hK _ _ ?_
        clear hK K
        refine wpAnyIn_ready (rs := [5]) (by kernel_rfl) (by simp) (AllReadyIn.cons rfl (fun K hK => ?_) AllReadyIn.nil)
        go_simp
        refine hK _ _ ?_
        clear hK K
        refine wpAnyIn_ready (rs := [6]) (by kernel_rfl) (by simp) (AllReadyIn.cons rfl (fun K hK => ?_) AllReadyIn.nil)
        refine step_append_in rfl _ _ 56 rfl rfl rfl hrun ?_
        go_frame
        refine hK _ _ ?_
        clear hK K
        refine wpAnyIn_ready (rs := [7]) (by kernel_rfl) (by simp) (AllReadyIn.cons rfl (fun K hK => ?_) AllReadyIn.nil)
        go_simp
        refine hK _ _ ?_
        clear hK K
        refine wpAnyIn_done (by kernel_rfl) ?_ _
        exact ⟨HKP.out, HAT.out, HFIN.out _ HKP.out⟩
      · go_simp
        refine hK _ _ ?_
        clear hK K
        refine wpAnyIn_ready (rs := [0, 3]) (by kernel_rfl) (by simp) (AllReadyIn.cons rfl (fun K hK => ?_) (AllReadyIn.cons rfl (fun K hK => ?_) AllReadyIn.nil))
        · go_simp
          refine hK _ _ ?_
          clear hK K
          refine wpAnyIn_ready (rs := [3]) (by kernel_rfl) (by simp) (AllReadyIn.cons rfl (fun K hK => ?_) AllReadyIn.nil)
          go_simp
          refine hK _ _ ?_
          clear hK K
          refine wpAnyIn_ready (rs := [4]) (by kernel_rfl) (by simp) (AllReadyIn.cons rfl (fun K hK => ?_) AllReadyIn.nil)
          go_simp
          refine ⟨trivial, rfl, (CallsIn.inRound l' (callsIn_wide.2 HND.out)).mono ?_⟩
          rintro e w1 ⟨b, rfl, hbc, hbs, hbel⟩
          obtain ⟨g2, cp, w2, hrun, e1, e2, e3, hkp, hat⟩ := HST.out w1 b hbel hbc hbs
          have HKP := Lib.hid ((Kept.refl _ W).drew.trans hkp)
          have HAT := Lib.hid hat
          have e4 : (w1.alloc (.cells #[.pointer (some ⟨b, 0, none⟩)] 59)).cell? ⟨b4, 0, none⟩ = some v := (World.cell?_alloc_lt _ _ _ (World.block_lt_of_cell? w1 _ e1)).trans e1
          clear hkp hat hbc hbs hbel
          refine hK _ _ ?_
          clear hK K
          refine wpAnyIn_ready (rs := [5]) (by kernel_rfl) (by simp) (AllReadyIn.cons rfl (fun K hK => ?_) AllReadyIn.nil)
          go_simp
          refine hK _ _ ?_
          clear hK K
          refine wpAnyIn_ready (rs := [6]) (by kernel_rfl) (by simp) (AllReadyIn.cons rfl (fun K hK => ?_) AllReadyIn.nil)
          refine step_append_in rfl _ _ 56 rfl rfl rfl hrun ?_
          go_frame
          refine hK _ _ ?_
          clear hK K
          refine wpAnyIn_ready (rs := [7]) (by kernel_rfl) (by simp) (AllReadyIn.cons rfl (fun K hK => ?_) AllReadyIn.nil)
          go_simp
          refine hK _ _ ?_
          clear hK K
          refine wpAnyIn_done (by kernel_rfl) ?_ _
          exact ⟨HKP.out, HAT.out, HFIN.out _ HKP.out⟩
        · go_simp
          refine hK _ _ ?_
          clear hK K
          refine wpAnyIn_ready (rs := [0, 4]) (by kernel_rfl) (by simp) (AllReadyIn.cons rfl (fun K hK => ?_) (AllReadyIn.cons rfl (fun K hK => ?_) AllReadyIn.nil))
          · go_simp
            refine hK _ _ ?_
            clear hK K
            refine wpAnyIn_ready (rs := [4]) (by kernel_rfl) (by simp) (AllReadyIn.cons rfl (fun K hK => ?_) AllReadyIn.nil)
            go_simp
            refine ⟨trivial, rfl, (CallsIn.inRound l' (callsIn_wide.2 HND.out)).mono ?_⟩
            rintro e w1 ⟨b, rfl, hbc, hbs, hbel⟩
            obtain ⟨g2, cp, w2, hrun, e1, e2, e3, hkp, hat⟩ := HST.out w1 b hbel hbc hbs
            have HKP := Lib.hid ((Kept.refl _ W).drew.trans hkp)
            have HAT := Lib.hid hat
            have e4 : (w1.alloc (.cells #[.pointer (some ⟨b, 0, none⟩)] 59)).cell? ⟨b4, 0, none⟩ = some v := (World.cell?_alloc_lt _ _ _ (World.block_lt_of_cell? w1 _ e1)).trans e1
            clear hkp hat hbc hbs hbel
            refine hK _ _ ?_
            clear hK K
            refine wpAnyIn_ready (rs := [5]) (by kernel_rfl) (by simp) (AllReadyIn.cons rfl (fun K hK => ?_) AllReadyIn.nil)
            go_simp
            refine hK _ _ ?_
            clear hK K
            refine wpAnyIn_ready (rs := [6]) (by kernel_rfl) (by simp) (AllReadyIn.cons rfl (fun K hK => ?_) AllReadyIn.nil)
            refine step_append_in rfl _ _ 56 rfl rfl rfl hrun ?_
            go_frame
            refine hK _ _ ?_
            clear hK K
            refine wpAnyIn_ready (rs := [7]) (by kernel_rfl) (by simp) (AllReadyIn.cons rfl (fun K hK => ?_) AllReadyIn.nil)
            go_simp
            refine hK _ _ ?_
            clear hK K
            refine wpAnyIn_done (by kernel_rfl) ?_ _
            exact ⟨HKP.out, HAT.out, HFIN.out _ HKP.out⟩
          · go_simp
            refine ⟨trivial, rfl, (CallsIn.inRound l' (callsIn_wide.2 HND.out)).mono ?_⟩
            rintro e w1 ⟨b, rfl, hbc, hbs, hbel⟩
            obtain ⟨g2, cp, w2, hrun, e1, e2, e3, hkp, hat⟩ := HST.out w1 b hbel hbc hbs
            have HKP := Lib.hid ((Kept.refl _ W).drew.trans hkp)
            have HAT := Lib.hid hat
            have e4 : (w1.alloc (.cells #[.pointer (some ⟨b, 0, none⟩)] 59)).cell? ⟨b4, 0, none⟩ = some v := (World.cell?_alloc_lt _ _ _ (World.block_lt_of_cell? w1 _ e1)).trans e1
            clear hkp hat hbc hbs hbel
            refine hK _ _ ?_
            clear hK K
            refine wpAnyIn_ready (rs := [0, 5]) (by kernel_rfl) (by simp) (AllReadyIn.cons rfl (fun K hK => ?_) (AllReadyIn.cons rfl (fun K hK => ?_) AllReadyIn.nil))
            · go_simp
              refine hK _ _ ?_
              clear hK K
              refine wpAnyIn_ready (rs := [5]) (by kernel_rfl) (by simp) (AllReadyIn.cons rfl (fun K hK => ?_) AllReadyIn.nil)
              go_simp
              refine hK _ _ ?_
              clear hK K
              refine wpAnyIn_ready (rs := [6]) (by kernel_rfl) (by simp) (AllReadyIn.cons rfl (fun K hK => ?_) AllReadyIn.nil)
              refine step_append_in rfl _ _ 56 rfl rfl rfl hrun ?_
              go_frame
              refine hK _ _ ?_
              clear hK K
              refine wpAnyIn_ready (rs := [7]) (by kernel_rfl) (by simp) (AllReadyIn.cons rfl (fun K hK => ?_) AllReadyIn.nil)
              go_simp
              refine hK _ _ ?_
              clear hK K
              refine wpAnyIn_done (by kernel_rfl) ?_ _
              exact ⟨HKP.out, HAT.out, HFIN.out _ HKP.out⟩
            · go_simp
              refine hK _ _ ?_
              clear hK K
              refine wpAnyIn_ready (rs := [0]) (by kernel_rfl) (by simp) (AllReadyIn.cons rfl (fun K hK => ?_) AllReadyIn.nil)
              go_simp
              refine hK _ _ ?_
              clear hK K
              refine wpAnyIn_ready (rs := [6]) (by kernel_rfl) (by simp) (AllReadyIn.cons rfl (fun K hK => ?_) AllReadyIn.nil)
              refine step_append_in rfl _ _ 56 rfl rfl rfl hrun ?_
              go_frame
              refine hK _ _ ?_
              clear hK K
              refine wpAnyIn_ready (rs := [7]) (by kernel_rfl) (by simp) (AllReadyIn.cons rfl (fun K hK => ?_) AllReadyIn.nil)
              go_simp
              refine hK _ _ ?_
              clear hK K
              refine wpAnyIn_done (by kernel_rfl) ?_ _
              exact ⟨HKP.out, HAT.out, HFIN.out _ HKP.out⟩
  case done =>
    rintro W ⟨⟨v, xs, hcell, hown, hrows⟩, hkp3, hz⟩ hkept hdef
    have hc4 : W.cell? ⟨b4, 0, none⟩ = some v := by simp [World.cell?, hcell]
    have HR := Lib.hid (And.intro hown (And.intro hrows hkp3))
    have HH3 := Lib.hid hb3
    clear hcell hown hrows hkept hkp3
    go_wp2
    refine ⟨by simp, .inl ⟨_, _, rfl, run_takeDeferred hdef, ?_⟩⟩
    obtain ⟨hown, hrows, hkp3⟩ := HR.out
    have kp : Kept (fun j => j ≠ b4 + 3) W (W.putObj (b4 + 3) (.deferred none)) := Kept.putObj _ _ _ _ (by simp)
    have hbw := (hkp3.trans (kp.less (T := fun j => j < b4 + 3 ∧ j ∉ [b4]) fun j _ h => by omega)).below (B := b4) (by rw [HZ3.out]; omega) (fun j h => ⟨by omega, by simp; omega⟩)
    generalize hWe : W.putObj (b4 + 3) (.deferred none) = We at *
    obtain ⟨h1, ⟨h2, h3⟩ | ⟨g2, cp, cur, rfl, h3, h4, h5, h6, h7⟩⟩ := hown
    · exfalso
      have := HB.out.2.2.1.1
      omega
    refine ⟨_, results_tmp rfl _ _ _, g2, cp, rfl, ?_, ⟨⟨cur, (kp.block g2 (lit_lt h4) (show g2 ≠ b4 + 3 by omega)).trans h4, ?_⟩, fun k hk => ?_⟩, by rw [hB']; exact HH3.out.trans hbw⟩
    · exact h5
    · have := h7.1; omega
    · obtain ⟨b, x, y, e1, e2, e3, e4, e5⟩ := hrows k hk
      have kk : ∀ (c : Nat) (C : Array Value), w3.heap[c]? = some (Obj.cells C 72 (0, 0)) → We.heap[c]? = w3.heap[c]? := fun c C e => by
        have hlt := lit_lt e
        rw [HZ3.out] at hlt
        have hne : c ≠ b4 := by
          intro h
          subst h
          rw [e] at hn3
          cases hn3
        exact (kp.block c (by have := hkp3.size; rw [HZ3.out] at this; omega) (show c ≠ b4 + 3 by omega)).trans (hkp3.block c (by rw [HZ3.out]; exact hlt) ⟨hlt, by simp; exact hne⟩)
      refine ⟨b, ?_, x, y, (kp.block b (lit_lt e3) (show b ≠ b4 + 3 by omega)).trans e3, e4.keep kk, e5.keep kk⟩
      have e6 : (cur.toList.take (m * 1))[k]? = some (.pointer (some ⟨b, 0, none⟩)) := by rw [h7.2]; exact e1
      rw [List.getElem?_take_of_lt (by omega), Array.getElem?_toList] at e6
      exact (World.cell?_of_block (a := ⟨g2, k, none⟩) (kp.block g2 (lit_lt h4) (show g2 ≠ b4 + 3 by omega))).trans ((lit_cell h4 k).trans e6)
end Go.Proofs.YtblimejnjboedaaGreatDoor
/- Build, and what is asked of a tree: Root, Depth, Len. -/
namespace Go.Proofs.YtblimejnjboedaaGreatDoor
open Go.RowKit

/-- a tree in memory -/
structure TreeM (L : List (List UInt8)) (w : World) (t : Nat) : Prop where
  le : L.length ≤ 65536
  blk : ∃ r, w.heap[t]? = some (Obj.cells #[.pointer (some ⟨r, 0, none⟩), .int .i64 (L.length : Int)] 61 (0, 0)) ∧ InT (gl L (dep L.length)) w (dep L.length) 0 r
theorem TreeM.below {L : List (List UInt8)} {w w' : World} {t : Nat} (h : TreeM L w t) (hb : Below w.heap.size w w') : TreeM L w' t := by
  obtain ⟨r, h1, h2⟩ := h.blk
  exact ⟨h.le, r, (hb.block t (lit_lt h1)).trans h1, h2.below hb⟩
theorem TreeM.next {L : List (List UInt8)} {w w' : World} {t B : Nat} (h : TreeM L w t) (hB : w.heap.size ≤ B) (hb : Below B w w') : TreeM L w' t := h.below (hb.mono hB)
theorem isNone_any (L : List (List UInt8)) (t : Nat) (w : World) (h : TreeM L w t) : Calls Tryz.prog 32 #[.pointer (some ⟨t, 0, none⟩)] w fun e w' => e = .returned (.bool false) ∧ w = w' := by
  obtain ⟨r, h1, _⟩ := h.blk
  have c0 := (lit_cell h1 0).trans rfl
  clear h1
  go_enter Tryz.func32, Tryz.ntmps32
  go_wp2
  go_ret
  exact ⟨rfl, rfl⟩
theorem isNone_none (w : World) : Calls Tryz.prog 32 #[.pointer none] w fun e w' => e = .returned (.bool true) ∧ w = w' := by
  go_enter Tryz.func32, Tryz.ntmps32
  go_wp2
  go_ret
  exact ⟨rfl, rfl⟩
/-- the root's digest -/
def rootD (L : List (List UInt8)) : (List UInt8) := dg (gl L (dep L.length)) (dep L.length) 0
theorem rootT_any (L : List (List UInt8)) (t : Nat) (w : World) (h : TreeM L w t) : Calls Tryz.prog 16 #[.pointer (some ⟨t, 0, none⟩)] w fun e w' => e = .returned (.string ⟨(rootD L).toArray⟩) ∧ w = w' := by
  have HN := Lib.hid (isNone_any L t w h)
  obtain ⟨r, h1, h2⟩ := h.blk
  obtain ⟨x, y, h3⟩ := h2.blk
  have c0 := (lit_cell h1 0).trans rfl
  have d0 := (lit_cell h3 0).trans rfl
  rw [show dg (gl L (dep L.length)) (dep L.length) 0 = rootD L from rfl] at d0
  clear h h1 h2 h3
  generalize rootD L = R at *
  go_enter Tryz.func16, Tryz.ntmps16
  go_wp2_with (go_at_call 32; refine HN.out.mono ?_; rintro e w' ⟨rfl, rfl⟩)
  go_ret
  exact ⟨rfl, rfl⟩
theorem root_none (w : World) : Calls Tryz.prog 16 #[.pointer none] w fun e w' => e = .returned (.string ⟨#[]⟩) ∧ w = w' := by
  have HN := Lib.hid (isNone_none w)
  go_enter Tryz.func16, Tryz.ntmps16
  go_wp2_with (go_at_call 32; refine HN.out.mono ?_; rintro e w' ⟨rfl, rfl⟩)
  go_ret
  exact ⟨rfl, rfl⟩
theorem depthT_any (L : List (List UInt8)) (t : Nat) (w : World) (h : TreeM L w t) : Calls Tryz.prog 27 #[.pointer (some ⟨t, 0, none⟩)] w fun e w' => e = .returned (.int .i64 (dep L.length : Int)) ∧ w = w' := by
  have HN := Lib.hid (isNone_any L t w h)
  have HD := Lib.hid (show Calls Tryz.prog 41 #[.int .i64 (L.length : Int)] w fun e w' => e = .returned (.int .i64 (dep L.length : Int)) ∧ w = w' from by
    have h2 := depth_any (L.length : Int) (by have := h.le; omega) w
    rwa [depthV, if_neg (by have := h.le; omega), Int.toNat_natCast] at h2)
  obtain ⟨r, h1, _⟩ := h.blk
  have c1 := (lit_cell h1 1).trans rfl
  clear h h1
  go_enter Tryz.func27, Tryz.ntmps27
  go_wp2_with (first | (go_at_call 32; refine HN.out.mono ?_; rintro e w' ⟨rfl, rfl⟩) | (go_at_call 41; refine HD.out.mono ?_; rintro e w' ⟨rfl, rfl⟩))
  go_ret
  exact ⟨rfl, rfl⟩
theorem depth_none (w : World) : Calls Tryz.prog 27 #[.pointer none] w fun e w' => e = .returned (.int .i64 (-1)) ∧ w = w' := by
  have HN := Lib.hid (isNone_none w)
  go_enter Tryz.func27, Tryz.ntmps27
  go_wp2_with (go_at_call 32; refine HN.out.mono ?_; rintro e w' ⟨rfl, rfl⟩)
  go_ret
  exact ⟨rfl, rfl⟩
theorem lenT_any (L : List (List UInt8)) (t : Nat) (w : World) (h : TreeM L w t) : Calls Tryz.prog 29 #[.pointer (some ⟨t, 0, none⟩)] w fun e w' => e = .returned (.int .i64 (L.length : Int)) ∧ w = w' := by
  have HN := Lib.hid (isNone_any L t w h)
  obtain ⟨r, h1, _⟩ := h.blk
  have c1 := (lit_cell h1 1).trans rfl
  clear h h1
  go_enter Tryz.func29, Tryz.ntmps29
  go_wp2_with (go_at_call 32; refine HN.out.mono ?_; rintro e w' ⟨rfl, rfl⟩)
  go_ret
  exact ⟨rfl, rfl⟩
theorem len_none (w : World) : Calls Tryz.prog 29 #[.pointer none] w fun e w' => e = .returned (.int .i64 0) ∧ w = w' := by
  have HN := Lib.hid (isNone_none w)
  go_enter Tryz.func29, Tryz.ntmps29
  go_wp2_with (go_at_call 32; refine HN.out.mono ?_; rintro e w' ⟨rfl, rfl⟩)
  go_ret
  exact ⟨rfl, rfl⟩

def sliceLen : Value → Nat
  | .slice _ n _ => n
  | _ => 0
theorem build_bad (ao : Option Addr) (n cap : Nat) (w : World) (h : 65536 < n) : Calls Tryz.prog 12 #[.slice ao n cap] w fun e w' => e = .returned (.tuple #[.pointer none, .int .i64 3]) ∧ w = w' := by
  have h1 : (65536 : Int) < (n : Int) := by omega
  go_enter Tryz.func12, Tryz.ntmps12
  go_wp2
  exact bodyPost_ret (v := .tuple #[.pointer none, .int .i64 3]) (by simp [results, Tryz.results12, go_sem]) rfl ⟨rfl, rfl⟩
set_option maxRecDepth 100000 in
set_option maxHeartbeats 1000000 in
theorem build_any (ao : Option Addr) (cap : Nat) (L : List (List UInt8)) (w : World) (hg : Glob w) (hs : Strs ao L w) (hL : L.length ≤ 65536) (hl : ∀ i (h : i < L.length), L[i].length ≤ 10000000) :
    Calls Tryz.prog 12 #[.slice ao L.length cap] w fun e w' => ∃ t, e = .returned (.tuple #[.pointer (some ⟨t, 0, none⟩), .int .i64 0]) ∧ TreeM L w' t ∧ w.heap.size ≤ t ∧ Below w.heap.size w w' := by
  have HL := Lib.hid (leaves_any ao cap L w hg hs hL hl)
  have hd := dep_le L.length hL
  have HA := Lib.hid (fun l m B cp wz (h : Below w.heap.size w wz) hr hm hc => above_any (gl L (dep L.length)) (gl_len L _) l m B cp wz (hg.below hg.size h) hr hm hc)
  have HF := Lib.hid (show ∀ t wz r, wz.heap[t]? = some (Obj.cells #[.pointer (some ⟨r, 0, none⟩), .int .i64 (L.length : Int)] 61 (0, 0)) → InT (gl L (dep L.length)) wz (dep L.length) 0 r → TreeM L wz t from fun t wz r h1 h2 => ⟨hL, r, h1, h2⟩)
  have h1 : ¬ (65536 : Int) < (L.length : Int) := by omega
  clear hg hs hL hl
  generalize gl L (dep L.length) = g at *
  generalize dep L.length = d at *
  go_enter Tryz.func12, Tryz.ntmps12
  go_upto_region 3 with fail
  go_wp2_with (go_at_call 25; refine HL.out.mono ?_; rintro e w1 ⟨B, rfl, hB, hr, hb1⟩)
  go_loopw [4] (fun s4 wr => ∃ (j B cp m : Nat), j ≤ d ∧ m = 2 ^ (d - j) ∧ s4 = .slice (some ⟨B, 0, none⟩) m cp ∧ Hid (m ≤ cp ∧ RowT g wr j m B ∧ Below w.heap.size w wr)) (fun s4 _ => sliceLen s4)
  case atStart => exact ⟨0, B, _, _, Nat.zero_le _, rfl, rfl, Lib.hid ⟨Nat.le_refl _, hr, hb1⟩⟩
  case round =>
    obtain ⟨j, B', cp, m, hj, hm, rfl, HK⟩ := hrel
    by_cases hlt : j < d
    · obtain ⟨q, hq⟩ : ∃ q, q = 2 ^ (d - (j + 1)) := ⟨_, rfl⟩
      have hmq : m = 2 * q := by rw [hm, hq, show d - j = (d - (j + 1)) + 1 by omega, Nat.pow_succ, Nat.mul_comm]
      have hq1 : 1 ≤ q := by rw [hq]; exact Nat.one_le_two_pow
      have hq2 : q ≤ 65536 := by rw [hq]; exact Nat.le_trans (Nat.pow_le_pow_right (by decide) (by omega)) (show 2 ^ 16 ≤ 65536 by decide)
      have HX := Lib.hid (show Calls Tryz.prog 26 #[.slice (some ⟨B', 0, none⟩) m cp] wr fun e w' => ∃ B2 cp2, e = .returned (.slice (some ⟨B2, 0, none⟩) q cp2) ∧ q ≤ cp2 ∧ RowT g w' (j + 1) q B2 ∧ Below wr.heap.size wr w' from by
        have h1 := HK.out.1
        have h2 := HK.out.2.1
        rw [hmq] at h1 h2 ⊢
        exact HA.out j q B' cp wr HK.out.2.2 h2 ⟨hq1, hq2⟩ h1)
      have k1 : (1 : Int) < (m : Int) := by omega
      have HQ := Lib.hid (And.intro hq (And.intro hq1 hmq))
      clear hq hq1 hq2 hmq hm
      go_wp2_with (go_at_call 26; refine HX.out.mono ?_; rintro e w2 ⟨B2, cp2, rfl, hc2, hr2, hb2⟩)
      go_roundw
      case rel => exact ⟨j + 1, B2, cp2, q, hlt, HQ.out.1, rfl, Lib.hid ⟨hc2, hr2, below_next HK.out.2.2 hb2⟩⟩
      case measure => simp [sliceLen]; have := HQ.out; omega
    · obtain rfl : j = d := by omega
      rw [Nat.sub_self, Nat.pow_zero] at hm
      subst hm
      have k1 : ¬ (1 : Int) < ((1 : Nat) : Int) := by omega
      obtain ⟨b, hb0, hbt⟩ := HK.out.2.1.at_ 0 (by omega)
      have HBT := Lib.hid hbt
      clear hbt
      go_wp2
      refine bodyPost_ret (v := .tuple #[.pointer (some ⟨wr.heap.size, 0, none⟩), .int .i64 0]) (by simp [results, Tryz.results12, go_sem]) rfl ⟨wr.heap.size, rfl, HF.out _ _ _ (heap_alloc_new wr _) (HBT.out.below (by0 wr _)), HK.out.2.2.size, below_alloc HK.out.2.2 _⟩
end Go.Proofs.YtblimejnjboedaaGreatDoor
