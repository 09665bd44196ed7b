/- What is needed of some leaves: the program's answer. -/
import Derived.Test.YtfghggfoncfhgaaGreatDoorJ9
namespace Go.Proofs.YtfghggfoncfhgaaGreatDoor
open Go.RowKit Go.Sort
attribute [local go_sem] Oper.semAt_some

/-- needed, and no more than twelve -/
def Need12 (K N : List Nat) : Prop := Need K N ∧ N.length ≤ 12
/-- the needed ones of k levels: the variable at b4 holds a row of rows -/
def NeedsAt (base b4 : Nat) (L : List Nat) (k : Nat) (W : World) : Prop :=
  ∃ (v : Value) (vs : List Value) (Ms : List (List Nat)), W.heap[b4]? = some (.cells #[v] 54 (0, 0)) ∧ W.ownsRow base 24 1 v k vs ∧ Ms.length = k ∧
    ∀ (i : Nat) (x : Value) (N : List Nat), vs[i]? = some x → Ms[i]? = some N → W.ownsRow base 23 1 x N.length (N.map encU) ∧ Need12 (upTo L i) N
theorem NeedsAt.kept {S : Nat → Prop} {base b4 : Nat} {L : List Nat} {k : Nat} {W W' : World} (h : NeedsAt base b4 L k W) (hk : Kept S W W') (h4 : S b4) (hS : ∀ j, base ≤ j → S j) : NeedsAt base b4 L k W' := by
  obtain ⟨v, vs, Ms, h1, h2, h3, h5⟩ := h
  exact ⟨v, vs, Ms, (hk.block b4 (Array.getElem?_eq_some_iff.1 h1).1 h4).trans h1, own_kept h2 hk hS, h3, fun i x N hx hN => ⟨own_kept (h5 i x N hx hN).1 hk hS, (h5 i x N hx hN).2⟩⟩
theorem infoW : (Tryz.prog.info? 24).map (fun i => (i.zero, i.size, i.bytes)) = some (some (.slice none 0 0), 1, 24) := by kernel_rfl
theorem own_apart {w : World} {b1 b2 e1 e2 n m : Nat} {v x : Value} {xs ys : List Value} (h : w.ownsRow b1 e1 1 v n xs) (k : w.ownsRow b2 e2 1 x m ys) (hne : e1 ≠ e2) : x.ownBlock = none ∨ x.ownBlock ≠ v.ownBlock := by
  rcases k.2 with ⟨rfl, _⟩ | ⟨g, cap, cur, rfl, _, hg, _⟩
  · exact .inl rfl
  · refine .inr fun e => ?_
    rcases h.2 with ⟨rfl, _⟩ | ⟨g2, cap2, cur2, rfl, _, hg2, _⟩
    · cases e
    · cases e
      rw [hg] at hg2
      cases hg2
      exact hne rfl
theorem own_one {w : World} {b e n : Nat} {v : Value} {xs : List Value} (h : w.ownsRow b e 1 v n xs) : v.oneCell' = true := by
  rcases h.2 with ⟨rfl, _⟩ | ⟨g, cap, cur, rfl, _⟩ <;> rfl
/-- one level more: what the append and the store leave -/
theorem needs_step {lo b4 k : Nat} {L : List Nat} {W w1 : World} {v x : Value} {vs : List Value} {Ms : List (List Nat)} {N : List Nat} (h4 : b4 < lo) (hz : lo + 3 ≤ W.heap.size) (hk : k ≤ 100)
    (hcell : W.heap[b4]? = some (.cells #[v] 54 (0, 0))) (hown : W.ownsRow (lo + 3) 24 1 v k vs) (hMs : Ms.length = k)
    (hrows : ∀ (i : Nat) (x : Value) (N : List Nat), vs[i]? = some x → Ms[i]? = some N → W.ownsRow (lo + 3) 23 1 x N.length (N.map encU) ∧ Need12 (upTo L i) N)
    (hb : Below W.heap.size W w1) (hx : w1.ownsRow W.heap.size 23 1 x N.length (N.map encU)) (hN : Need12 (upTo L k) N) :
    ∃ (g cp : Nat) (w2 : World), (Builtin.append_ #[54, 54] 54 #[v, .slice (some ⟨w1.heap.size, 0, none⟩) 1 1]).run Tryz.prog (w1.alloc (.cells #[x] 24)) = .ok (.slice (some ⟨g, 0, none⟩) (k + 1) cp) w2 ∧
      w1.cell? ⟨b4, 0, none⟩ = some v ∧ w2.cell? ⟨b4, 0, none⟩ = some v ∧ w2.frozen? ⟨b4, 0, none⟩ = false ∧
      Kept (fun j => (j < lo ∧ j ∉ [b4]) ∨ (lo ≤ j ∧ j < lo + 3)) W (w2.setCell ⟨b4, 0, none⟩ (.slice (some ⟨g, 0, none⟩) (k + 1) cp)) ∧
      NeedsAt (lo + 3) b4 L (k + 1) (w2.setCell ⟨b4, 0, none⟩ (.slice (some ⟨g, 0, none⟩) (k + 1) cp)) := by
  obtain ⟨i0, hi, hz0, hz1, hz2⟩ := info_parts infoW
  have hsz := hb.size
  have kb : Kept (fun j => j < W.heap.size) W w1 := Kept.of_below hb fun j h => h
  have ka : Kept (fun j => j < W.heap.size) W (w1.alloc (.cells #[x] 24)) := kb.alloc _
  have ho1 : w1.ownsRow (lo + 3) 24 1 v k vs := by
    refine ⟨hown.1, ?_⟩
    rcases hown.2 with h | ⟨g, cap, cur, h0, h1, h2, h3⟩
    · exact .inl h
    · exact .inr ⟨g, cap, cur, h0, h1, (hb.block g (Array.getElem?_eq_some_iff.1 h2).1).trans h2, h3⟩
  obtain ⟨v2, w2, hrun, ho2, hg2, _⟩ := run_append_own (P := Tryz.prog) (w := w1.alloc (.cells #[x] 24)) (lo + 3) 54 54 24 i0 (.slice none 0 0) 1 24 Tryz.underlying54 hi hz0 hz1 hz2 rfl (by decide) v k vs (ho1.alloc _) ⟨w1.heap.size, 0, none⟩ 1 1 [x] rfl (cell_one_new _ _ _)
    (by intro u hu; simp at hu; subst hu; exact own_one hx) (by unfold maxLen; omega) (by omega) (by simp; omega)
  obtain ⟨g, cp, rfl⟩ := ownsRow_succ ho2
  have hv4 : ∀ j, some j = v.ownBlock → lo + 3 ≤ j := fun j e => (hown.lt j e.symm).1
  have kw : Kept (fun j => j < lo + 3) W w2 := (ka.less (fun j _ h => by omega)).grown hg2 (fun j e _ h => by have := hv4 j e; omega)
  have c2 : w2.heap[b4]? = some (.cells #[v] 54 (0, 0)) := (kw.block b4 (by omega) (by omega)).trans hcell
  have ks : Kept (fun j => (j < lo ∧ j ∉ [b4]) ∨ (lo ≤ j ∧ j < lo + 3)) W (w2.setCell ⟨b4, 0, none⟩ (.slice (some ⟨g, 0, none⟩) (k + 1) cp)) := (kw.less (fun j _ h => by rcases h with h | h <;> omega)).setCell b4 0 _ (fun _ h => h.elim (fun h => h.2 (by simp)) (fun h => by omega))
  refine ⟨g, cp, w2, hrun, by simp [World.cell?, (kb.block b4 (by omega) (by omega)).trans hcell], by simp [World.cell?, c2], by simp [World.frozen?, c2], ks, ?_⟩
  have hset : ∀ j, j ≠ b4 → (w2.setCell ⟨b4, 0, none⟩ (.slice (some ⟨g, 0, none⟩) (k + 1) cp)).heap[j]? = w2.heap[j]? := fun j hj => Below.heap_setCell _ _ _ _ (show j ≠ b4 from hj)
  have k2 : Kept (fun j => j ≠ b4) w2 (w2.setCell ⟨b4, 0, none⟩ (.slice (some ⟨g, 0, none⟩) (k + 1) cp)) := (Kept.refl _ w2).setCell b4 0 _ (fun _ h => h rfl)
  refine ⟨_, vs ++ [x], Ms ++ [N], ?_, own_kept ho2 k2 (fun j hj => by omega), by simp [hMs], ?_⟩
  · show (w2.heap.modify b4 _)[b4]? = _
    rw [Array.getElem?_modify, if_pos rfl, c2]
    rfl
  · intro i y N' hy hN'
    by_cases hik : i < k
    · have hvl : vs.length = k := by simpa using hown.1
      rw [List.getElem?_append_left (by omega)] at hy hN'
      have := hrows i y N' hy hN'
      have hr1 : w1.ownsRow (lo + 3) 23 1 y N'.length (N'.map encU) := by
        refine ⟨this.1.1, ?_⟩
        rcases this.1.2 with h | ⟨g, cap, cur, h0, h1, h2, h3⟩
        · exact .inl h
        · exact .inr ⟨g, cap, cur, h0, h1, (hb.block g (Array.getElem?_eq_some_iff.1 h2).1).trans h2, h3⟩
      have hr2 := (hr1.alloc (.cells #[x] 24)).kept hg2 (own_apart (w := w1.alloc (.cells #[x] 24)) (ho1.alloc _) (hr1.alloc _) (by decide))
      exact ⟨own_kept hr2 k2 (fun j hj => by omega), this.2⟩
    · have hvl : vs.length = k := by simpa using hown.1
      have hi : i = k := by
        have h := (List.getElem?_eq_some_iff.1 hy).1
        simp at h; omega
      subst hi
      rw [← hvl, List.getElem?_concat_length] at hy
      rw [← hMs, List.getElem?_concat_length] at hN'
      cases hy
      cases hN'
      have hr2 := (hx.alloc (.cells #[x] 24)).kept hg2 (own_apart (w := w1.alloc (.cells #[x] 24)) (ho1.alloc _) (hx.alloc _) (by decide))
      exact ⟨own_kept (row_base hr2 hz) k2 (fun j hj => by omega), hN⟩
theorem needed_sl (b n : Nat) (K : List Nat) (w : World) (hs : SetU b n K w) (hn : n ≤ 12) :
    Calls Tryz.prog 58 #[.map (some b)] w fun e w' => ∃ (ao : Option Addr) (cp : Nat) (N : List Nat), e = .returned (.slice ao N.length cp) ∧ Need12 K N ∧ w'.ownsRow w.heap.size 23 1 (.slice ao N.length cp) N.length (N.map encU) ∧ Below w.heap.size w w' := by
  refine (needed_any b n K w hs hn).mono ?_
  rintro e w' ⟨v, N, rfl, h1, h2, h3, h4⟩
  obtain ⟨ao, cp, rfl, _, _⟩ := nums_of_row h3
  exact ⟨ao, cp, N, rfl, ⟨h1, by omega⟩, h3, h4⟩
set_option maxRecDepth 100000 in
set_option maxHeartbeats 2000000 in
theorem needs_any (ao : Option Addr) (cap : Nat) (L : List Nat) (d : Nat) (w : World) (hN : Nums ao L w) (hL : ∀ x ∈ L, x < 18446744073709551616) (h0 : L ≠ []) (hn : L.length ≤ 12) (hs : ∀ x ∈ L, standsB x (d : Int) = true) (hd : d ≤ 16) :
    Calls Tryz.prog 40 #[.slice ao L.length cap, .int .i64 (d : Int)] w fun e w' => ∃ (v : Value) (vs : List Value) (Ms : List (List Nat)), e = .returned v ∧ w'.ownsRow w.heap.size 24 1 v d vs ∧ Ms.length = d ∧
      (∀ (i : Nat) (x : Value) (N : List Nat), vs[i]? = some x → Ms[i]? = some N → w'.ownsRow w.heap.size 23 1 x N.length (N.map encU) ∧ Need12 (upTo L i) N) ∧ Below w.heap.size w w' := by
  obtain ⟨B, hB⟩ : ∃ B, B = w.heap.size := ⟨_, rfl⟩
  have hlen : 0 < L.length := List.length_pos_iff.2 h0
  have hl0 : ((L.length : Int) == 0) = false := by rw [beq_eq_false_iff_ne]; omega
  obtain ⟨w1, hw1⟩ : ∃ w1, w.alloc (.cells #[.int .i64 (d : Int)] 3) = w1 := ⟨_, rfl⟩
  have hz1 : w1.heap.size = B + 1 := by rw [← hw1, World.size_alloc, hB]
  have hN1 : Nums ao L w1 := by rw [← hw1]; exact hN.grown (World.grownBy_alloc _ _ none) (fun _ _ _ => by simp)
  have hc1 : w1.cell? ⟨B, 0, none⟩ = some (.int .i64 (d : Int)) := by rw [← hw1, hB]; simp
  have hb1 : Below B w w1 := by rw [← hw1]; exact (Below.refl _ _).alloc (by omega) _
  obtain ⟨w2, hw2⟩ : ∃ w2, w1.alloc (.cells #[.slice none 0 0] 54) = w2 := ⟨_, rfl⟩
  have hz2 : w2.heap.size = B + 2 := by rw [← hw2, World.size_alloc, hz1]
  have hc2 : w2.cell? ⟨B, 0, none⟩ = some (.int .i64 (d : Int)) := by rw [← hw2]; exact (World.cell?_alloc_lt _ _ _ (by show B < _; omega)).trans hc1
  have hn2 : w2.heap[B + 1]? = some (.cells #[.slice none 0 0] 54 (0, 0)) := by rw [← hw2, ← hz1]; exact World.alloc_heap_new _ _
  have hb2 : Below B w w2 := by rw [← hw2]; exact hb1.alloc (by omega) _
  have hN2 : Nums ao L w2 := by rw [← hw2]; exact hN1.grown (World.grownBy_alloc _ _ none) (fun _ _ _ => by simp)
  obtain ⟨w3, hw3⟩ : ∃ w3, (w2.alloc (.cells #[.slice ao L.length cap] 24)).alloc (.cells #[.int .i64 (d : Int)] 3) = w3 := ⟨_, rfl⟩
  have hz3 : w3.heap.size = B + 4 := by rw [← hw3, World.size_alloc, World.size_alloc, hz2]
  have hk3 : Below (B + 2) w2 w3 := by rw [← hw3]; exact ((Below.refl _ _).alloc (by omega) _).alloc (by simp; omega) _
  have hq1 : w3.cell? ⟨B + 2, 0, none⟩ = some (.slice ao L.length cap) := by
    rw [← hw3, ← hz2]; exact (World.cell?_alloc_lt _ _ _ (by simp)).trans (by simp)
  have hq2 : w3.cell? ⟨B + 3, 0, none⟩ = some (.int .i64 (d : Int)) := by
    rw [← hw3, show B + 3 = (w2.alloc (.cells #[.slice ao L.length cap] 24)).heap.size by simp; omega]; simp
  have hb3 : Below B w w3 := hb2.trans (hk3.mono (by omega))
  have hn3 : w3.heap[B + 1]? = some (.cells #[.slice none 0 0] 54 (0, 0)) := (hk3.block _ (by omega)).trans hn2
  have hN3 : Nums ao L w3 := by
    rcases hN with h | ⟨b, off, rfl, h2, h3⟩
    · exact .inl h
    · exact .inr ⟨b, off, rfl, by omega, fun i hi => (hb3.cell (p := ⟨b, off + i, none⟩) (by show b < B; omega)).trans (h3 i hi)⟩
  have HC := Lib.hid (contains_any ao cap L B d w1 hN1 (by omega) hc1)
  have hany : (L.any fun x => !standsB x (d : Int)) = false := by
    rw [Bool.eq_false_iff]
    intro h
    obtain ⟨x, hx, hh⟩ := List.any_eq_true.1 h
    rw [hs x hx] at hh
    cases hh
  rw [hany] at HC
  have HV := Lib.hid (levels_any ao L.length cap (d : Int) w2)
  rw [hw3, hz2] at HV
  have HW := Lib.hid (And.intro hb3 (And.intro hn3 (And.intro hN3 (And.intro hq1 hq2))))
  have HB := Lib.hid hB
  have HZ3 := Lib.hid hz3
  have hB' : w.heap.size = B := hB.symm
  clear hany hN hN1 hN2 hN3 hb1 hb2 hb3 hn2 hn3 hq1 hq2 hk3 hc1 hw3 hB hz2 hz3
  refine calls_of_wp_marks Tryz.func40 rfl ?_
  simp only [Tryz.ntmps40, List.size_toArray, List.length_cons, List.length_nil, Nat.reduceAdd, Nat.reduceSub, Array.replicate_succ, Array.replicate_zero, List.push_toArray, List.append_toArray, List.nil_append, List.cons_append]
  go_wp2_with (first | (go_at_call 56; refine HC.out.mono ?_; rintro e w2 ⟨rfl, rfl⟩) | (go_at_call 57; refine HV.out.mono ?_; rintro e w2 ⟨rfl, rfl⟩))
  obtain ⟨hb3, hn3, hN3, hq1, hq2⟩ := HW.out
  refine wp_rangeFunc_own (gf := 78) (lb := #[.pointer (some ⟨B + 2, 0, none⟩), .pointer (some ⟨B + 3, 0, none⟩)]) rfl (enters_of Tryz.func78 (by kernel_rfl) rfl)
    (levels_hands (B + 2) (B + 3) ao cap L d hL (by omega) hd) (fun _ => rfl) (B + 4) HZ3.out ?ok (by simp) [B + 1] (by simp) (fun k W W' h e => h.block e)
    (fun k W => NeedsAt (B + 7) (B + 1) L k W ∧ B + 4 ≤ W.heap.size) ?keep ?start
    (fun m => { tmps := #[.slice ao L.length cap, .int .i64 (d : Int), undef, .pointer (some ⟨B, 0, none⟩), .slice none 0 0, .func (.func 54) #[] #[.pointer (some ⟨B, 0, none⟩)], .pointer (some ⟨B + 1, 0, none⟩), .map (some m),
      .func (.func 54) #[] #[.pointer (some ⟨B, 0, none⟩)], .slice ao L.length cap, .int .i64 (L.length : Int), .bool false, .bool false, .slice ao L.length cap, .func (.func 54) #[] #[.pointer (some ⟨B, 0, none⟩)], .bool false, .bool false,
      .slice ao L.length cap, .int .i64 (d : Int), .func (.func 78) #[] #[.pointer (some ⟨B + 2, 0, none⟩), .pointer (some ⟨B + 3, 0, none⟩)], .map (some m), undef, undef, undef, undef, undef, undef], defers := [] }) ?assign ?body ?done
  case ok =>
    intro W' hW'
    have hz := HZ3.out
    refine ⟨(hW'.cell (p := ⟨B + 2, 0, none⟩) (by show B + 2 < B + 4; omega)).trans hq1, (hW'.cell (p := ⟨B + 3, 0, none⟩) (by show B + 3 < B + 4; omega)).trans hq2, ?_⟩
    rcases hN3 with h | ⟨b, off, rfl, h2, h3⟩
    · exact .inl h
    · exact .inr ⟨b, off, rfl, by have := hW'.size; omega, fun i hi => (hW'.cell (p := ⟨b, off + i, none⟩) (by show b < B + 4; omega)).trans (h3 i hi)⟩
  case keep =>
    rintro k W W' ⟨h, hz⟩ hk
    exact ⟨h.kept hk (.inl (by omega)) (fun j hj => .inr (by omega)), by have := hk.size; omega⟩
  case start => exact ⟨⟨.slice none 0 0, [], [], hn3, World.ownsRow_nil _ _ _ _, rfl, fun i x N h => by simp at h⟩, by rw [HZ3.out]; omega⟩
  case assign =>
    intro l W K hK
    gi_wp2
    exact hK
  case body =>
    rintro l k W hkd hWz ⟨⟨v, vs, Ms, hcell, hown, hMs, hrows⟩, hz⟩ hset
    have hset2 : SetU (B + 4 + 2) L.length (upTo L k) W.drew := hset.block rfl
    have HND := Lib.hid (needed_sl (B + 4 + 2) L.length (upTo L k) W.drew hset2 hn)
    have hc4 : W.cell? ⟨B + 1, 0, none⟩ = some v := by simp [World.cell?, hcell]
    have HST := Lib.hid (fun (w1 : World) (x : Value) (N : List Nat) => needs_step (lo := B + 4) (b4 := B + 1) (k := k) (L := L) (W := W.drew) (w1 := w1) (v := v) (x := x) (vs := vs) (Ms := Ms) (N := N) (by omega) hWz (by omega) hcell (own_kept hown (Kept.refl _ W).drew (fun _ _ => trivial)) hMs
      (fun i x N hx hN => ⟨own_kept (hrows i x N hx hN).1 (S := fun _ => True) (Kept.refl _ W).drew (fun _ _ => trivial), (hrows i x N hx hN).2⟩))
    have hmo : Tryz.prog.follows .mixedOrders = true := by kernel_rfl
    clear hset hset2 hrows hown hcell
    gi_wp2
    refine wpIn_region_any hmo ?_
    change wpAnyIn _ _ _ _ _ _ _ _ _ (World.drew _)
    refine wpAnyIn_ready (rs := [0, 1]) (by kernel_rfl) (by simp) (AllReadyIn.cons rfl (fun K hK => ?_) (AllReadyIn.cons rfl (fun K hK => ?_) AllReadyIn.nil))
    · go_simp
      refine hK _ _ ?_
      clear hK K
      refine wpAnyIn_ready (rs := [1]) (by kernel_rfl) (by simp) (AllReadyIn.cons rfl (fun K hK => ?_) AllReadyIn.nil)
      go_simp
      refine hK _ _ ?_
      clear hK K
      refine wpAnyIn_ready (rs := [2]) (by kernel_rfl) (by simp) (AllReadyIn.cons rfl (fun K hK => ?_) AllReadyIn.nil)
      go_simp
      refine ⟨trivial, rfl, (CallsIn.inRound l (callsIn_wide.2 HND.out)).mono ?_⟩
      rintro e w1 ⟨ax, cx, N, rfl, hneed, hxrow, hbel⟩
      obtain ⟨g, cp, w2, hrun, e1, e2, e3, hkp, hat⟩ := HST.out w1 _ N hbel hxrow hneed
      have HKP := Lib.hid ((Kept.refl _ W).drew.trans hkp)
      have HAT := Lib.hid hat
      have e4 : (w1.alloc (.cells #[.slice ax N.length cx] 24)).cell? ⟨B + 1, 0, none⟩ = some v := (World.cell?_alloc_lt _ _ _ (World.block_lt_of_cell? w1 _ e1)).trans e1
      clear hkp hat hneed hxrow hbel
      refine hK _ _ ?_
      clear hK K
      refine wpAnyIn_ready (rs := [3]) (by kernel_rfl) (by simp) (AllReadyIn.cons rfl (fun K hK => ?_) AllReadyIn.nil)
      go_simp
      refine hK _ _ ?_
      clear hK K
      refine wpAnyIn_ready (rs := [4]) (by kernel_rfl) (by simp) (AllReadyIn.cons rfl (fun K hK => ?_) AllReadyIn.nil)
      refine step_append_in rfl _ _ 54 rfl rfl rfl hrun ?_
      go_frame
      refine hK _ _ ?_
      clear hK K
      refine wpAnyIn_ready (rs := [5]) (by kernel_rfl) (by simp) (AllReadyIn.cons rfl (fun K hK => ?_) AllReadyIn.nil)
      go_simp
      refine hK _ _ ?_
      clear hK K
      refine wpAnyIn_done (by kernel_rfl) ?_ _
      exact ⟨HKP.out, HAT.out, by have := HKP.out.size; omega⟩
    · go_simp
      refine hK _ _ ?_
      clear hK K
      refine wpAnyIn_ready (rs := [0, 2]) (by kernel_rfl) (by simp) (AllReadyIn.cons rfl (fun K hK => ?_) (AllReadyIn.cons rfl (fun K hK => ?_) AllReadyIn.nil))
      · go_simp
        refine hK _ _ ?_
        clear hK K
        refine wpAnyIn_ready (rs := [2]) (by kernel_rfl) (by simp) (AllReadyIn.cons rfl (fun K hK => ?_) AllReadyIn.nil)
        go_simp
        refine ⟨trivial, rfl, (CallsIn.inRound l (callsIn_wide.2 HND.out)).mono ?_⟩
        rintro e w1 ⟨ax, cx, N, rfl, hneed, hxrow, hbel⟩
        obtain ⟨g, cp, w2, hrun, e1, e2, e3, hkp, hat⟩ := HST.out w1 _ N hbel hxrow hneed
        have HKP := Lib.hid ((Kept.refl _ W).drew.trans hkp)
        have HAT := Lib.hid hat
        have e4 : (w1.alloc (.cells #[.slice ax N.length cx] 24)).cell? ⟨B + 1, 0, none⟩ = some v := (World.cell?_alloc_lt _ _ _ (World.block_lt_of_cell? w1 _ e1)).trans e1
        clear hkp hat hneed hxrow hbel
        refine hK _ _ ?_
        clear hK K
        refine wpAnyIn_ready (rs := [3]) (by kernel_rfl) (by simp) (AllReadyIn.cons rfl (fun K hK => ?_) AllReadyIn.nil)
        go_simp
        refine hK _ _ ?_
        clear hK K
        refine wpAnyIn_ready (rs := [4]) (by kernel_rfl) (by simp) (AllReadyIn.cons rfl (fun K hK => ?_) AllReadyIn.nil)
        refine step_append_in rfl _ _ 54 rfl rfl rfl hrun ?_
        go_frame
        refine hK _ _ ?_
        clear hK K
        refine wpAnyIn_ready (rs := [5]) (by kernel_rfl) (by simp) (AllReadyIn.cons rfl (fun K hK => ?_) AllReadyIn.nil)
        go_simp
        refine hK _ _ ?_
        clear hK K
        refine wpAnyIn_done (by kernel_rfl) ?_ _
        exact ⟨HKP.out, HAT.out, by have := HKP.out.size; omega⟩
      · go_simp
        refine ⟨trivial, rfl, (CallsIn.inRound l (callsIn_wide.2 HND.out)).mono ?_⟩
        rintro e w1 ⟨ax, cx, N, rfl, hneed, hxrow, hbel⟩
        obtain ⟨g, cp, w2, hrun, e1, e2, e3, hkp, hat⟩ := HST.out w1 _ N hbel hxrow hneed
        have HKP := Lib.hid ((Kept.refl _ W).drew.trans hkp)
        have HAT := Lib.hid hat
        have e4 : (w1.alloc (.cells #[.slice ax N.length cx] 24)).cell? ⟨B + 1, 0, none⟩ = some v := (World.cell?_alloc_lt _ _ _ (World.block_lt_of_cell? w1 _ e1)).trans e1
        clear hkp hat hneed hxrow hbel
        refine hK _ _ ?_
        clear hK K
        refine wpAnyIn_ready (rs := [0, 3]) (by kernel_rfl) (by simp) (AllReadyIn.cons rfl (fun K hK => ?_) (AllReadyIn.cons rfl (fun K hK => ?_) AllReadyIn.nil))
        · go_simp
          refine hK _ _ ?_
          clear hK K
          refine wpAnyIn_ready (rs := [3]) (by kernel_rfl) (by simp) (AllReadyIn.cons rfl (fun K hK => ?_) AllReadyIn.nil)
          go_simp
          refine hK _ _ ?_
          clear hK K
          refine wpAnyIn_ready (rs := [4]) (by kernel_rfl) (by simp) (AllReadyIn.cons rfl (fun K hK => ?_) AllReadyIn.nil)
          refine step_append_in rfl _ _ 54 rfl rfl rfl hrun ?_
          go_frame
          refine hK _ _ ?_
          clear hK K
          refine wpAnyIn_ready (rs := [5]) (by kernel_rfl) (by simp) (AllReadyIn.cons rfl (fun K hK => ?_) AllReadyIn.nil)
          go_simp
          refine hK _ _ ?_
          clear hK K
          refine wpAnyIn_done (by kernel_rfl) ?_ _
          exact ⟨HKP.out, HAT.out, by have := HKP.out.size; omega⟩
        · go_simp
          refine hK _ _ ?_
          clear hK K
          refine wpAnyIn_ready (rs := [0]) (by kernel_rfl) (by simp) (AllReadyIn.cons rfl (fun K hK => ?_) AllReadyIn.nil)
          go_simp
          refine hK _ _ ?_
          clear hK K
          refine wpAnyIn_ready (rs := [4]) (by kernel_rfl) (by simp) (AllReadyIn.cons rfl (fun K hK => ?_) AllReadyIn.nil)
          refine step_append_in rfl _ _ 54 rfl rfl rfl hrun ?_
          go_frame
          refine hK _ _ ?_
          clear hK K
          refine wpAnyIn_ready (rs := [5]) (by kernel_rfl) (by simp) (AllReadyIn.cons rfl (fun K hK => ?_) AllReadyIn.nil)
          go_simp
          refine hK _ _ ?_
          clear hK K
          refine wpAnyIn_done (by kernel_rfl) ?_ _
          exact ⟨HKP.out, HAT.out, by have := HKP.out.size; omega⟩
  case done =>
    rintro W ⟨⟨v, vs, Ms, hcell, hown, hMs, hrows⟩, hz⟩ hkept hdef
    have hc4 : W.cell? ⟨B + 1, 0, none⟩ = some v := by simp [World.cell?, hcell]
    have HR := Lib.hid (And.intro hown (And.intro hMs hrows))
    have HK := Lib.hid hkept
    have HH3 := Lib.hid hb3
    clear hcell hown hrows hkept
    go_wp2
    refine ⟨by simp, .inl ⟨_, _, rfl, run_takeDeferred hdef, ?_⟩⟩
    obtain ⟨hown, hMs', hrows⟩ := HR.out
    have kp : Kept (fun j => j ≠ B + 4) W (W.putObj (B + 4) (.deferred none)) := Kept.putObj _ _ _ _ (by simp)
    have hbw := (HK.out.trans (kp.less (T := fun j => j < B + 4 ∧ j ∉ [B + 1]) fun j _ h => by omega)).below (B := B) (by rw [HZ3.out]; omega) (fun j h => ⟨by omega, by simp; omega⟩)
    refine ⟨_, results_tmp rfl _ _ _, v, vs, Ms, rfl, row_base (own_kept hown kp fun j h => by omega) (by have := HB.out; omega), hMs', fun i x N hx hN => ⟨row_base (own_kept (hrows i x N hx hN).1 kp fun j h => by omega) (by have := HB.out; omega), (hrows i x N hx hN).2⟩, ?_⟩
    rw [← HB.out]
    exact HH3.out.trans hbw
end Go.Proofs.YtfghggfoncfhgaaGreatDoor
/- Where nothing is needed; the depth; the reference's. -/
namespace Go.Proofs.YtfghggfoncfhgaaGreatDoor
open Go.RowKit Go.Sort

theorem needs_none (ao : Option Addr) (cap : Nat) (L : List Nat) (d : Int) (w : World) (hN : Nums ao L w) (hn : L.length ≤ 100000) (hs : L = [] ∨ ∃ x ∈ L, standsB x d = false) :
    Calls Tryz.prog 40 #[.slice ao L.length cap, .int .i64 d] w fun e w' => e = .returned (.slice none 0 0) ∧ Below w.heap.size w w' := by
  obtain ⟨w1, hw1⟩ : ∃ w1, w.alloc (.cells #[.int .i64 d] 3) = w1 := ⟨_, rfl⟩
  have hN1 : Nums ao L w1 := by rw [← hw1]; exact hN.grown (World.grownBy_alloc _ _ none) (fun _ _ _ => by simp)
  have hc1 : w1.cell? ⟨w.heap.size, 0, none⟩ = some (.int .i64 d) := by rw [← hw1]; simp
  have HB := Lib.hid (show Below w.heap.size w w1 by rw [← hw1]; exact (Below.refl _ _).alloc (Nat.le_refl _) _)
  have HC := Lib.hid (contains_any ao cap L w.heap.size d w1 hN1 hn hc1)
  have hany : L = [] ∨ (L.any fun x => !standsB x d) = true := by
    rcases hs with h | ⟨x, hx, h⟩
    · exact .inl h
    · exact .inr (List.any_eq_true.2 ⟨x, hx, by simp [h]⟩)
  generalize (L.any fun x => !standsB x d) = y at *
  clear hN hN1 hs
  by_cases h0 : L = []
  · subst h0
    have hl0 : ((([] : List Nat).length : Int) == 0) = true := by simp
    go_enter Tryz.func40, Tryz.ntmps40
    go_wp2
    go_ret
    exact ⟨rfl, HB.out⟩
  · have hl0 : ((L.length : Int) == 0) = false := by rw [beq_eq_false_iff_ne]; have := List.length_pos_iff.2 h0; omega
    have hy : y = true := by rcases hany with h | h; exact absurd h h0; exact h
    subst hy
    clear hany
    go_enter Tryz.func40, Tryz.ntmps40
    go_wp2_with (go_at_call 56; refine HC.out.mono ?_; rintro e w2 ⟨rfl, rfl⟩)
    go_ret
    exact ⟨rfl, HB.out⟩

end Go.Proofs.YtfghggfoncfhgaaGreatDoor
/- Rows of rows of numbers. -/
namespace Go.Proofs.YtfghggfoncfhgaaGreatDoor
open Go.RowKit Go.Sort

/-- the slice at ao lays the rows M -/
def Rows2 (ao : Option Addr) (M : List (List Nat)) (w : World) : Prop :=
  M = [] ∨ ∃ b off, ao = some ⟨b, off, none⟩ ∧ ∀ i (h : i < M.length), ∃ ai ci, w.cell? ⟨b, off + i, none⟩ = some (.slice ai (M[i]).length ci) ∧ Nums ai M[i] w
theorem drewN_add (w : World) (a b : Nat) : (w.drewN a).drewN b = w.drewN (a + b) := by simp [World.drewN, Nat.add_assoc]
theorem nums_drawn {ao : Option Addr} {L : List Nat} {w : World} (h : Nums ao L w) (q : Nat) : Nums ao L (w.drewN q) := h
theorem rows_drawn {ao : Option Addr} {M : List (List Nat)} {w : World} (h : Rows2 ao M w) (q : Nat) : Rows2 ao M (w.drewN q) := h
theorem nums_at {ao : Option Addr} {L : List Nat} {w : World} (h : Nums ao L w) (k : Nat) (hk : k < L.length) : ∃ b off, ao = some ⟨b, off, none⟩ ∧ w.cell? ⟨b, off + k, none⟩ = some (.int .u64 (L[k] : Int)) := by
  rcases h with h | ⟨b, off, h1, _, h3⟩
  · subst h; simp at hk
  · exact ⟨b, off, h1, h3 k hk⟩
theorem rows_at {ao : Option Addr} {M : List (List Nat)} {w : World} (h : Rows2 ao M w) (k : Nat) (hk : k < M.length) : ∃ b off ai ci, ao = some ⟨b, off, none⟩ ∧ w.cell? ⟨b, off + k, none⟩ = some (.slice ai (M[k]).length ci) ∧ Nums ai M[k] w := by
  rcases h with h | ⟨b, off, h1, h3⟩
  · subst h; simp at hk
  · obtain ⟨ai, ci, h4, h5⟩ := h3 k hk
    exact ⟨b, off, ai, ci, h1, h4, h5⟩
end Go.Proofs.YtfghggfoncfhgaaGreatDoor
/- Rows of numbers: what is kept; closed levels. -/
namespace Go.Proofs.YtfghggfoncfhgaaGreatDoor
open Go.RowKit Go.Sort

theorem nums_next {ao : Option Addr} {L : List Nat} {w w' : World} (h : Nums ao L w) (hb : Below w.heap.size w w') : Nums ao L w' := by
  rcases h with h | ⟨b, off, rfl, h2, h3⟩
  · exact .inl h
  · exact .inr ⟨b, off, rfl, by have := hb.size; omega, fun i hi => (hb.cell (p := ⟨b, off + i, none⟩) h2).trans (h3 i hi)⟩
theorem rows_next {ao : Option Addr} {M : List (List Nat)} {w w' : World} (h : Rows2 ao M w) (hb : Below w.heap.size w w') : Rows2 ao M w' := by
  rcases h with h | ⟨b, off, rfl, h3⟩
  · exact .inl h
  · refine .inr ⟨b, off, rfl, fun i hi => ?_⟩
    obtain ⟨ai, ci, h4, h5⟩ := h3 i hi
    exact ⟨ai, ci, (hb.cell (p := ⟨b, off + i, none⟩) (World.block_lt_of_cell? w _ h4)).trans h4, nums_next h5 hb⟩
/-- a closed level -/
theorem need_closed {K N : List Nat} (h1 : N.Pairwise (· < ·)) (h2 : ∀ x ∈ N, sib x ∈ K ∧ x ∉ K) (h3 : ∀ x ∈ K, sib x ∈ K ∨ sib x ∈ N) : Need K N :=
  ⟨h1, fun x => ⟨fun h => h2 x h, fun ⟨a, b⟩ => by
    have := h3 _ a
    rw [sib_sib] at this
    exact this.resolve_left b⟩⟩
theorem needs_closed {L : List Nat} {d : Nat} {M : List (List Nat)} (hl : M.length = d) (h : ∀ i, i < d → (M.getD i []).Pairwise (· < ·) ∧ (∀ x ∈ M.getD i [], sib x ∈ upTo L i ∧ x ∉ upTo L i) ∧ (∀ x ∈ upTo L i, sib x ∈ upTo L i ∨ sib x ∈ M.getD i [])) : Needs L d M :=
  ⟨hl, fun i N hN => by
    have hi := (List.getElem?_eq_some_iff.1 hN).1
    have hg : M.getD i [] = N := by rw [List.getD_eq_getElem?_getD, hN]; rfl
    obtain ⟨a, b, c⟩ := h i (by omega)
    rw [hg] at a b c
    exact need_closed a b c⟩
theorem nums_lit {w : World} {b : Nat} {L : List Nat} {cs : Array Value} {T : TypeId} {fr : Nat × Nat} (h : w.heap[b]? = some (.cells cs T fr)) (hc : cs = (L.map encU).toArray) : Nums (some ⟨b, 0, none⟩) L w := by
  refine .inr ⟨b, 0, rfl, (Array.getElem?_eq_some_iff.1 h).1, fun i hi => ?_⟩
  subst hc
  simp [World.cell?, h, hi, encU]
theorem alloc_new (w : World) (o : Obj) {B : Nat} (hB : B = w.heap.size) : (w.alloc o).heap[B]? = some o := by subst hB; exact World.alloc_heap_new w o
theorem alloc_old (w : World) (o : Obj) {b : Nat} (hb : b < w.heap.size) : (w.alloc o).heap[b]? = w.heap[b]? := Below.heap_alloc _ _ _ hb
end Go.Proofs.YtfghggfoncfhgaaGreatDoor
