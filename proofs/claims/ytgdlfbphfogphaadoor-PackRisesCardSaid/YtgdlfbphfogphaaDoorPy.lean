/- A thing's row, and what it counts, laid behind what lies already. -/
import Derived.Test.YtgdlfbphfogphaaDoorPx
import Derived.RegionTactic
import Derived.Deep.RegionHeld3
namespace Go.Proofs.YtgdlfbphfogphaaDoor
open Go.RowKit

/-- append of a text, as a step of a region that draws -/
theorem step_append_str {ops : Array Oper} {o : Oper} {a : Act} {K : Act → World → Prop} {Q : Exit → Act → World → Prop} {E : Prop} {w : World} (hgd : o.guard = none) (s x : Operand)
    (ho : o.op = .call { callee := .builtin .append, args := #[s, x], argTypes := #[48, 9] }) (base : Nat) (v : Value) (L T : List UInt8) (hs : a.eval s = v) (hx : a.eval x = .string ⟨T.toArray⟩)
    (hown : w.ownsRow base 5 1 v L.length (byV L)) (hm : L.length + T.length ≤ 100000000) (h0 : base ≤ w.heap.size)
    (h : ∀ v' w', w'.ownsRow base 5 1 v' (L ++ T).length (byV (L ++ T)) → Below base w w' → K (a.put o.dst v') w') :
    if Region.wanted o (yielded ops a.tmps) = true then Oper.wp Tryd.prog o a w K Q else E := by
  have hw : Region.wanted o (yielded ops a.tmps) = true := by simp [Region.wanted, hgd]
  rw [if_pos hw]
  obtain ⟨i0, hi, hz0, hz1, hz2⟩ := Tryd.info5b
  obtain ⟨v', w', hr, h2, h3, _⟩ := Lib.run_append_own_string (P := Tryd.prog) w base 48 9 o.type 5 i0 Tryd.underlying48 Tryd.underlying9 hi hz0 hz1 hz2 v L.length _ hown ⟨T.toArray⟩ (by show L.length + T.length ≤ maxLen; unfold maxLen; omega) (by show L.length + T.length ≤ _; omega) h0
  unfold Oper.wp execOp
  simp only [ho, resolve, invoke, builtin, Sem.run_bind, Sem.run_pure, Result.andThen_ok, List.map_toArray, List.map_cons, List.map_nil, hs, hx, hr]
  refine h v' w' ?_ ((Below.refl _ _).grown h3 h0 (fun k e => (hown.lt k e).1))
  have e : byV L ++ Lib.strCells ⟨T.toArray⟩ = byV (L ++ T) := by rw [byV_cat]; rfl
  rw [← e, List.length_append]
  exact h2

theorem shortest_yes (s : Int) (n i : Nat) (w : World) (hg : Glob w) (hi : i < 14) (hs : saysB (rowAt i) s n = true) (hj : ∀ j, j < i → saysB (rowAt j) s n = false) :
    Calls Tryd.prog 38 #[.int .i64 s, .int .u64 (n : Int)] w fun e w' => e = .returned (.tuple #[.agg (rowV (rowAt i)).toArray, .bool true]) ∧ Below w.heap.size w w' := by
  refine (shortest_any s n w hg).mono ?_
  rintro e w' ⟨⟨k, _, hk, hk2, rfl⟩ | ⟨hk, _⟩, hb⟩
  · have : k = i := by
      rcases Nat.lt_trichotomy k i with h | h | h
      · have := hj k h; rw [hk] at this; cases this
      · exact h
      · have := hk2 i h; rw [hs] at this; cases this
    exact ⟨by rw [this], hb⟩
  · have := hk i hi; rw [hs] at this; cases this
theorem shortest_no (s : Int) (n : Nat) (w : World) (hg : Glob w) (hj : ∀ j, j < 14 → saysB (rowAt j) s n = false) :
    Calls Tryd.prog 38 #[.int .i64 s, .int .u64 (n : Int)] w fun e w' => e = .returned (.tuple #[.agg #[.int .i64 0, .int .u64 0, .int .u8 0, .int .i64 0], .bool false]) ∧ Below w.heap.size w w' := by
  refine (shortest_any s n w hg).mono ?_
  rintro e w' ⟨⟨k, hk0, hk, hk2, rfl⟩ | ⟨hk, rfl⟩, hb⟩
  · have := hj k hk0; rw [hk] at this; cases this
  · exact ⟨rfl, hb⟩
theorem slice_of_own {w : World} {base : Nat} {v : Value} {n : Nat} {xs : List Value} (h : w.ownsRow base 5 1 v n xs) : ∃ ao ln cp, v = .slice ao ln cp := by
  rcases h.2 with ⟨rfl, _⟩ | ⟨g, cap, cur, rfl, _⟩
  · exact ⟨_, _, _, rfl⟩
  · exact ⟨_, _, _, rfl⟩
theorem rowP_len (r : RowP) (n : Nat) (h : r.size ≤ 8) : (rowP r n).length ≤ 9 := by
  unfold rowP
  split
  · simp
  · rw [List.length_cons, be_length]; omega
theorem rows_fit : ∀ i, i < 14 → (rowAt i).size ≤ 8 ∧ (rowAt i).f < 256 ∧ ((rowAt i).size = 0 → (rowAt i).f + (rowAt i).last < 256) := by decide
theorem says_le {r : RowP} {s : Int} {n : Nat} (h : saysB r s n = true) : n ≤ r.last := by
  unfold saysB at h
  simp at h
  exact h.2

/-- at block b lies a writer whose bytes are L, all of its memory from block B on; the table lies -/
structure Wr (B b : Nat) (L : List UInt8) (w : World) : Prop where
  pos : 0 < B
  hB : B ≤ b
  g : Glob w
  h : ∃ v, w.heap[b]? = some (.cells #[v] 52 (0, 0)) ∧ w.ownsRow (b + 1) 5 1 v L.length (byV L)
theorem Wr.lt {B b : Nat} {L : List UInt8} {w : World} (h : Wr B b L w) : b < w.heap.size := by
  obtain ⟨v, h1, _⟩ := h.h
  exact (Array.getElem?_eq_some_iff.1 h1).1
theorem Wr.next {B b : Nat} {L : List UInt8} {w w' : World} (h : Wr B b L w) (hb : Below w.heap.size w w') : Wr B b L w' := by
  have hl := h.lt
  obtain ⟨v, h1, h2⟩ := h.h
  exact ⟨h.pos, h.hB, h.g.next hb, v, (hb.block _ hl).trans h1, h2.kept (w' := w') (row := none) ⟨hb.os, hb.tape, hb.output, hb.size, fun k hk _ => hb.block k hk⟩ (by
    cases hv : v.ownBlock with
    | none => exact .inl rfl
    | some k => exact .inr (fun e => by cases e))⟩

theorem Wr.stored {B b : Nat} {L : List UInt8} {w : World} {v x : Value} (hp : 0 < B) (hB : B ≤ b) (g : Glob w) (hb : w.heap[b]? = some (.cells #[x] 52 (0, 0))) (hown : w.ownsRow (b + 1) 5 1 v L.length (byV L)) :
    Wr B b L (w.setCell ⟨b, 0, none⟩ v) := by
  have hlt : Below B w (w.setCell ⟨b, 0, none⟩ v) := (Below.refl _ _).setCell hB _
  refine ⟨hp, hB, g.below hp hlt, v, (lit_set v hb).trans rfl, hown.kept (w' := w.setCell ⟨b, 0, none⟩ v) (row := some b) ⟨rfl, rfl, rfl, hlt.size, fun k _ hk => lit_far v (fun e => hk (by rw [e]))⟩ ?_⟩
  cases hv : v.ownBlock with
  | none => exact .inl rfl
  | some k => exact .inr (fun e => by cases e; have := (hown.lt _ hv).1; omega)

set_option maxRecDepth 100000 in
set_option maxHeartbeats 1000000 in
theorem lay_yes (B b : Nat) (L T : List UInt8) (s : Int) (n : Nat) (i : Nat) (w : World) (hW : Wr B b L w) (hL : L.length < 10000000) (hT : T.length < 10000000) (hn : n < 18446744073709551616)
    (hi : i < 14) (hs : saysB (rowAt i) s n = true) (hj : ∀ j, j < i → saysB (rowAt j) s n = false) :
    Calls Tryd.prog 28 #[.pointer (some ⟨b, 0, none⟩), .int .i64 s, .int .u64 (n : Int), .string ⟨T.toArray⟩] w fun e w' => e = .returned (.int .i64 0) ∧ Wr B b (L ++ (rowP (rowAt i) n ++ T)) w' ∧ Below B w w' := by
  have HS := Lib.hid (shortest_yes s n i w hW.g hi hs hj)
  have HF := Lib.hid (rows_fit i hi)
  have HN := Lib.hid (says_le hs)
  have HW := Lib.hid hW
  clear hs hj hi hW
  generalize rowAt i = r at *
  obtain ⟨rs, rl, rf, rz⟩ := r
  simp only [rowV] at HS
  have hrl : (rowP ⟨rs, rl, rf, rz⟩ n).length ≤ 9 := rowP_len _ _ HF.out.1
  obtain ⟨P, hP⟩ : ∃ P, rowP ⟨rs, rl, rf, rz⟩ n = P := ⟨_, rfl⟩
  rw [hP] at hrl ⊢
  have HPL := Lib.hid hrl
  clear hrl
  go_enter Tryd.func28, Tryd.ntmps28
  go_wp2_with (go_at_call 38; refine HS.out.mono ?_; rintro e w1 ⟨rfl, b1⟩)
  have hz1 := b1.size
  have HW2 := Lib.hid ((HW.out.next b1).next (by0 w1 (.cells #[.int .i64 rs, .int .u64 (rl : Int), .int .u8 (rf : Int), .int .i64 (rz : Int)] 70)))
  have HW2 := Lib.hid (HW2.out.next (Below.refl _ _).drew)
  have HB2 := Lib.hid ((b1.trans ((by0 w1 (.cells #[.int .i64 rs, .int .u64 (rl : Int), .int .u8 (rf : Int), .int .i64 (rz : Int)] 70)).mono hz1)).drew)
  have HR := Lib.hid (fun i => lit_cell (w := (w1.alloc (.cells #[.int .i64 rs, .int .u64 (rl : Int), .int .u8 (rf : Int), .int .i64 (rz : Int)] 70)).drew) (heap_alloc_new w1 (.cells #[.int .i64 rs, .int .u64 (rl : Int), .int .u8 (rf : Int), .int .i64 (rz : Int)] 70)) i)
  refine wp_region_any (by kernel_rfl) ?_
  change wpAny _ _ _ _ _ _ _ (World.drew _)
  generalize (w1.alloc (.cells #[.int .i64 rs, .int .u64 (rl : Int), .int .u8 (rf : Int), .int .i64 (rz : Int)] 70)).drew = w2 at *
  generalize w1.heap.size = N at *
  obtain ⟨v, hv, hown⟩ := HW2.out.h
  have HV := Lib.hid hv
  have HO := Lib.hid hown
  have hlt := HW2.out.lt
  have HH := Lib.hid (head_any ⟨rs, rl, rf, rz⟩ n (b + 1) v L w2 HF.out.1 HF.out.2.1 (fun e => by have h1 := HF.out.2.2 e; have h2 := HN.out; show rf + n < 256; omega) hn (by omega) hown (by omega))
  simp only [rowV, hP] at HH
  have hl9 := hL
  have HP := Lib.hid HW2.out.pos
  have HBb := Lib.hid HW2.out.hB
  have HG2 := Lib.hid HW2.out.g
  have HSZ := Lib.hid (show B ≤ w.heap.size by have := HW.out.lt; have := HW.out.hB; omega)
  clear hown HS b1 hz1
  refine wpAny_take (i := 0) (oi := ⟨some 21, .move (.tmp 0), _, _, _, none⟩) (v := .pointer (some ⟨b, 0, none⟩)) rfl (by kernel_rfl) (by kernel_rfl) (by kernel_rfl) (fun _ _ _ h => h) (Or.inl ⟨by rfl, fun _ => rfl⟩) ?_
  simp only [Act.put, List.setIfInBounds_toArray, List.set_cons_succ, List.set_cons_zero]
  refine wpAny_take (i := 2) (oi := ⟨some 23, .move (.tmp 0), _, _, _, none⟩) (v := .pointer (some ⟨b, 0, none⟩)) rfl (by kernel_rfl) (by kernel_rfl) (by kernel_rfl) (fun _ _ _ h => h) (Or.inl ⟨by rfl, fun _ => rfl⟩) ?_
  simp only [Act.put, List.setIfInBounds_toArray, List.set_cons_succ, List.set_cons_zero]
  refine wpAny_take (i := 3) (oi := ⟨some 24, .nilCheck (.tmp 23), _, _, _, none⟩) (v := .pointer (some ⟨b, 0, none⟩)) rfl (by kernel_rfl) (by kernel_rfl) (by kernel_rfl) (fun _ _ _ h => h) (Or.inl ⟨by rfl, fun _ => rfl⟩) ?_
  simp only [Act.put, List.setIfInBounds_toArray, List.set_cons_succ, List.set_cons_zero]
  refine wpAny_take (i := 4) (oi := ⟨some 25, .fieldAddr 52 (.tmp 24) 0, _, _, _, none⟩) (v := .pointer (some ⟨b, 0, none⟩)) rfl (by kernel_rfl) (by kernel_rfl) (by kernel_rfl) (fun _ _ _ h => h) (Or.inl ⟨by rfl, fun _ => by kernel_rfl⟩) ?_
  simp only [Act.put, List.setIfInBounds_toArray, List.set_cons_succ, List.set_cons_zero]
  refine wpAny_take (i := 6) (oi := ⟨some 27, .move (.tmp 2), _, _, _, none⟩) (v := .int .u64 (n : Int)) rfl (by kernel_rfl) (by kernel_rfl) (by kernel_rfl) (fun _ _ _ h => h) (Or.inl ⟨by rfl, fun _ => rfl⟩) ?_
  simp only [Act.put, List.setIfInBounds_toArray, List.set_cons_succ, List.set_cons_zero]
  refine wpAny_take (i := 8) (oi := ⟨some 29, .move (.tmp 3), _, _, _, none⟩) (v := .string ⟨T.toArray⟩) rfl (by kernel_rfl) (by kernel_rfl) (by kernel_rfl) (fun _ _ _ h => h) (Or.inl ⟨by rfl, fun _ => rfl⟩) ?_
  simp only [Act.put, List.setIfInBounds_toArray, List.set_cons_succ, List.set_cons_zero]
  have r0 := (HR.out 0).trans rfl
  have r1 := (HR.out 1).trans rfl
  have r2 := (HR.out 2).trans rfl
  have r3 := (HR.out 3).trans rfl
  have rv := (lit_cell HV.out 0).trans rfl
  refine wpAny_ready (rs := [1, 5]) (by kernel_rfl) (by simp) (AllReady.cons (o := ⟨some 22, .load 70 (.tmp 9), _, _, _, none⟩) rfl (fun K hK => ?_) (AllReady.cons (o := ⟨some 26, .load 48 (.tmp 25), _, _, _, none⟩) rfl (fun K hK => ?_) AllReady.nil))
  · go_simp
    refine hK _ _ ?_
    clear hK K
    try simp only [Act.put, List.setIfInBounds_toArray, List.set_cons_succ, List.set_cons_zero]
    refine wpAny_ready (rs := [5]) (by kernel_rfl) (by simp) (AllReady.cons (o := ⟨some 26, .load 48 (.tmp 25), _, _, _, none⟩) rfl (fun K hK => ?_) AllReady.nil)
    go_simp
    refine hK _ _ ?_
    clear hK K
    try simp only [Act.put, List.setIfInBounds_toArray, List.set_cons_succ, List.set_cons_zero]
    refine wpAny_ready (rs := [7]) (by kernel_rfl) (by simp) (AllReady.cons (o := ⟨some 28, .call ⟨.value (.func 39), #[.tmp 22, .tmp 26, .tmp 27], #[70, 48, 27]⟩, _, _, _, none⟩) rfl (fun K hK => ?_) AllReady.nil)
    have HK := Lib.hid hK
    clear hK
    go_simp
    refine HH.out.mono ?_
    rintro e w3 ⟨v3, rfl, hown3, hb3⟩
    refine HK.out _ _ ?_
    clear HK K
    try simp only [Act.put, List.setIfInBounds_toArray, List.set_cons_succ, List.set_cons_zero]
    have hrl := HPL.out
    have hsz3 := hb3.size
    refine wpAny_ready (rs := [9]) (by kernel_rfl) (by simp) (AllReady.cons (o := ⟨some 30, .call ⟨.builtin .append, #[.tmp 28, .tmp 29], #[48, 9]⟩, _, _, _, none⟩) rfl (fun K hK => ?_) AllReady.nil)
    refine step_append_str rfl (.tmp 28) (.tmp 29) rfl (b + 1) v3 (L ++ P) T rfl rfl hown3 (by rw [List.length_append]; omega) (by omega) ?_
    intro v4 w4 hown4 hb4
    refine hK _ _ ?_
    clear hK K
    try simp only [Act.put, List.setIfInBounds_toArray, List.set_cons_succ, List.set_cons_zero]
    refine wpAny_take (i := 10) (oi := ⟨some 31, .nilCheck (.tmp 21), _, _, _, none⟩) (v := .pointer (some ⟨b, 0, none⟩)) rfl (by kernel_rfl) (by kernel_rfl) (by kernel_rfl) (fun _ _ _ h => h) (Or.inl ⟨by rfl, fun _ => rfl⟩) ?_
    simp only [Act.put, List.setIfInBounds_toArray, List.set_cons_succ, List.set_cons_zero]
    refine wpAny_take (i := 11) (oi := ⟨some 32, .fieldAddr 52 (.tmp 31) 0, _, _, _, none⟩) (v := .pointer (some ⟨b, 0, none⟩)) rfl (by kernel_rfl) (by kernel_rfl) (by kernel_rfl) (fun _ _ _ h => h) (Or.inl ⟨by rfl, fun _ => by kernel_rfl⟩) ?_
    simp only [Act.put, List.setIfInBounds_toArray, List.set_cons_succ, List.set_cons_zero]
    obtain ⟨ao, ln, cp, rfl⟩ := slice_of_own hown4
    have hv4 := (hb4.block b (by omega)).trans ((hb3.block b (by omega)).trans HV.out)
    have rv4 := (lit_cell hv4 0).trans rfl
    have rf4 := lit_free hv4 0
    refine wpAny_ready (rs := [12]) (by kernel_rfl) (by simp) (AllReady.cons (o := ⟨none, .store 48 (.tmp 32) (.tmp 30), _, _, _, none⟩) rfl (fun K hK => ?_) AllReady.nil)
    go_simp
    refine hK _ _ ?_
    clear hK K
    try simp only [Act.put, List.setIfInBounds_toArray, List.set_cons_succ, List.set_cons_zero]
    refine wpAny_done (by kernel_rfl) ?_ _
    have hb34 := hb3.trans hb4
    have hW4 : Wr B b (L ++ (P ++ T)) (w4.setCell ⟨b, 0, none⟩ (.slice ao ln cp)) := by
      rw [← List.append_assoc]
      exact Wr.stored HP.out HBb.out (HG2.out.below (by omega) hb34) hv4 hown4
    have hB4 : Below B w (w4.setCell ⟨b, 0, none⟩ (.slice ao ln cp)) := ((HB2.out.mono HSZ.out).trans (hb34.mono (by have := HBb.out; omega))).setCell HBb.out _
    clear hv4 rv4 rf4 hown4 hown3
    generalize (w4.setCell ⟨b, 0, none⟩ (.slice ao ln cp)) = w5 at *
    go_wp2
    go_ret
    exact ⟨rfl, hW4, hB4⟩
  · go_simp
    refine hK _ _ ?_
    clear hK K
    try simp only [Act.put, List.setIfInBounds_toArray, List.set_cons_succ, List.set_cons_zero]
    refine wpAny_ready (rs := [1]) (by kernel_rfl) (by simp) (AllReady.cons (o := ⟨some 22, .load 70 (.tmp 9), _, _, _, none⟩) rfl (fun K hK => ?_) AllReady.nil)
    go_simp
    refine hK _ _ ?_
    clear hK K
    try simp only [Act.put, List.setIfInBounds_toArray, List.set_cons_succ, List.set_cons_zero]
    refine wpAny_ready (rs := [7]) (by kernel_rfl) (by simp) (AllReady.cons (o := ⟨some 28, .call ⟨.value (.func 39), #[.tmp 22, .tmp 26, .tmp 27], #[70, 48, 27]⟩, _, _, _, none⟩) rfl (fun K hK => ?_) AllReady.nil)
    have HK := Lib.hid hK
    clear hK
    go_simp
    refine HH.out.mono ?_
    rintro e w3 ⟨v3, rfl, hown3, hb3⟩
    refine HK.out _ _ ?_
    clear HK K
    try simp only [Act.put, List.setIfInBounds_toArray, List.set_cons_succ, List.set_cons_zero]
    have hrl := HPL.out
    have hsz3 := hb3.size
    refine wpAny_ready (rs := [9]) (by kernel_rfl) (by simp) (AllReady.cons (o := ⟨some 30, .call ⟨.builtin .append, #[.tmp 28, .tmp 29], #[48, 9]⟩, _, _, _, none⟩) rfl (fun K hK => ?_) AllReady.nil)
    refine step_append_str rfl (.tmp 28) (.tmp 29) rfl (b + 1) v3 (L ++ P) T rfl rfl hown3 (by rw [List.length_append]; omega) (by omega) ?_
    intro v4 w4 hown4 hb4
    refine hK _ _ ?_
    clear hK K
    try simp only [Act.put, List.setIfInBounds_toArray, List.set_cons_succ, List.set_cons_zero]
    refine wpAny_take (i := 10) (oi := ⟨some 31, .nilCheck (.tmp 21), _, _, _, none⟩) (v := .pointer (some ⟨b, 0, none⟩)) rfl (by kernel_rfl) (by kernel_rfl) (by kernel_rfl) (fun _ _ _ h => h) (Or.inl ⟨by rfl, fun _ => rfl⟩) ?_
    simp only [Act.put, List.setIfInBounds_toArray, List.set_cons_succ, List.set_cons_zero]
    refine wpAny_take (i := 11) (oi := ⟨some 32, .fieldAddr 52 (.tmp 31) 0, _, _, _, none⟩) (v := .pointer (some ⟨b, 0, none⟩)) rfl (by kernel_rfl) (by kernel_rfl) (by kernel_rfl) (fun _ _ _ h => h) (Or.inl ⟨by rfl, fun _ => by kernel_rfl⟩) ?_
    simp only [Act.put, List.setIfInBounds_toArray, List.set_cons_succ, List.set_cons_zero]
    obtain ⟨ao, ln, cp, rfl⟩ := slice_of_own hown4
    have hv4 := (hb4.block b (by omega)).trans ((hb3.block b (by omega)).trans HV.out)
    have rv4 := (lit_cell hv4 0).trans rfl
    have rf4 := lit_free hv4 0
    refine wpAny_ready (rs := [12]) (by kernel_rfl) (by simp) (AllReady.cons (o := ⟨none, .store 48 (.tmp 32) (.tmp 30), _, _, _, none⟩) rfl (fun K hK => ?_) AllReady.nil)
    go_simp
    refine hK _ _ ?_
    clear hK K
    try simp only [Act.put, List.setIfInBounds_toArray, List.set_cons_succ, List.set_cons_zero]
    refine wpAny_done (by kernel_rfl) ?_ _
    have hb34 := hb3.trans hb4
    have hW4 : Wr B b (L ++ (P ++ T)) (w4.setCell ⟨b, 0, none⟩ (.slice ao ln cp)) := by
      rw [← List.append_assoc]
      exact Wr.stored HP.out HBb.out (HG2.out.below (by omega) hb34) hv4 hown4
    have hB4 : Below B w (w4.setCell ⟨b, 0, none⟩ (.slice ao ln cp)) := ((HB2.out.mono HSZ.out).trans (hb34.mono (by have := HBb.out; omega))).setCell HBb.out _
    clear hv4 rv4 rf4 hown4 hown3
    generalize (w4.setCell ⟨b, 0, none⟩ (.slice ao ln cp)) = w5 at *
    go_wp2
    go_ret
    exact ⟨rfl, hW4, hB4⟩
end Go.Proofs.YtgdlfbphfogphaaDoor
