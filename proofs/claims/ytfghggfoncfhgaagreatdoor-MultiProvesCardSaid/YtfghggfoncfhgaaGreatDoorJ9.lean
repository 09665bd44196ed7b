/- What is needed of a set, and its parents. -/
import Derived.Test.YtfghggfoncfhgaaGreatDoorJ8
import Derived.LoopTactic
import Derived.LoopN
import Derived.Laws.MakeOwn
import Derived.Maps.AppendAt
namespace Go.Proofs.YtfghggfoncfhgaaGreatDoor
open Go.RowKit Go.Sort

theorem infoU : (Tryz.prog.info? 23).map (fun i => (i.zero, i.size, i.bytes)) = some (some (.int .u64 0), 1, 8) := by kernel_rfl
/-- append of one number -/
theorem append_num {ops : Array Oper} {rest : List Oper} {o : Oper} {a : Act} {Q : Exit → Act → World → Prop} {wr : World} {base : Nat} {X : List Nat} {v : Value} {c : Nat} (hgd : o.guard = none) (s x : Operand)
    (ho : o.op = .call { callee := .builtin .append, args := #[s, x], argTypes := #[24, 24] })
    (hs : a.eval s = v) (hx : a.eval x = .slice (some ⟨wr.heap.size, 0, none⟩) 1 1) (hown : wr.ownsRow base 23 1 v X.length (X.map encU)) (hn : X.length ≤ 100000) (h0 : base ≤ wr.heap.size)
    (h : ∀ v' w', w'.ownsRow base 23 1 v' (X ++ [c]).length ((X ++ [c]).map encU) → wr.grownBy w' v.ownBlock → wpList Tryz.prog ops Q rest (a.put o.dst v') w') :
    wpList Tryz.prog ops Q (o :: rest) a (wr.alloc (.cells #[.int .u64 (c : Int)] 23)) := by
  obtain ⟨i0, hi, hz0, hz1, hz2⟩ := info_parts infoU
  refine wpList_append_own _ hgd s x 24 ho base 23 i0 (.int .u64 0) 1 8 Tryz.underlying24 hi hz0 hz1 hz2 rfl (by decide) v X.length _ hs (hown.alloc _) ⟨wr.heap.size, 0, none⟩ 1 1 [.int .u64 (c : Int)] hx rfl ?_ ?_ (by unfold maxLen; omega) (by omega) (by rw [World.size_alloc]; omega) ?_
  · exact cell_one_new _ _ _
  · intro u hu; simp at hu; subst hu; rfl
  · intro v' w' hown' hg _
    refine h v' w' (by simpa [encU] using hown') ?_
    exact ((World.grownBy_alloc wr _ none).but v.ownBlock).andThen hg fun j e => .inr e

theorem ranges_row {P : Program} {ku b r n base m : Nat} {K V : List Nat} {wr : World} {e : TypeId} {v : Value} {xs : List Value} (h : RangeAt P ku b r n K V wr) (ho : wr.ownsRow base e 1 v m xs) : some b ≠ v.ownBlock ∧ some r ≠ v.ownBlock := by
  obtain ⟨D, left, cnt, ⟨es, clock, since, seen, c0, hb, _, _, _, hr, _⟩, _⟩ := h
  rcases ho.2 with ⟨rfl, _⟩ | ⟨g, cap, cur, rfl, _, hg, _⟩
  · exact ⟨by simp [Value.ownBlock], by simp [Value.ownBlock]⟩
  · refine ⟨fun e => ?_, fun e => ?_⟩ <;> cases e
    · rw [hb] at hg; cases hg
    · rw [hr] at hg; cases hg
theorem row_low {base m B : Nat} {wr : World} {e : TypeId} {v : Value} {xs : List Value} (ho : wr.ownsRow base e 1 v m xs) (hB : B ≤ base) : ∀ j, v.ownBlock = some j → B ≤ j := by
  intro j hj
  rcases ho.2 with ⟨rfl, _⟩ | ⟨g, cap, cur, rfl, h, _⟩
  · cases hj
  · cases hj
    exact Nat.le_trans hB h
/-- the siblings of those of V that are not in K -/
def lacks (K V : List Nat) : List Nat := (V.filter fun k => decide (sib k ∉ K)).map sib
theorem lacks_snoc (K V : List Nat) (x : Nat) : lacks K (V ++ [x]) = if sib x ∈ K then lacks K V else lacks K V ++ [sib x] := by
  unfold lacks
  by_cases h : sib x ∈ K <;> simp [List.filter_append, h]
theorem lacks_mem (K V : List Nat) (h : ∀ x, x ∈ K ↔ x ∈ V) (y : Nat) : y ∈ lacks K V ↔ sib y ∈ K ∧ y ∉ K := by
  simp only [lacks, List.mem_map, List.mem_filter, decide_eq_true_eq]
  constructor
  · rintro ⟨k, ⟨hk, hn⟩, rfl⟩
    exact ⟨by rw [sib_sib]; exact (h k).2 hk, hn⟩
  · rintro ⟨h1, h2⟩
    exact ⟨sib y, ⟨(h _).1 h1, by rwa [sib_sib]⟩, sib_sib y⟩
theorem lacks_nodup (K V : List Nat) (h : V.Nodup) : (lacks K V).Nodup := by
  unfold lacks
  rw [List.nodup_iff_pairwise_ne, List.pairwise_map]
  exact (h.filter _).imp fun hne e => hne (sib_inj e)
theorem lacks_len (K V : List Nat) : (lacks K V).length ≤ V.length := by
  unfold lacks
  rw [List.length_map]
  exact List.length_filter_le _ _
theorem RangeAt.short {P : Program} {ku b r n : Nat} {K V : List Nat} {w : World} (h : RangeAt P ku b r n K V w) : V.length ≤ n ∧ V.Nodup := by
  obtain ⟨D, left, cnt, _, _, _, h4, _, _, h5⟩ := h
  exact ⟨by omega, h4⟩
theorem left_kept {w w' : World} {b r : Nat} (h1 : w'.heap[b]? = w.heap[b]?) (h2 : w'.heap[r]? = w.heap[r]?) : w'.rangeLeft b r = w.rangeLeft b r := by simp only [World.rangeLeft, h1, h2]
theorem row_base {base m B : Nat} {wr : World} {e : TypeId} {v : Value} {xs : List Value} (ho : wr.ownsRow base e 1 v m xs) (hB : B ≤ base) : wr.ownsRow B e 1 v m xs := by
  refine ⟨ho.1, ?_⟩
  rcases ho.2 with h | ⟨g, cap, cur, h0, h1, h2⟩
  · exact .inl h
  · exact .inr ⟨g, cap, cur, h0, Nat.le_trans hB h1, h2⟩
set_option maxRecDepth 100000 in
set_option maxHeartbeats 2000000 in
theorem needed_any (b n : Nat) (K : List Nat) (w : World) (hs : SetU b n K w) (hn : n ≤ 12) :
    Calls Tryz.prog 58 #[.map (some b)] w fun e w' => ∃ v N, e = .returned v ∧ Need K N ∧ N.length ≤ n ∧ w'.ownsRow w.heap.size 23 1 v N.length (N.map encU) ∧ Below w.heap.size w w' := by
  have HS := Lib.hid hs
  obtain ⟨B, hB⟩ : ∃ B, B = w.heap.size := ⟨_, rfl⟩
  have hbB : b < B := by have := hs.lt; omega
  clear hs
  go_enter Tryz.func58, Tryz.ntmps58
  go_wp2_with (at_range; refine wpList_range_set _ rfl _ 93 rfl 129 keyU Tryz.underlying93 b n K rfl HS.out ?_; intro w0 hrg0 hg0 hs0)
  rw [← hB] at hrg0 hs0 ⊢
  have HR0 := Lib.hid hrg0
  have HG0 := Lib.hid ((Below.refl B w).grown hg0 (by omega) (fun k e => by cases e))
  have hz0 : B + 1 ≤ w0.heap.size := by omega
  have HB := Lib.hid hB
  clear hrg0 hg0 hs0 hB
  go_frame
  go_loopw [3] (fun v wr => ∃ V : List Nat, Hid (RangeU b B n K V wr) ∧ Hid (wr.ownsRow (B + 1) 23 1 v (lacks K V).length ((lacks K V).map encU)) ∧ Hid (Below B w wr) ∧ Hid (B + 1 ≤ wr.heap.size)) (fun _ wr => wr.rangeLeft b B)
  case atStart => exact ⟨[], HR0, Lib.hid (World.ownsRow_nil _ _ _ _), HG0, Lib.hid hz0⟩
  case round =>
    obtain ⟨V, HR, HV, HL, HZ⟩ := hrel
    have HSH := Lib.hid HR.out.short
    go_wp2_with (at_next; refine wpList_next_set _ rfl _ rfl keyU Tryz.underlying23 b B n K V rfl HR.out ?_ ?_)
    · intro hdone
      have HD := Lib.hid hdone
      have HQ := Lib.hid (sort_row (B + 1) u3 _ (lacks K V) wr HV.out (by have := lacks_len K V; have := HSH.out.1; omega) (lacks_nodup K V HSH.out.2))
      clear hdone
      go_wp2_with (go_at_call 83; refine HQ.out.mono ?_; rintro e w2 ⟨rfl, hg2, N, hN1, hN2, hN3⟩; have HG2 := Lib.hid hg2; have HN := Lib.hid (And.intro hN1 (And.intro hN2 hN3)); clear hg2 hN1 hN2 hN3)
      go_ret
      have hlen : N.length = (lacks K V).length := by have := HN.out.2.2.1; simpa using this
      refine ⟨_, N, rfl, ⟨HN.out.1, fun x => (HN.out.2.1 x).trans (lacks_mem K V HD.out x)⟩, ?_, ?_, ?_⟩
      · have := lacks_len K V
        have := HSH.out.1
        omega
      · rw [hlen, ← HB.out]; exact row_base HN.out.2.2 (by omega)
      · rw [← HB.out]; exact HL.out.grown HG2.out (by have := HZ.out; omega) (fun k e => by have := row_low HV.out (Nat.le_refl _) k e; omega)
    · intro x w1 hx64 hxK hxV hrg1 hlt1 hgr1 hsz1 hen
      have HM := Lib.hid hlt1
      have HR1 := Lib.hid hrg1
      have HG1 := Lib.hid hgr1
      have HZ1 := Lib.hid (show B + 1 ≤ w1.heap.size by have := HZ.out; omega)
      have HV1 := Lib.hid (HV.out.kept hgr1 (.inr (ranges_row HR.out HV.out).2.symm))
      have HC := Lib.hid (sibling_any x hx64 w1)
      have hs64 := sib_lt64 hx64
      have HH := Lib.hid (has_any b n K (sib x) hs64 w1 hrg1.set)
      have HSN := Lib.hid (lacks_snoc K V x)
      have HL1 := Lib.hid (HL.out.grown hgr1 (by have := HZ.out; omega) (fun k e => by cases e; exact Nat.le_refl _))
      clear hlt1 hrg1 hgr1 hsz1 hxK hxV hx64 hs64
      generalize sib x = sx at *
      by_cases hm : sx ∈ K
      · rw [decide_eq_true hm] at HH
        rw [if_pos hm] at HSN
        clear hm
        go_wp2_with (first | (go_at_call 81; refine HC.out.mono ?_; rintro e w2 ⟨rfl, rfl⟩) | (go_at_call 82; refine HH.out.mono ?_; rintro e w2 ⟨rfl, hg2⟩; have HG2 := Lib.hid hg2; clear hg2))
        go_roundw
        case rel => exact ⟨V ++ [x], Lib.hid (HR1.out.kept HG2.out (by simp) (by simp)), Lib.hid (by rw [HSN.out]; exact HV1.out.kept HG2.out (Classical.em _)), Lib.hid (HL1.out.grown HG2.out (by have := HZ1.out; omega) (fun k e => by cases e)), Lib.hid (by have := HG2.out.size; have := HZ1.out; omega)⟩
        case measure =>
          rw [left_kept (HG2.out.block b (by have := HZ1.out; omega) (by simp)) (HG2.out.block B (by have := HZ1.out; omega) (by simp))]
          exact HM.out
      · rw [decide_eq_false hm] at HH
        rw [if_neg hm] at HSN
        clear hm
        go_wp2_with (first | (go_at_call 81; refine HC.out.mono ?_; rintro e w2 ⟨rfl, rfl⟩) | (go_at_call 82; refine HH.out.mono ?_; rintro e w2 ⟨rfl, hg2⟩; have HG2 := Lib.hid hg2; have HV2 := Lib.hid (HV1.out.kept hg2 (Classical.em _)); clear hg2) |
          (at_builtin; refine append_num rfl _ _ rfl rfl rfl HV2.out (by have := lacks_len K V; have := HSH.out.1; omega) (by have := HG2.out.size; have := HZ1.out; omega) ?_; intro v3 w3 ho3 hg3; have HO3 := Lib.hid ho3; have HG3 := Lib.hid hg3; clear ho3 hg3))
        go_roundw
        case rel =>
          have hrr := ranges_row (HR1.out.kept HG2.out (by simp) (by simp)) HV2.out
          exact ⟨V ++ [x], Lib.hid ((HR1.out.kept HG2.out (by simp) (by simp)).kept HG3.out hrr.1 hrr.2), Lib.hid (by rw [HSN.out]; exact HO3.out),
            Lib.hid ((HL1.out.grown HG2.out (by have := HZ1.out; omega) (fun k e => by cases e)).grown HG3.out (by have := HZ1.out; have := HG2.out.size; omega) (fun k e => by have := row_low HV2.out (Nat.le_refl _) k e; omega)), Lib.hid (by have := HG2.out.size; have := HG3.out.size; have := HZ1.out; omega)⟩
        case measure =>
          have hrr := ranges_row (HR1.out.kept HG2.out (by simp) (by simp)) HV2.out
          have hz := HZ1.out
          have h2 := HG2.out.size
          rw [left_kept (HG3.out.block b (by omega) hrr.1) (HG3.out.block B (by omega) hrr.2), left_kept (HG2.out.block b (by omega) (by simp)) (HG2.out.block B (by omega) (by simp))]
          exact HM.out
end Go.Proofs.YtfghggfoncfhgaaGreatDoor
/- The parents of a set. -/
namespace Go.Proofs.YtfghggfoncfhgaaGreatDoor
open Go.RowKit Go.Sort

theorem nums_of_row {base : Nat} {v : Value} {L : List Nat} {w : World} (h : w.ownsRow base 23 1 v L.length (L.map encU)) : ∃ ao cap, v = .slice ao L.length cap ∧ Nums ao L w ∧ (∀ b off, ao = some ⟨b, off, none⟩ → base ≤ b ∧ some b = v.ownBlock) := by
  have h0 := h
  rcases h.2 with ⟨rfl, hl⟩ | ⟨g, cap, cur, rfl, h1, h2, h3, h4, h5, h6⟩
  · exact ⟨none, 0, by rw [hl], .inl (List.length_eq_zero_iff.1 hl), fun b off e => by cases e⟩
  · refine ⟨_, cap, rfl, .inr ⟨g, 0, rfl, (Array.getElem?_eq_some_iff.1 h2).1, fun i hi => ?_⟩, fun b off e => by cases e; exact ⟨h1, rfl⟩⟩
    have := h0.cellAt i (by simpa using hi)
    rw [Nat.zero_add]
    refine this.trans ?_
    simp [encU, hi]
set_option maxRecDepth 100000 in
set_option maxHeartbeats 2000000 in
theorem parents_any (b n : Nat) (K : List Nat) (w : World) (hs : SetU b n K w) (hn : n ≤ 100000) :
    Calls Tryz.prog 80 #[.map (some b)] w fun e w' => ∃ (v : Value) (L : List Nat), e = .returned v ∧ (∀ x, x ∈ L ↔ ∃ k ∈ K, k / 2 = x) ∧ (∀ x ∈ L, x < 18446744073709551616) ∧ L.length ≤ n ∧ w'.ownsRow w.heap.size 23 1 v L.length (L.map encU) ∧ Below w.heap.size w w' := by
  have HS := Lib.hid hs
  obtain ⟨B, hB⟩ : ∃ B, B = w.heap.size := ⟨_, rfl⟩
  have hbB : b < B := by have := hs.lt; omega
  obtain ⟨D, hown, hD⟩ := hs
  obtain ⟨i0, hi, hz0, hz1, hz2⟩ := info_parts infoU
  have hsz := hown.size_le
  obtain ⟨c, hc⟩ : ∃ c, Maps.size D = c := ⟨_, rfl⟩
  obtain ⟨w1, hrun, ho1, hg1⟩ := run_make_own (P := Tryz.prog) w B 24 23 i0 (.int .u64 0) 1 Tryz.underlying24 hi hz0 hz1 .i64 .i64 c (by rw [hz2]; omega) (by unfold maxLen; omega) (by omega)
  have HO1 := Lib.hid ho1
  have HG1 := Lib.hid hg1
  have HS1 := Lib.hid (HS.out.kept hg1 (by simp))
  clear hD hsz ho1 hg1 hi hz0 hz1 hz2
  go_enter Tryz.func80, Tryz.ntmps80
  go_wp2_with (first | (at_len; refine wpList_len_own _ rfl _ 93 rfl 23 129 Tryz.underlying93 unitElem b n D rfl hown ?_; rw [hc]) | (at_range; refine wpList_range_set _ rfl _ 93 rfl 129 keyU Tryz.underlying93 b n K rfl HS1.out ?_; intro w0 hrg0 hg0 hs0))
  obtain ⟨r, hr⟩ : ∃ r, r = w1.heap.size := ⟨_, rfl⟩
  rw [← hr] at hrg0 hs0 ⊢
  have hBr : B ≤ r := by have := HG1.out.size; omega
  have HR0 := Lib.hid hrg0
  have HG0 := Lib.hid (((Below.refl B w).grown HG1.out (by omega) (fun k e => by cases e)).grown hg0 (by omega) (fun k e => by cases e))
  have HV0 := Lib.hid (HO1.out.kept hg0 (Classical.em _))
  have hz0 : B ≤ w0.heap.size := by omega
  have HB := Lib.hid hB
  clear hrg0 hg0 hs0 hB hr hrun hown hc
  go_frame
  go_loopw [3] (fun v wr => ∃ V : List Nat, Hid (RangeU b r n K V wr) ∧ Hid (wr.ownsRow B 23 1 v (V.map (· / 2)).length ((V.map (· / 2)).map encU)) ∧ Hid (Below B w wr) ∧ Hid (B ≤ wr.heap.size)) (fun _ wr => wr.rangeLeft b r)
  case atStart => exact ⟨[], HR0, HV0, HG0, Lib.hid hz0⟩
  case round =>
    obtain ⟨V, HR, HV, HL, HZ⟩ := hrel
    have HSH := Lib.hid HR.out.short
    go_wp2_with (at_next; refine wpList_next_set _ rfl _ rfl keyU Tryz.underlying23 b r n K V rfl HR.out ?_ ?_)
    · intro hdone
      have HD := Lib.hid hdone
      clear hdone
      go_wp2
      go_ret
      refine ⟨_, V.map (· / 2), rfl, fun x => ?_, fun x hx => ?_, by rw [List.length_map]; exact HSH.out.1, by rw [← HB.out]; exact HV.out, by rw [← HB.out]; exact HL.out⟩
      · simp [HD.out]
      · obtain ⟨_, _, _, _, _, _, _, _, h6, _⟩ := HR.out
        obtain ⟨k, hk, rfl⟩ := List.mem_map.1 hx
        have := h6 k hk
        omega
    · intro x w2 hx64 hxK hxV hrg2 hlt2 hgr2 hsz2 hen
      have HM := Lib.hid hlt2
      have HR2 := Lib.hid hrg2
      have HZ2 := Lib.hid (show B ≤ w2.heap.size by have := HZ.out; omega)
      have HV2 := Lib.hid (HV.out.kept hgr2 (.inr (ranges_row HR.out HV.out).2.symm))
      have HC := Lib.hid (parent_any x hx64 w2)
      have HL2 := Lib.hid (HL.out.grown hgr2 (by have := HZ.out; omega) (fun k e => by cases e; exact hBr))
      have HE := Lib.hid (show V.map (· / 2) ++ [x / 2] = (V ++ [x]).map (· / 2) by simp)
      clear hlt2 hrg2 hgr2 hsz2 hxK hxV hx64
      generalize x / 2 = px at *
      go_wp2_with (first | (go_at_call 93; refine HC.out.mono ?_; rintro e w2 ⟨rfl, rfl⟩) |
          (at_builtin; refine append_num rfl _ _ rfl rfl rfl HV2.out (by have := HSH.out.1; rw [List.length_map]; omega) HZ2.out ?_; intro v3 w3 ho3 hg3; have HO3 := Lib.hid ho3; have HG3 := Lib.hid hg3; clear ho3 hg3))
      go_roundw
      case rel =>
        have hrr := ranges_row HR2.out HV2.out
        exact ⟨V ++ [x], Lib.hid (HR2.out.kept HG3.out hrr.1 hrr.2), Lib.hid (by rw [← HE.out]; exact HO3.out), Lib.hid (HL2.out.grown HG3.out HZ2.out (fun k e => row_low HV2.out (Nat.le_refl _) k e)), Lib.hid (by have := HG3.out.size; have := HZ2.out; omega)⟩
      case measure =>
        have hrr := ranges_row HR2.out HV2.out
        have hz := HR2.out
        have h1 : b < w2.heap.size := HR2.out.set.lt
        have h2 : r < w2.heap.size := by obtain ⟨_, _, _, h, _⟩ := HR2.out; exact h.lt
        rw [left_kept (HG3.out.block b h1 hrr.1) (HG3.out.block r h2 hrr.2)]
        exact HM.out
end Go.Proofs.YtfghggfoncfhgaaGreatDoor
/- The levels: an iterator that hands its set over, and makes the parents of it. -/
namespace Go.Proofs.YtfghggfoncfhgaaGreatDoor
open Go.RowKit Go.Sort
attribute [local go_sem] Oper.semAt_some

theorem clear_eq {b n : Nat} {K : List Nat} {w : World} (h : SetU b n K w) : ∃ w', (∀ ty, (Builtin.clear_ #[93] ty #[.map (some b)]).run Tryz.prog w = .ok (.tuple #[]) w') ∧ SetU b 0 [] w' ∧ w.grownBy w' (some b) ∧ w'.heap.size = w.heap.size := by
  obtain ⟨w', h1, h2⟩ := h.clear 93 Tryz.underlying93 0
  exact ⟨w', fun ty => h1, h2⟩
theorem set_next {m n k : Nat} {L L2 : List Nat} {w5 : World} (h : SetU m (0 + L2.length) ([] ++ L2) w5) (hl : L2.length ≤ n) (he : ∀ x, x ∈ L2 ↔ ∃ j ∈ upTo L k, j / 2 = x) : SetU m n (upTo L (k + 1)) w5 :=
  (h.mono (by omega)).of fun x => by rw [List.nil_append, he, mem_upTo_succ]
set_option maxRecDepth 100000 in
set_option maxHeartbeats 2000000 in
theorem levels_hands (b1 b2 : Nat) (ao : Option Addr) (cap : Nat) (L : List Nat) (d : Nat) (hL : ∀ x ∈ L, x < 18446744073709551616) (hn : L.length ≤ 100000) (hd : d ≤ 16) :
    HandsOwn Tryz.prog 78 #[.pointer (some ⟨b1, 0, none⟩), .pointer (some ⟨b2, 0, none⟩)] (fun m => #[.map (some m)]) [] (fun m k W => SetU m L.length (upTo L k) W) d
      (fun W => W.cell? ⟨b1, 0, none⟩ = some (.slice ao L.length cap) ∧ W.cell? ⟨b2, 0, none⟩ = some (.int .i64 (d : Int)) ∧ Nums ao L W) := by
  rintro l J W ⟨hc1, hc2, hN⟩ - hY h0
  obtain ⟨m, hm⟩ : ∃ m, m = W.heap.size := ⟨_, rfl⟩
  rw [← hm] at hY ⊢
  have hb1 : b1 < W.heap.size := World.block_lt_of_cell? W _ hc1
  have hb2 : b2 < W.heap.size := World.block_lt_of_cell? W _ hc2
  have HY := Lib.hid hY
  have HJ0 := Lib.hid h0
  have hS0 := SetAt.made Tryz.prog 23 W
  have hN0 : Nums ao L (W.alloc (.map #[] 0)) := hN.grown (World.grownBy_alloc W _ none) (fun _ _ _ => by simp)
  have hK0 : Kept (· ≠ m) W (W.alloc (.map #[] 0)) := (Kept.refl _ W).alloc _
  have hz0 : (W.alloc (.map #[] 0)).heap.size = m + 1 := by simp [hm]
  have d1 : (W.alloc (.map #[] 0)).cell? ⟨b1, 0, none⟩ = some (.slice ao L.length cap) := (World.cell?_alloc_lt _ _ _ hb1).trans hc1
  have d2 : (W.alloc (.map #[] 0)).cell? ⟨b2, 0, none⟩ = some (.int .i64 (d : Int)) := (World.cell?_alloc_lt _ _ _ hb2).trans hc2
  rw [← hm] at hS0
  have HG := Lib.hid (gather_any m 0 [] L ao cap _ hS0 hN0 hL (by omega))
  have HK0 := Lib.hid hK0
  have HZ0 := Lib.hid hz0
  have hmm := @run_makeMap Tryz.prog
  refine (callsIn_wide (n := 1)).1 ?_
  refine callsIn_of_wp Tryz.func78 rfl trivial ?_ rfl
  simp only [Tryz.ntmps78, List.size_toArray, List.length_cons, List.length_nil, Nat.reduceAdd, Nat.reduceSub, Array.replicate_succ, Array.replicate_zero, List.push_toArray, List.append_toArray, List.nil_append, List.cons_append]
  clear hY h0 hS0 hN0 hK0 hz0 hN hc1 hc2
  have HM := Lib.hid hm
  clear hm
  gi_wp2_with (refine ⟨trivial, ?_⟩; gi_at_call 79; rw [← HM.out]; refine (callsIn_wide.2 HG.out).mono ?_; rintro e w1 ⟨rfl, hs1, hg1⟩; have e2 := (World.cell?_of_block (a := ⟨b2, 0, none⟩) (hg1.block b2 (by rw [HZ0.out]; have := HM.out; omega) (fun e => by have := HM.out; cases e; omega))).trans d2; have HS1 := Lib.hid hs1; have HG1 := Lib.hid hg1; clear hs1 hg1)
  have hs1 := HS1.out
  rw [List.nil_append, Nat.zero_add] at hs1
  have HS := Lib.hid hs1
  have HK1 := Lib.hid (HK0.out.grown HG1.out (fun j e _ h => by cases e; exact h rfl))
  have HZ1 := Lib.hid (show m < w1.heap.size by have := HG1.out.size; have := HZ0.out; omega)
  clear hs1 HS1 HG1 HK0 HZ0 e2 d1 d2
  gi_loopw [11] (fun i wr => ∃ k : Nat, k ≤ d ∧ i = .int .i64 (k : Int) ∧ Hid (∃ W1, J k W1 ∧ Kept (· ≠ m) W1 wr) ∧ Hid (SetU m L.length (upTo L k) wr) ∧ Hid (m < wr.heap.size)) (fun i _ => d - (intOf i).toNat)
  case atStart => exact ⟨0, by omega, rfl, Lib.hid ⟨W, HJ0.out, HK1.out⟩, Lib.hid (by rw [upTo_zero]; exact HS.out), HZ1⟩
  case round =>
    obtain ⟨k, hk, rfl, HJ, HS, HZ⟩ := hrel
    by_cases hlt : k < d
    · have hl : (k : Int) < (d : Int) := by omega
      obtain ⟨W1, hj1, hk1⟩ := HJ.out
      have HY2 := HY.out k W1 wr hlt hj1 hk1 HZ.out HS.out
      clear hj1 hk1
      obtain ⟨fn, tmps, assign, body, hy, hR⟩ := HY2
      gi_wp2
      refine hR.mono ?_
      rintro e w2 ⟨rfl, hj2, hk2⟩
      clear hR hy
      have HJ2 := Lib.hid hj2
      have hs2 : SetU m L.length (upTo L k) w2 := HS.out.block (hk2.block m HZ.out (.inr rfl))
      have HP := Lib.hid (parents_any m L.length (upTo L k) w2 hs2 hn)
      have HS2 := Lib.hid hs2
      have HZ2 := Lib.hid hs2.lt
      clear hj2 hk2 hs2
      gi_wp2_with (first
        | (refine ⟨trivial, ?_⟩; gi_at_call 80; refine (callsIn_wide.2 HP.out).mono ?_; rintro e w3 ⟨v, L2, rfl, hm2, h64, hlen, hrow, hb3⟩;
           obtain ⟨w4, hclr, hs4, hg4, hz4⟩ := clear_eq (HS2.out.block (hb3.block m HZ2.out));
           obtain ⟨ao2, cap2, rfl, hn3, hfar⟩ := nums_of_row hrow;
           have HG2 := Lib.hid (gather_any m 0 [] L2 ao2 cap2 w4 hs4 (hn3.grown hg4 (fun b off e h => by have h1 := (hfar b off e).1; have h2 := HZ2.out; cases h; omega)) h64 (by omega));
           have HK4 := Lib.hid (((Kept.of_below hb3 (S := (fun x => x ≠ m ∧ x < w2.heap.size)) (fun j h => h.2)).grown hg4 (fun j e _ h => by cases e; exact h.1 rfl)).less (T := (· ≠ m)) (fun j hj h => ⟨h, hj⟩));
           have HM2 := Lib.hid hm2; have HLN := Lib.hid hlen; clear hm2 h64 hlen hrow hb3 hs4 hg4 hz4 hn3 hfar)
        | (refine ⟨trivial, ?_⟩; gi_at_call 79; refine (callsIn_wide.2 HG2.out).mono ?_; rintro e w5 ⟨rfl, hs5, hg5⟩; have HS5 := Lib.hid hs5; have HG5 := Lib.hid hg5; clear hs5 hg5))
      go_roundw
      case rel => exact ⟨k + 1, hlt, by go_num, Lib.hid ⟨w2, HJ2.out, HK4.out.grown HG5.out (fun j e _ h => by cases e; exact h rfl)⟩, Lib.hid (set_next HS5.out HLN.out HM2.out), Lib.hid HS5.out.lt⟩
      case measure => simp [intOf] <;> omega
    · have hl : ¬ (k : Int) < (d : Int) := by omega
      have hkd : k = d := by omega
      subst hkd
      gi_wp2
      go_end0
      exact ⟨⟨_, rfl⟩, HJ.out⟩
end Go.Proofs.YtfghggfoncfhgaaGreatDoor
/- Is there a leaf that does not stand? -/
namespace Go.Proofs.YtfghggfoncfhgaaGreatDoor
open Go.RowKit Go.Sort

theorem lacksf_any (k : Nat) (b3 : Nat) (d : Int) (w : World) (hc : w.cell? ⟨b3, 0, none⟩ = some (.int .i64 d)) : Calls Tryz.prog 54 #[.int .u64 (k : Int), .pointer (some ⟨b3, 0, none⟩)] w fun e w' => e = .returned (.bool (!standsB k d)) ∧ w = w' := by
  have HC := Lib.hid (stands_any k d w)
  generalize standsB k d = s at *
  go_enter Tryz.func54, Tryz.ntmps54
  go_wp2_with (go_at_call 55; refine HC.out.mono ?_; rintro e w' ⟨rfl, rfl⟩)
  go_ret
  exact ⟨rfl, rfl⟩
set_option maxRecDepth 100000 in
set_option maxHeartbeats 1000000 in
theorem index_any (ao : Option Addr) (cap : Nat) (L : List Nat) (b3 : Nat) (d : Int) (w : World) (hN : Nums ao L w) (hn : L.length ≤ 100000) (hc : w.cell? ⟨b3, 0, none⟩ = some (.int .i64 d)) :
    Calls Tryz.prog 77 #[.slice ao L.length cap, .func (.func 54) #[] #[.pointer (some ⟨b3, 0, none⟩)]] w fun e w' => ∃ r : Int, e = .returned (.int .i64 r) ∧ (0 ≤ r ↔ ∃ x ∈ L, standsB x d = false) ∧ w = w' := by
  have HN := Lib.hid hN
  have HC := Lib.hid hc
  have n1 : (L.length : Int) ≤ 100000 := by omega
  clear hN hc
  go_enter Tryz.func77, Tryz.ntmps77
  go_wp2
  go_loopw [8] (fun i wr => ∃ k : Nat, k ≤ L.length ∧ i = .int .i64 (k : Int) ∧ Hid (∀ x ∈ L.take k, standsB x d = true) ∧ w = wr) (fun i _ => (L.length : Int).toNat - (intOf i).toNat)
  case atStart => exact ⟨0, Nat.zero_le _, rfl, Lib.hid (by simp), rfl⟩
  case round =>
    obtain ⟨k, hk, rfl, HA, rfl⟩ := hrel
    by_cases hke : k = L.length
    · have hl : ¬ (k : Int) < (L.length : Int) := by omega
      have HE := Lib.hid (show ¬ ∃ x ∈ L, standsB x d = false by
        rintro ⟨x, hx, hs⟩
        have := HA.out x (by rw [hke, List.take_length]; exact hx)
        rw [hs] at this; cases this)
      clear hk hke
      go_wp2
      go_ret
      exact ⟨-1, rfl, ⟨fun h => absurd h (by decide), fun h => absurd h HE.out⟩, rfl⟩
    · have hkl : k < L.length := by omega
      have hl : (k : Int) < (L.length : Int) := by omega
      have i0 : (0 : Int) ≤ (k : Int) := by omega
      obtain ⟨x, hx⟩ : ∃ x, L[k] = x := ⟨_, rfl⟩
      have HX := Lib.hid hx
      rcases HN.out with h0 | ⟨bb, off, rfl, hbb, hcell⟩
      · subst h0; simp at hkl
      · have hcx : w.cell? ⟨bb, off + k, none⟩ = some (.int .u64 (x : Int)) := by rw [← hx]; exact hcell k hkl
        have HP := Lib.hid (lacksf_any x b3 d w HC.out)
        have HM := Lib.hid (show x ∈ L by rw [← hx]; exact List.getElem_mem hkl)
        clear hx hcell hke
        cases hs : standsB x d with
        | true =>
          rw [hs] at HP
          have HS := Lib.hid hs
          clear hs
          go_wp2_with (go_at_call 54; refine HP.out.mono ?_; rintro e w' ⟨rfl, rfl⟩)
          go_roundw
          case rel =>
            refine ⟨k + 1, hkl, by go_num, Lib.hid ?_, trivial⟩
            rw [← List.take_append_getElem hkl]
            intro y hy
            rcases List.mem_append.1 hy with h | h
            · exact HA.out y h
            · simp at h; subst h; rw [HX.out]; exact HS.out
          case measure => simp [intOf] <;> omega
        | false =>
          rw [hs] at HP
          have HS := Lib.hid hs
          clear hs
          go_wp2_with (go_at_call 54; refine HP.out.mono ?_; rintro e w' ⟨rfl, rfl⟩)
          go_ret
          exact ⟨_, rfl, ⟨fun _ => ⟨x, HM.out, HS.out⟩, fun _ => i0⟩, rfl⟩
theorem contains_any (ao : Option Addr) (cap : Nat) (L : List Nat) (b3 : Nat) (d : Int) (w : World) (hN : Nums ao L w) (hn : L.length ≤ 100000) (hc : w.cell? ⟨b3, 0, none⟩ = some (.int .i64 d)) :
    Calls Tryz.prog 56 #[.slice ao L.length cap, .func (.func 54) #[] #[.pointer (some ⟨b3, 0, none⟩)]] w fun e w' => e = .returned (.bool (L.any fun x => !standsB x d)) ∧ w = w' := by
  have HC := Lib.hid (index_any ao cap L b3 d w hN hn hc)
  have he : ∀ r : Int, (0 ≤ r ↔ ∃ x ∈ L, standsB x d = false) → decide (r ≥ 0) = L.any fun x => !standsB x d := by
    intro r hr
    rw [Bool.eq_iff_iff]
    simp [hr]
  have HE := Lib.hid he
  generalize (L.any fun x => !standsB x d) = y at *
  clear he hN hc
  go_enter Tryz.func56, Tryz.ntmps56
  go_wp2_with (go_at_call 77; refine HC.out.mono ?_; rintro e w1 ⟨r, rfl, hr, rfl⟩; have HR := Lib.hid hr; clear hr)
  go_ret
  exact ⟨by rw [← HE.out _ HR.out]; rfl, rfl⟩
theorem levels_any (ao : Option Addr) (n cap : Nat) (d : Int) (w : World) : Calls Tryz.prog 57 #[.slice ao n cap, .int .i64 d] w fun e w' => e = .returned (.func (.func 78) #[] #[.pointer (some ⟨w.heap.size, 0, none⟩), .pointer (some ⟨w.heap.size + 1, 0, none⟩)]) ∧ w' = (w.alloc (.cells #[.slice ao n cap] 24)).alloc (.cells #[.int .i64 d] 3) := by
  go_enter Tryz.func57, Tryz.ntmps57
  go_wp2
  go_ret
  exact ⟨by simp, rfl⟩
end Go.Proofs.YtfghggfoncfhgaaGreatDoor
