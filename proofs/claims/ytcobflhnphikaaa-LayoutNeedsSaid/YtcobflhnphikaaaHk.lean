/- What is needed of a set, and its parents. -/
import Derived.Test.YtcobflhnphikaaaHj
import Derived.LoopTactic
import Derived.LoopN
import Derived.Laws.MakeOwn
import Derived.Maps.AppendAt
namespace Go.Proofs.Ytcobflhnphikaaa
open Go.RowKit Go.Sort

theorem infoU : (Try.prog.info? 22).map (fun i => (i.zero, i.size, i.bytes)) = some (some (.int .u64 0), 1, 8) := by kernel_rfl
/-- append of one number -/
theorem append_num {ops : Array Oper} {rest : List Oper} {o : Oper} {a : Act} {Q : Exit → Act → World → Prop} {wr : World} {base : Nat} {X : List Nat} {v : Value} {c : Nat} (hgd : o.guard = none) (s x : Operand)
    (ho : o.op = .call { callee := .builtin .append, args := #[s, x], argTypes := #[28, 28] })
    (hs : a.eval s = v) (hx : a.eval x = .slice (some ⟨wr.heap.size, 0, none⟩) 1 1) (hown : wr.ownsRow base 22 1 v X.length (X.map encU)) (hn : X.length ≤ 100000) (h0 : base ≤ wr.heap.size)
    (h : ∀ v' w', w'.ownsRow base 22 1 v' (X ++ [c]).length ((X ++ [c]).map encU) → wr.grownBy w' v.ownBlock → wpList Try.prog ops Q rest (a.put o.dst v') w') :
    wpList Try.prog ops Q (o :: rest) a (wr.alloc (.cells #[.int .u64 (c : Int)] 22)) := by
  obtain ⟨i0, hi, hz0, hz1, hz2⟩ := info_parts infoU
  refine wpList_append_own _ hgd s x 28 ho base 22 i0 (.int .u64 0) 1 8 Try.underlying28 hi hz0 hz1 hz2 rfl (by decide) v X.length _ hs (hown.alloc _) ⟨wr.heap.size, 0, none⟩ 1 1 [.int .u64 (c : Int)] hx rfl ?_ ?_ (by unfold maxLen; omega) (by omega) (by rw [World.size_alloc]; omega) ?_
  · exact cell_one_new _ _ _
  · intro u hu; simp at hu; subst hu; rfl
  · intro v' w' hown' hg _
    refine h v' w' (by simpa [encU] using hown') ?_
    exact ((World.grownBy_alloc wr _ none).but v.ownBlock).andThen hg fun j e => .inr e

theorem ranges_row {P : Program} {ku b r n base m : Nat} {K V : List Nat} {wr : World} {e : TypeId} {v : Value} {xs : List Value} (h : RangeAt P ku b r n K V wr) (ho : wr.ownsRow base e 1 v m xs) : some b ≠ v.ownBlock ∧ some r ≠ v.ownBlock := by
  obtain ⟨D, left, cnt, ⟨es, clock, since, seen, c0, hb, _, _, _, hr, _⟩, _⟩ := h
  rcases ho.2 with ⟨rfl, _⟩ | ⟨g, cap, cur, rfl, _, hg, _⟩
  · exact ⟨by simp [Value.ownBlock], by simp [Value.ownBlock]⟩
  · refine ⟨fun e => ?_, fun e => ?_⟩ <;> cases e
    · rw [hb] at hg; cases hg
    · rw [hr] at hg; cases hg
theorem row_low {base m B : Nat} {wr : World} {e : TypeId} {v : Value} {xs : List Value} (ho : wr.ownsRow base e 1 v m xs) (hB : B ≤ base) : ∀ j, v.ownBlock = some j → B ≤ j := by
  intro j hj
  rcases ho.2 with ⟨rfl, _⟩ | ⟨g, cap, cur, rfl, h, _⟩
  · cases hj
  · cases hj
    exact Nat.le_trans hB h
/-- the siblings of those of V that are not in K -/
def lacks (K V : List Nat) : List Nat := (V.filter fun k => decide (sib k ∉ K)).map sib
theorem lacks_snoc (K V : List Nat) (x : Nat) : lacks K (V ++ [x]) = if sib x ∈ K then lacks K V else lacks K V ++ [sib x] := by
  unfold lacks
  by_cases h : sib x ∈ K <;> simp [List.filter_append, h]
theorem lacks_mem (K V : List Nat) (h : ∀ x, x ∈ K ↔ x ∈ V) (y : Nat) : y ∈ lacks K V ↔ sib y ∈ K ∧ y ∉ K := by
  simp only [lacks, List.mem_map, List.mem_filter, decide_eq_true_eq]
  constructor
  · rintro ⟨k, ⟨hk, hn⟩, rfl⟩
    exact ⟨by rw [sib_sib]; exact (h k).2 hk, hn⟩
  · rintro ⟨h1, h2⟩
    exact ⟨sib y, ⟨(h _).1 h1, by rwa [sib_sib]⟩, sib_sib y⟩
theorem lacks_nodup (K V : List Nat) (h : V.Nodup) : (lacks K V).Nodup := by
  unfold lacks
  rw [List.nodup_iff_pairwise_ne, List.pairwise_map]
  exact (h.filter _).imp fun hne e => hne (sib_inj e)
theorem lacks_len (K V : List Nat) : (lacks K V).length ≤ V.length := by
  unfold lacks
  rw [List.length_map]
  exact List.length_filter_le _ _
theorem RangeAt.short {P : Program} {ku b r n : Nat} {K V : List Nat} {w : World} (h : RangeAt P ku b r n K V w) : V.length ≤ n ∧ V.Nodup := by
  obtain ⟨D, left, cnt, _, _, _, h4, _, _, h5⟩ := h
  exact ⟨by omega, h4⟩
theorem left_kept {w w' : World} {b r : Nat} (h1 : w'.heap[b]? = w.heap[b]?) (h2 : w'.heap[r]? = w.heap[r]?) : w'.rangeLeft b r = w.rangeLeft b r := by simp only [World.rangeLeft, h1, h2]
theorem row_base {base m B : Nat} {wr : World} {e : TypeId} {v : Value} {xs : List Value} (ho : wr.ownsRow base e 1 v m xs) (hB : B ≤ base) : wr.ownsRow B e 1 v m xs := by
  refine ⟨ho.1, ?_⟩
  rcases ho.2 with h | ⟨g, cap, cur, h0, h1, h2⟩
  · exact .inl h
  · exact .inr ⟨g, cap, cur, h0, Nat.le_trans hB h1, h2⟩
set_option maxRecDepth 100000 in
set_option maxHeartbeats 2000000 in
theorem needed_any (b n : Nat) (K : List Nat) (w : World) (hs : SetU b n K w) (hn : n ≤ 12) :
    Calls Try.prog 29 #[.map (some b)] w fun e w' => ∃ v N, e = .returned v ∧ Need K N ∧ N.length ≤ n ∧ w'.ownsRow w.heap.size 22 1 v N.length (N.map encU) ∧ Below w.heap.size w w' := by
  have HS := Lib.hid hs
  obtain ⟨B, hB⟩ : ∃ B, B = w.heap.size := ⟨_, rfl⟩
  have hbB : b < B := by have := hs.lt; omega
  clear hs
  go_enter Try.func29, Try.ntmps29
  go_wp2_with (at_range; refine wpList_range_set _ rfl _ 48 rfl 58 keyU Try.underlying48 b n K rfl HS.out ?_; intro w0 hrg0 hg0 hs0)
  rw [← hB] at hrg0 hs0 ⊢
  have HR0 := Lib.hid hrg0
  have HG0 := Lib.hid ((Below.refl B w).grown hg0 (by omega) (fun k e => by cases e))
  have hz0 : B + 1 ≤ w0.heap.size := by omega
  have HB := Lib.hid hB
  clear hrg0 hg0 hs0 hB
  go_frame
  go_loopw [3] (fun v wr => ∃ V : List Nat, Hid (RangeU b B n K V wr) ∧ Hid (wr.ownsRow (B + 1) 22 1 v (lacks K V).length ((lacks K V).map encU)) ∧ Hid (Below B w wr) ∧ Hid (B + 1 ≤ wr.heap.size)) (fun _ wr => wr.rangeLeft b B)
  case atStart => exact ⟨[], HR0, Lib.hid (World.ownsRow_nil _ _ _ _), HG0, Lib.hid hz0⟩
  case round =>
    obtain ⟨V, HR, HV, HL, HZ⟩ := hrel
    have HSH := Lib.hid HR.out.short
    go_wp2_with (at_next; refine wpList_next_set _ rfl _ rfl keyU Try.underlying22 b B n K V rfl HR.out ?_ ?_)
    · intro hdone
      have HD := Lib.hid hdone
      have HQ := Lib.hid (sort_row (B + 1) u3 _ (lacks K V) wr HV.out (by have := lacks_len K V; have := HSH.out.1; omega) (lacks_nodup K V HSH.out.2))
      clear hdone
      go_wp2_with (go_at_call 40; refine HQ.out.mono ?_; rintro e w2 ⟨rfl, hg2, N, hN1, hN2, hN3⟩; have HG2 := Lib.hid hg2; have HN := Lib.hid (And.intro hN1 (And.intro hN2 hN3)); clear hg2 hN1 hN2 hN3)
      go_ret
      have hlen : N.length = (lacks K V).length := by have := HN.out.2.2.1; simpa using this
      refine ⟨_, N, rfl, ⟨HN.out.1, fun x => (HN.out.2.1 x).trans (lacks_mem K V HD.out x)⟩, ?_, ?_, ?_⟩
      · have := lacks_len K V
        have := HSH.out.1
        omega
      · rw [hlen, ← HB.out]; exact row_base HN.out.2.2 (by omega)
      · rw [← HB.out]; exact HL.out.grown HG2.out (by have := HZ.out; omega) (fun k e => by have := row_low HV.out (Nat.le_refl _) k e; omega)
    · intro x w1 hx64 hxK hxV hrg1 hlt1 hgr1 hsz1 hen
      have HM := Lib.hid hlt1
      have HR1 := Lib.hid hrg1
      have HG1 := Lib.hid hgr1
      have HZ1 := Lib.hid (show B + 1 ≤ w1.heap.size by have := HZ.out; omega)
      have HV1 := Lib.hid (HV.out.kept hgr1 (.inr (ranges_row HR.out HV.out).2.symm))
      have HC := Lib.hid (sibling_any x hx64 w1)
      have hs64 := sib_lt64 hx64
      have HH := Lib.hid (has_any b n K (sib x) hs64 w1 hrg1.set)
      have HSN := Lib.hid (lacks_snoc K V x)
      have HL1 := Lib.hid (HL.out.grown hgr1 (by have := HZ.out; omega) (fun k e => by cases e; exact Nat.le_refl _))
      clear hlt1 hrg1 hgr1 hsz1 hxK hxV hx64 hs64
      generalize sib x = sx at *
      by_cases hm : sx ∈ K
      · rw [decide_eq_true hm] at HH
        rw [if_pos hm] at HSN
        clear hm
        go_wp2_with (first | (go_at_call 14; refine HC.out.mono ?_; rintro e w2 ⟨rfl, rfl⟩) | (go_at_call 39; refine HH.out.mono ?_; rintro e w2 ⟨rfl, hg2⟩; have HG2 := Lib.hid hg2; clear hg2))
        go_roundw
        case rel => exact ⟨V ++ [x], Lib.hid (HR1.out.kept HG2.out (by simp) (by simp)), Lib.hid (by rw [HSN.out]; exact HV1.out.kept HG2.out (Classical.em _)), Lib.hid (HL1.out.grown HG2.out (by have := HZ1.out; omega) (fun k e => by cases e)), Lib.hid (by have := HG2.out.size; have := HZ1.out; omega)⟩
        case measure =>
          rw [left_kept (HG2.out.block b (by have := HZ1.out; omega) (by simp)) (HG2.out.block B (by have := HZ1.out; omega) (by simp))]
          exact HM.out
      · rw [decide_eq_false hm] at HH
        rw [if_neg hm] at HSN
        clear hm
        go_wp2_with (first | (go_at_call 14; refine HC.out.mono ?_; rintro e w2 ⟨rfl, rfl⟩) | (go_at_call 39; refine HH.out.mono ?_; rintro e w2 ⟨rfl, hg2⟩; have HG2 := Lib.hid hg2; have HV2 := Lib.hid (HV1.out.kept hg2 (Classical.em _)); clear hg2) |
          (at_builtin; refine append_num rfl _ _ rfl rfl rfl HV2.out (by have := lacks_len K V; have := HSH.out.1; omega) (by have := HG2.out.size; have := HZ1.out; omega) ?_; intro v3 w3 ho3 hg3; have HO3 := Lib.hid ho3; have HG3 := Lib.hid hg3; clear ho3 hg3))
        go_roundw
        case rel =>
          have hrr := ranges_row (HR1.out.kept HG2.out (by simp) (by simp)) HV2.out
          exact ⟨V ++ [x], Lib.hid ((HR1.out.kept HG2.out (by simp) (by simp)).kept HG3.out hrr.1 hrr.2), Lib.hid (by rw [HSN.out]; exact HO3.out),
            Lib.hid ((HL1.out.grown HG2.out (by have := HZ1.out; omega) (fun k e => by cases e)).grown HG3.out (by have := HZ1.out; have := HG2.out.size; omega) (fun k e => by have := row_low HV2.out (Nat.le_refl _) k e; omega)), Lib.hid (by have := HG2.out.size; have := HG3.out.size; have := HZ1.out; omega)⟩
        case measure =>
          have hrr := ranges_row (HR1.out.kept HG2.out (by simp) (by simp)) HV2.out
          have hz := HZ1.out
          have h2 := HG2.out.size
          rw [left_kept (HG3.out.block b (by omega) hrr.1) (HG3.out.block B (by omega) hrr.2), left_kept (HG2.out.block b (by omega) (by simp)) (HG2.out.block B (by omega) (by simp))]
          exact HM.out
end Go.Proofs.Ytcobflhnphikaaa
