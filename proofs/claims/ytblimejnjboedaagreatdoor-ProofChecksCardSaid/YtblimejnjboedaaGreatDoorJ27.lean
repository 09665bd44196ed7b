/- The document's put: into a rising list, once. -/
import Derived.Test.YtblimejnjboedaaGreatDoorJ26
import Derived.Laws.AppendOwnNone
import Derived.Test.YtblimejnjboedaaGreatDoorJ1
namespace Go.Proofs.YtblimejnjboedaaGreatDoor
open Go.RowKit Go.Sort

/-- L' is L and k, rising -/
def Ins (L : List Nat) (k : Nat) (L' : List Nat) : Prop := L'.Pairwise (· < ·) ∧ (∀ x, x ∈ L' ↔ x = k ∨ x ∈ L) ∧ L'.length ≤ L.length + 1
theorem ins_mid {L : List Nat} {k a : Nat} (hL : L.Pairwise (· < ·)) (h1 : ∀ i (h : i < L.length), i < a → L[i] < k) (h2 : ∀ i (h : i < L.length), a ≤ i → k < L[i]) : Ins L k (L.take a ++ [k] ++ L.drop a) := by
  have t1 : ∀ x ∈ L.take a, x < k := by
    intro x hx
    obtain ⟨i, hi, rfl⟩ := List.mem_iff_getElem.1 hx
    have hi2 : i < a ∧ i < L.length := by have h := hi; rw [List.length_take] at h; omega
    rw [List.getElem_take]
    exact h1 i hi2.2 hi2.1
  have t2 : ∀ x ∈ L.drop a, k < x := by
    intro x hx
    obtain ⟨i, hi, rfl⟩ := List.mem_iff_getElem.1 hx
    rw [List.getElem_drop]
    have hi2 : i < L.length - a := by simpa using hi
    exact h2 (a + i) (by omega) (by omega)
  refine ⟨?_, fun x => ?_, by simp; omega⟩
  · rw [List.append_assoc, List.pairwise_append]
    refine ⟨hL.sublist (List.take_sublist _ _), ?_, fun x hx y hy => ?_⟩
    · rw [List.singleton_append, List.pairwise_cons]
      exact ⟨t2, hL.sublist (List.drop_sublist _ _)⟩
    · rcases List.mem_append.1 hy with h | h
      · simp at h; subst h; exact t1 x hx
      · have := t1 x hx; have := t2 y h; omega
  · simp only [List.mem_append, List.mem_singleton]
    have e : x ∈ L ↔ x ∈ L.take a ∨ x ∈ L.drop a := by
      conv => lhs; rw [← List.take_append_drop a L]
      exact List.mem_append
    rw [e]
    constructor
    · rintro ((h | h) | h)
      · exact .inr (.inl h)
      · exact .inl h
      · exact .inr (.inr h)
    · rintro (h | h | h)
      · exact .inl (.inr h)
      · exact .inl (.inl h)
      · exact .inr h
theorem ins_same {L : List Nat} {k : Nat} (hL : L.Pairwise (· < ·)) (h : k ∈ L) : Ins L k L := ⟨hL, fun x => ⟨.inr, fun h' => h'.elim (fun e => e ▸ h) id⟩, by omega⟩
set_option maxRecDepth 100000 in
set_option maxHeartbeats 2000000 in
theorem putNil_any (k : Nat) (w : World) : Calls Tryz.prog 38 #[.slice none 0 0, .int .u64 (k : Int)] w fun e w' => ∃ v' L', e = .returned v' ∧ w'.ownsRow w.heap.size 33 1 v' L'.length (L'.map encU) ∧ Ins [] k L' ∧ Below w.heap.size w w' := by
  obtain ⟨i0, hi, hz0, hz1, hz2⟩ := info_parts infoU
  have HI := Lib.hid hi
  have HO0 := Lib.hid (show w.ownsRow w.heap.size 33 1 (.slice none 0 0) ([] : List Nat).length (([] : List Nat).map encU) from World.ownsRow_nil w w.heap.size 33 1)
  clear hi hz0 hz1 hz2
  go_enter Tryz.func38, Tryz.ntmps38
  go_wp2
  refine wp_loop_rounds 1 ?_
  rw [rounds_succ]
  go_wp2_with (first
    | (at_builtin; (refine wpList_append_own_none rfl _ _ 22 rfl w.heap.size 33 i0 1 Tryz.underlying22 HI.out _ _ _ rfl HO0.out rfl ?_))
    | (at_builtin; (refine append_num rfl _ _ rfl rfl rfl HO0.out (by simp) (Nat.le_refl _) ?_); intro v3 w3 ho3 hg3; have HO3 := Lib.hid ho3; have HB3 := Lib.hid ((Below.refl w.heap.size w).grown hg3 (Nat.le_refl _) (fun k e => by cases e)); clear ho3 hg3)
    | (at_builtin; (refine wpList_append_own_none rfl _ _ 22 rfl w.heap.size 33 i0 1 Tryz.underlying22 HI.out _ _ _ rfl HO3.out rfl ?_)))
  go_ret
  exact ⟨_, [k], rfl, HO3.out, ins_mid (L := []) (k := k) (a := 0) List.Pairwise.nil (fun i h => by simp at h) (fun i h => by simp at h), HB3.out⟩
set_option maxRecDepth 100000 in
set_option maxHeartbeats 4000000 in
theorem putSome_any (k : Nat) (g cap : Nat) (L : List Nat) (w : World) (hcp : L.length ≤ cap) (hg : g < w.heap.size) (hc : ∀ i (h : i < L.length), w.cell? ⟨g, i, none⟩ = some (.int .u64 (L[i] : Int))) (hn : L.length ≤ 2000) (hL : L.Pairwise (· < ·)) :
    Calls Tryz.prog 38 #[.slice (some ⟨g, 0, none⟩) L.length cap, .int .u64 (k : Int)] w fun e w' => ∃ v' L', e = .returned v' ∧ ((v' = .slice (some ⟨g, 0, none⟩) L.length cap ∧ L' = L) ∨ w'.ownsRow w.heap.size 33 1 v' L'.length (L'.map encU)) ∧ Ins L k L' ∧ Below w.heap.size w w' := by
  obtain ⟨i0, hi, hz0, hz1, hz2⟩ := info_parts infoU
  have HI := Lib.hid hi
  have HO0 := Lib.hid (show w.ownsRow w.heap.size 33 1 (.slice none 0 0) ([] : List Nat).length (([] : List Nat).map encU) from World.ownsRow_nil w w.heap.size 33 1)
  have HC := Lib.hid hc
  have HL := Lib.hid hL
  have n1 : (L.length : Int) ≤ 2000 := by omega
  clear hi hz0 hz1 hz2 hc hL
  go_enter Tryz.func38, Tryz.ntmps38
  go_wp2
  go_loopw [5] (fun v wr => ∃ i : Nat, v = .int .i64 (i : Int) ∧ i ≤ L.length ∧ Hid (∀ t (h : t < L.length), t < i → L[t] < k) ∧ w = wr) (fun v _ => (L.length : Int).toNat - (intOf v).toNat)
  case atStart => exact ⟨0, rfl, Nat.zero_le _, Lib.hid (fun t h h2 => by omega), rfl⟩
  case round =>
    obtain ⟨i, rfl, hil, HT, rfl⟩ := hrel
    have i0' : (0 : Int) ≤ (i : Int) := by omega
    by_cases hie : i < L.length
    · have hl : decide (i < L.length) = true := by rw [decide_eq_true_iff]; exact hie
      obtain ⟨x, hx⟩ : ∃ x, x = L[i] := ⟨_, rfl⟩
      have fx : w.cell? ⟨g, i, none⟩ = some (.int .u64 (x : Int)) := by rw [hx]; exact HC.out i hie
      have hiI : (i : Int) < (L.length : Int) := by omega
      have HX := Lib.hid hx
      clear hx
      by_cases hlt : x < k
      · go_wp2
        go_roundw
        case rel => exact ⟨i + 1, by go_num, hie, Lib.hid (fun t h h2 => by
          by_cases c : t = i
          · subst c; rw [← HX.out]; exact hlt
          · exact HT.out t h (by omega)), trivial⟩
        case measure => simp [intOf] <;> omega
      · by_cases heq : x = k
        · have he : ((x : Int) == (k : Int)) = true := by rw [heq]; simp
          have HM := Lib.hid (show k ∈ L by rw [← heq, HX.out]; exact List.getElem_mem hie)
          clear heq
          go_wp2
          go_ret
          exact ⟨_, L, rfl, .inl ⟨rfl, rfl⟩, ins_same HL.out HM.out, Below.refl _ _⟩
        · have he : ((x : Int) == (k : Int)) = false := by rw [beq_eq_false_iff_ne]; omega
          have HG := Lib.hid (show ∀ t (h : t < L.length), i ≤ t → k < L[t] from fun t h h2 => by
            have hk : k < L[i] := by rw [← HX.out]; omega
            by_cases c : t = i
            · subst c; exact hk
            · have := List.pairwise_iff_getElem.1 HL.out i t hie h (by omega)
              omega)
          clear heq
          have hic : (i : Int) ≤ (cap : Int) := by omega
          have hne : ¬ cap = i := by omega
          have htl : (L.take i).length = i := by rw [List.length_take]; omega
          have hdl : (L.drop i).length = L.length - i := List.length_drop
          have HTK := Lib.hid (show ∀ t (h : t < (L.take i).length), w.cell? ⟨g, 0 + t, none⟩ = some (.int .u64 ((L.take i)[t] : Int)) from fun t h => by
            rw [List.getElem_take, Nat.zero_add]; exact HC.out t (by rw [htl] at h; omega))
          have HTL := Lib.hid htl
          have HDL := Lib.hid hdl
          clear htl hdl
          have HDR := Lib.hid (show ∀ t (h : t < (L.drop i).length), w.cell? ⟨g, i + t, none⟩ = some (.int .u64 ((L.drop i)[t] : Int)) from fun t h => by
            rw [List.getElem_drop]; exact HC.out (i + t) (by rw [HDL.out] at h; omega))
          have HIN := Lib.hid (show Ins L k ([] ++ L.take i ++ [k] ++ L.drop i) by rw [List.nil_append]; exact ins_mid HL.out HT.out HG.out)
          go_wp2_with (first
            | (at_builtin; (refine append_nums (X := []) (Y := L.take i) (g := g) (off := 0) (c := cap) rfl _ _ rfl rfl (by rw [HTL.out]; rfl) HTK.out HO0.out (by rw [HTL.out]; simp; omega) (Nat.le_refl _) ?_); intro v3 w3 ho3 hg3; have HO3 := Lib.hid ho3; have HB3 := Lib.hid ((Below.refl w.heap.size w).grown hg3 (Nat.le_refl _) (fun k e => by cases e)); clear ho3 hg3)
            | (at_builtin; (refine append_num (X := [] ++ L.take i) (c := k) rfl _ _ rfl rfl rfl HO3.out (by rw [List.nil_append, HTL.out]; omega) HB3.out.size ?_); intro v4 w4 ho4 hg4; have HO4 := Lib.hid ho4; have HB4 := Lib.hid (HB3.out.grown hg4 HB3.out.size (fun j e => row_low HO3.out (Nat.le_refl _) j e)); clear ho4 hg4)
            | (at_builtin; (refine append_nums (X := [] ++ L.take i ++ [k]) (Y := L.drop i) (g := g) (off := i) (c := cap - i) rfl _ _ rfl rfl (by rw [HDL.out]; rfl) (fun t h => (HB4.out.cell (p := ⟨g, i + t, none⟩) hg).trans (HDR.out t h)) HO4.out (by simp; omega) HB4.out.size ?_); intro v5 w5 ho5 hg5; have HO5 := Lib.hid ho5; have HB5 := Lib.hid (HB4.out.grown hg5 HB4.out.size (fun j e => row_low HO4.out (Nat.le_refl _) j e)); clear ho5 hg5))
          go_ret
          exact ⟨_, _, rfl, .inr HO5.out, HIN.out, HB5.out⟩
    · have hie' : i = L.length := by omega
      have hl : decide (i < L.length) = false := by rw [decide_eq_false_iff_not]; exact hie
      have HIN := Lib.hid (show Ins L k ([] ++ L.take i ++ [k] ++ L.drop i) by
        rw [List.nil_append]; exact ins_mid HL.out HT.out (fun t h h2 => by omega))
      have htl : (L.take i).length = i := by rw [List.length_take]; omega
      have hdl : (L.drop i).length = L.length - i := List.length_drop
      have HTK := Lib.hid (show ∀ t (h : t < (L.take i).length), w.cell? ⟨g, 0 + t, none⟩ = some (.int .u64 ((L.take i)[t] : Int)) from fun t h => by
        rw [List.getElem_take, Nat.zero_add]; exact HC.out t (by rw [htl] at h; omega))
      have HTL := Lib.hid htl
      have HDL := Lib.hid hdl
      have HIE := Lib.hid hie'
      have hic : (i : Int) ≤ (cap : Int) := by omega
      have hil2 : (i : Int) ≤ (L.length : Int) := by omega
      clear htl hdl hie'
      by_cases hci : cap = i
      · skip
        go_wp2_with (first
          | (at_builtin; (refine append_nums (X := []) (Y := L.take i) (g := g) (off := 0) (c := i) rfl _ _ rfl rfl (by rw [HTL.out]; rfl) HTK.out HO0.out (by rw [HTL.out]; simp; omega) (Nat.le_refl _) ?_); intro v3 w3 ho3 hg3; have HO3 := Lib.hid ho3; have HB3 := Lib.hid ((Below.refl w.heap.size w).grown hg3 (Nat.le_refl _) (fun k e => by cases e)); clear ho3 hg3)
          | (at_builtin; (refine append_num (X := [] ++ L.take i) (c := k) rfl _ _ rfl rfl rfl HO3.out (by rw [List.nil_append, HTL.out]; omega) HB3.out.size ?_); intro v4 w4 ho4 hg4; have HO4 := Lib.hid ho4; have HB4 := Lib.hid (HB3.out.grown hg4 HB3.out.size (fun j e => row_low HO3.out (Nat.le_refl _) j e)); clear ho4 hg4)
          | (at_builtin; (refine append_nums (X := [] ++ L.take i ++ [k]) (Y := L.drop i) (g := g) (off := 0) (c := 0) rfl _ _ rfl rfl (by rw [HDL.out]; first | rfl | (have := HIE.out; simp [this]; done)) (fun t h => absurd h (by rw [HDL.out]; have := HIE.out; omega)) HO4.out (by simp; omega) HB4.out.size ?_); intro v5 w5 ho5 hg5; have HO5 := Lib.hid ho5; have HB5 := Lib.hid (HB4.out.grown hg5 HB4.out.size (fun j e => row_low HO4.out (Nat.le_refl _) j e)); clear ho5 hg5))
        go_ret
        exact ⟨_, _, rfl, .inr HO5.out, HIN.out, HB5.out⟩
      · skip
        go_wp2_with (first
          | (at_builtin; (refine append_nums (X := []) (Y := L.take i) (g := g) (off := 0) (c := cap) rfl _ _ rfl rfl (by rw [HTL.out]; rfl) HTK.out HO0.out (by rw [HTL.out]; simp; omega) (Nat.le_refl _) ?_); intro v3 w3 ho3 hg3; have HO3 := Lib.hid ho3; have HB3 := Lib.hid ((Below.refl w.heap.size w).grown hg3 (Nat.le_refl _) (fun k e => by cases e)); clear ho3 hg3)
          | (at_builtin; (refine append_num (X := [] ++ L.take i) (c := k) rfl _ _ rfl rfl rfl HO3.out (by rw [List.nil_append, HTL.out]; omega) HB3.out.size ?_); intro v4 w4 ho4 hg4; have HO4 := Lib.hid ho4; have HB4 := Lib.hid (HB3.out.grown hg4 HB3.out.size (fun j e => row_low HO3.out (Nat.le_refl _) j e)); clear ho4 hg4)
          | (at_builtin; (refine append_nums (X := [] ++ L.take i ++ [k]) (Y := L.drop i) (g := g) (off := i) (c := cap - i) rfl _ _ rfl rfl (by rw [HDL.out]; rfl) (fun t h => absurd h (by rw [HDL.out]; have := HIE.out; omega)) HO4.out (by simp; omega) HB4.out.size ?_); intro v5 w5 ho5 hg5; have HO5 := Lib.hid ho5; have HB5 := Lib.hid (HB4.out.grown hg5 HB4.out.size (fun j e => row_low HO4.out (Nat.le_refl _) j e)); clear ho5 hg5))
        go_ret
        exact ⟨_, _, rfl, .inr HO5.out, HIN.out, HB5.out⟩
theorem kept_all {w w' : World} (h : Below w.heap.size w w') : Kept (fun _ => True) w w' := ⟨h.os, h.tape, h.output, h.size, fun j hj _ => h.block j hj⟩
theorem put_any (v : Value) (L : List Nat) (k B : Nat) (w : World) (hB : B ≤ w.heap.size) (ho : w.ownsRow B 33 1 v L.length (L.map encU)) (hn : L.length ≤ 2000) (hL : L.Pairwise (· < ·)) :
    Calls Tryz.prog 38 #[v, .int .u64 (k : Int)] w fun e w' => ∃ v' L', e = .returned v' ∧ w'.ownsRow B 33 1 v' L'.length (L'.map encU) ∧ Ins L k L' ∧ Below w.heap.size w w' := by
  rcases Ls.of_own ho with ⟨rfl, rfl⟩ | ⟨g, cap, rfl, h2, h3, h4⟩
  · refine (putNil_any k w).mono ?_
    rintro e w' ⟨v', L', rfl, h1, h2, h3⟩
    exact ⟨v', L', rfl, row_base h1 hB, h2, h3⟩
  · refine (putSome_any k g cap L w h2 h3 h4 hn hL).mono ?_
    rintro e w' ⟨v', L', rfl, h1, h2, h3⟩
    refine ⟨v', L', rfl, ?_, h2, h3⟩
    rcases h1 with ⟨rfl, rfl⟩ | h1
    · exact own_kept ho (kept_all h3) (fun _ _ => trivial)
    · exact row_base h1 hB
end Go.Proofs.YtblimejnjboedaaGreatDoor
/- What is needed of some leaves: the document's answer. -/
namespace Go.Proofs.YtblimejnjboedaaGreatDoor
open Go.RowKit Go.Sort

/-- v is the rows of the first i levels -/
def Outs (B : Nat) (L : List Nat) (v : Value) (i : Nat) (w : World) : Prop :=
  ∃ (vs : List Value) (Ms : List (List Nat)), w.ownsRow B 22 1 v i vs ∧ Ms.length = i ∧ ∀ (j : Nat) (x : Value) (N : List Nat), vs[j]? = some x → Ms[j]? = some N → w.ownsRow B 33 1 x N.length (N.map encU) ∧ Need (upTo L j) N ∧ N.length ≤ 1000
theorem Outs.next {B : Nat} {L : List Nat} {v : Value} {i : Nat} {w w' : World} (h : Outs B L v i w) (hb : Below w.heap.size w w') : Outs B L v i w' := by
  obtain ⟨vs, Ms, h1, h2, h3⟩ := h
  exact ⟨vs, Ms, own_kept h1 (kept_all hb) (fun _ _ => trivial), h2, fun j x N hx hN => ⟨own_kept (h3 j x N hx hN).1 (kept_all hb) (fun _ _ => trivial), (h3 j x N hx hN).2⟩⟩
theorem Outs.size {B : Nat} {L : List Nat} {v : Value} {i : Nat} {w : World} (h : Outs B L v i w) : ∀ j, v.ownBlock = some j → B ≤ j := by
  obtain ⟨vs, Ms, h1, _⟩ := h
  exact row_low h1 (Nat.le_refl _)
/-- append of one row -/
theorem append_row {ops : Array Oper} {rest : List Oper} {o : Oper} {a : Act} {Q : Exit → Act → World → Prop} {wr : World} {base k : Nat} {L N : List Nat} {v x : Value} (hgd : o.guard = none) (s y : Operand)
    (ho : o.op = .call { callee := .builtin .append, args := #[s, y], argTypes := #[53, 53] })
    (hs : a.eval s = v) (hy : a.eval y = .slice (some ⟨wr.heap.size, 0, none⟩) 1 1) (hown : Outs base L v k wr) (hx : wr.ownsRow base 33 1 x N.length (N.map encU)) (hN : Need (upTo L k) N) (hN49 : N.length ≤ 1000) (hk : k ≤ 2000) (h0 : base ≤ wr.heap.size)
    (h : ∀ v' w', Outs base L v' (k + 1) w' → wr.grownBy w' v.ownBlock → wpList Tryz.prog ops Q rest (a.put o.dst v') w') :
    wpList Tryz.prog ops Q (o :: rest) a (wr.alloc (.cells #[x] 22)) := by
  obtain ⟨i0, hi, hz0, hz1, hz2⟩ := info_parts infoW
  obtain ⟨vs, Ms, h1, h2, h3⟩ := hown
  refine wpList_append_own _ hgd s y 53 ho base 22 i0 (.slice none 0 0) 1 24 Tryz.underlying53 hi hz0 hz1 hz2 rfl (by decide) v k vs hs (h1.alloc _) ⟨wr.heap.size, 0, none⟩ 1 1 [x] hy rfl ?_ ?_ (by unfold maxLen; omega) (by omega) (by rw [World.size_alloc]; omega) ?_
  · exact cell_one_new _ _ _
  · intro u hu; simp at hu; subst hu; exact own_one hx
  · intro v' w' hown' hg _
    refine h v' w' ⟨vs ++ [x], Ms ++ [N], hown', by simp [h2], ?_⟩ (((World.grownBy_alloc wr _ none).but v.ownBlock).andThen hg fun j e => .inr e)
    have hvl : vs.length = k := by simpa using h1.1
    have keep : ∀ (z : Value) (M : List Nat), wr.ownsRow base 33 1 z M.length (M.map encU) → w'.ownsRow base 33 1 z M.length (M.map encU) := fun z M hz =>
      (hz.alloc (.cells #[x] 22)).kept hg (own_apart (w := wr.alloc (.cells #[x] 22)) (h1.alloc _) (hz.alloc _) (by decide))
    intro j z M hz hM
    by_cases hjk : j < k
    · rw [List.getElem?_append_left (by omega)] at hz hM
      exact ⟨keep _ _ (h3 j z M hz hM).1, (h3 j z M hz hM).2⟩
    · have hj : j = k := by
        have h := (List.getElem?_eq_some_iff.1 hz).1
        simp at h; omega
      subst hj
      rw [← hvl, List.getElem?_concat_length] at hz
      rw [← h2, List.getElem?_concat_length] at hM
      cases hz
      cases hM
      exact ⟨keep _ _ hx, hN, hN49⟩
/-- rising, and just those of f of the first i of K -/
def Ris (v : Value) (B : Nat) (S : List Nat) (m : Nat) (w : World) : Prop :=
  ∃ N : List Nat, w.ownsRow B 33 1 v N.length (N.map encU) ∧ N.Pairwise (· < ·) ∧ (∀ x, x ∈ N ↔ x ∈ S) ∧ N.length ≤ m
theorem Ris.nil (B : Nat) (w : World) : Ris (.slice none 0 0) B [] 0 w := ⟨[], World.ownsRow_nil _ _ _ _, List.Pairwise.nil, fun _ => Iff.rfl, Nat.le_refl _⟩
theorem Ris.next {v : Value} {B m : Nat} {S : List Nat} {w w' : World} (h : Ris v B S m w) (hb : Below w.heap.size w w') : Ris v B S m w' := by
  obtain ⟨N, h1, h2⟩ := h
  exact ⟨N, own_kept h1 (kept_all hb) (fun _ _ => trivial), h2⟩
theorem Ris.of {v : Value} {B m m' : Nat} {S S' : List Nat} {w : World} (h : Ris v B S m w) (e : ∀ x, x ∈ S ↔ x ∈ S') (hm : m ≤ m') : Ris v B S' m' w := by
  obtain ⟨N, h1, h2, h3, h4⟩ := h
  exact ⟨N, h1, h2, fun x => (h3 x).trans (e x), by omega⟩
theorem Ris.grown5 {x : Value} {B m k : Nat} {S L : List Nat} {v : Value} {w w' : World} (h : Ris x B S m w) (hg : w.grownBy w' v.ownBlock) (ho : Outs B L v k w) : Ris x B S m w' := by
  obtain ⟨N, h1, h2⟩ := h
  obtain ⟨vs, Ms, g1, _⟩ := ho
  exact ⟨N, h1.kept hg (own_apart g1 h1 (by decide)), h2⟩
theorem putR_any (v : Value) (B m k : Nat) (S : List Nat) (w : World) (hB : B ≤ w.heap.size) (h : Ris v B S m w) (hm : m ≤ 2000) :
    Calls Tryz.prog 38 #[v, .int .u64 (k : Int)] w fun e w' => ∃ v', e = .returned v' ∧ Ris v' B (S ++ [k]) (m + 1) w' ∧ Below w.heap.size w w' := by
  obtain ⟨N, h1, h2, h3, h4⟩ := h
  refine (put_any v N k B w hB h1 (by omega) h2).mono ?_
  rintro e w' ⟨v', L', rfl, g1, g2, g3⟩
  refine ⟨v', rfl, ⟨L', g1, g2.1, fun x => ?_, by have := g2.2.2; omega⟩, g3⟩
  rw [g2.2.1 x, List.mem_append, h3 x]
  simp only [List.mem_singleton]
  exact or_comm
set_option maxRecDepth 100000 in
set_option maxHeartbeats 4000000 in
theorem refNeeds_any (ao : Option Addr) (cap : Nat) (L : List Nat) (d : Nat) (w : World) (hN : Nums ao L w) (hn : L.length ≤ 1000) (h0 : L ≠ []) (hd : d ≤ 16) (hs : ∀ x ∈ L, x < 2 ^ d) :
    Calls Tryz.prog 22 #[.slice ao L.length cap, .int .i64 (d : Int)] w fun e w' => ∃ v, e = .returned v ∧ Outs w.heap.size L v d w' ∧ Below w.heap.size w w' := by
  have hp : 2 ^ d ≤ 2 ^ 16 := Nat.pow_le_pow_right (by decide) hd
  obtain ⟨D, hD⟩ : ∃ D, D = 2 ^ d := ⟨_, rfl⟩
  have hw : IntKind.u64.wrap ((2 : Int) ^ d) = (D : Int) := by
    rw [show ((2 : Int) ^ d) = ((2 ^ d : Nat) : Int) by simp, ← hD, IntKind.wrap_u64]
    omega
  have HNn := Lib.hid hN
  have HS := Lib.hid hs
  have HD := Lib.hid hD
  have hl0 : 0 < L.length := List.length_pos_iff.2 h0
  have hlz : ((L.length : Int) == 0) = false := by rw [beq_eq_false_iff_ne]; omega
  have n1 : (L.length : Int) ≤ 1000 := by omega
  have d16 : (d : Int) ≤ 16 := by omega
  have d0 : (0 : Int) ≤ (d : Int) := by omega
  have HR0 := Lib.hid (Ris.nil w.heap.size w)
  have HO0 := Lib.hid (show Outs w.heap.size L (.slice none 0 0) 0 w from ⟨[], [], World.ownsRow_nil _ _ _ _, rfl, fun j x N h => by simp at h⟩)
  clear hN hs hD hp h0
  go_enter Tryz.func22, Tryz.ntmps22
  go_wp2
  go_loopw [5, 6] (fun v vi wr => ∃ i : Nat, vi = .int .i64 (i : Int) ∧ i ≤ L.length ∧ Hid (Ris v w.heap.size (L.take i) i wr) ∧ Hid (Below w.heap.size w wr)) (fun _ vi _ => (L.length : Int).toNat - (intOf vi).toNat)
  case atStart => exact ⟨0, rfl, Nat.zero_le _, HR0, Lib.hid (Below.refl _ _)⟩
  case round =>
    obtain ⟨i, rfl, hi, HR, HB⟩ := hrel
    by_cases hie : i = L.length
    · have hl : ¬ (i : Int) < (L.length : Int) := by omega
      have HRL := Lib.hid (show Ris u5 w.heap.size (upTo L 0) 1000 wr from (HR.out.of (S' := upTo L 0) (fun x => by rw [hie, List.take_length, upTo_zero]) (by omega)))
      clear hie HR
      go_wp2
      clear hl
      go_loopw [5, 7, 8] (fun vk vo vl wr => ∃ lv : Nat, vl = .int .i64 (lv : Int) ∧ lv ≤ d ∧ Hid (Ris vk w.heap.size (upTo L lv) 1000 wr) ∧ Hid (Outs w.heap.size L vo lv wr) ∧ Hid (Below w.heap.size w wr)) (fun _ _ vl _ => d - (intOf vl).toNat)
      case atStart => exact ⟨0, rfl, Nat.zero_le _, HRL, Lib.hid (HO0.out.next HB.out), HB⟩
      case round =>
        obtain ⟨lv, rfl, hlv, HR, HO, HB⟩ := hrel
        by_cases hld : lv = d
        · have hl : ¬ (lv : Int) < (d : Int) := by omega
          have HE := Lib.hid (show Outs w.heap.size L u7 d wr from hld ▸ HO.out)
          clear hld
          go_wp2
          go_ret
          exact ⟨u7, rfl, HE.out, HB.out⟩
        · have hl : (lv : Int) < (d : Int) := by omega
          obtain ⟨K, hK1, hK2, hK3, hK4⟩ := HR.out
          have HK := Lib.hid (show ∀ y ∈ K, y < 18446744073709551616 from fun y hy => by
            have h1 := upTo_lt HS.out (by omega) ((hK3 y).1 hy)
            have h2 : 2 ^ (d - lv) ≤ 2 ^ 16 := Nat.pow_le_pow_right (by decide) (by omega)
            omega)
          have HK3 := Lib.hid hK3
          obtain ⟨ak, ck, rfl, hKn, _⟩ := nums_of_row hK1
          have HKo := Lib.hid hKn
          have k49 : (K.length : Int) ≤ 1000 := by omega
          have HR1 := Lib.hid (Ris.nil w.heap.size wr)
          clear hK1 hK2 hK3 hKn
          go_wp2
          generalize wr = wa at *
          go_loopw [9, 10, 11] (fun vn vx vi wr => ∃ i : Nat, vi = .int .i64 (i : Int) ∧ i ≤ K.length ∧ Hid (Ris vn w.heap.size (lacks K (K.take i)) i wr) ∧ Hid (Ris vx w.heap.size ((K.take i).map (· / 2)) i wr) ∧ Hid (Below wa.heap.size wa wr)) (fun _ _ vi _ => (K.length : Int).toNat - (intOf vi).toNat)
          case atStart => exact ⟨0, rfl, Nat.zero_le _, HR1, HR1, Lib.hid (Below.refl _ _)⟩
          case round =>
            obtain ⟨i, rfl, hi, HN, HX, HW⟩ := hrel
            by_cases hie : i = K.length
            · have hli : ¬ (i : Int) < (K.length : Int) := by omega
              have HBw := Lib.hid (HB.out.trans (HW.out.mono HB.out.size))
              have HOw := Lib.hid (HO.out.next HW.out)
              obtain ⟨N, hN1, hN2, hN3, hN4⟩ := HN.out
              have HNd := Lib.hid (show Need (upTo L lv) N from (show Need K N from ⟨hN2, fun x => by
                rw [hN3 x, hie, List.take_length]; exact lacks_mem K K (fun _ => Iff.rfl) x⟩).of HK3.out)
              obtain ⟨an, cn, rfl, _, _⟩ := nums_of_row hN1
              have HNo := Lib.hid hN1
              have HXn := Lib.hid (HX.out.of (S' := upTo L (lv + 1)) (m' := 1000) (fun x => by
                rw [hie, List.take_length, mem_upTo_succ]
                simp only [List.mem_map]
                constructor
                · rintro ⟨k, hk, rfl⟩; exact ⟨k, (HK3.out k).1 hk, rfl⟩
                · rintro ⟨k, hk, rfl⟩; exact ⟨k, (HK3.out k).2 hk, rfl⟩) (by omega))
              clear hN1 hN2 hN3 hie
              go_wp2_with (at_builtin; (refine append_row rfl _ _ rfl rfl rfl HOw.out HNo.out HNd.out (by omega) (by omega) HBw.out.size ?_); intro v5 w5 ho5 hg5; have HO5 := Lib.hid ho5; have HB5 := Lib.hid (HBw.out.grown hg5 HBw.out.size (fun j e => HOw.out.size j e)); have HG5 := Lib.hid hg5; clear ho5 hg5)
              have HX5 := Lib.hid (HXn.out.grown5 HG5.out HOw.out)
              go_wp2
              go_roundw
              case rel => exact ⟨lv + 1, by go_num, by omega, HX5, HO5, HB5⟩
              case measure => simp [intOf] <;> omega
            · have hil : i < K.length := by omega
              have hli : (i : Int) < (K.length : Int) := by omega
              have i0 : (0 : Int) ≤ (i : Int) := by omega
              have HBw := Lib.hid (HB.out.trans (HW.out.mono HB.out.size))
              obtain ⟨b, off, rfl, hc⟩ := nums_at (nums_next HKo.out HW.out) i hil
              obtain ⟨y, hy⟩ : ∃ y, y = K[i] := ⟨_, rfl⟩
              rw [← hy] at hc
              have hy64 : y < 18446744073709551616 := by rw [hy]; exact HK.out _ (List.getElem_mem hil)
              have HY := Lib.hid (show K.take (i + 1) = K.take i ++ [y] by rw [hy, List.take_append_getElem hil])
              have HCs := Lib.hid (fun w => refSib_any y hy64 w)
              have HCh := Lib.hid (refHas_any (some ⟨b, off, none⟩) ck K (sib y) wr (nums_next HKo.out HW.out) (by omega))
              have HLS := Lib.hid (lacks_snoc K (K.take i) y)
              have hyh : (y : Int) / 2 = ((y / 2 : Nat) : Int) := by omega
              have HX2 := Lib.hid (show ∀ z, z ∈ (K.take i).map (· / 2) ++ [y / 2] ↔ z ∈ (K.take (i + 1)).map (· / 2) from fun z => by rw [HY.out]; simp)
              clear hy
              generalize sib y = sy at *
              generalize y / 2 = hf at *
              by_cases hm : sy ∈ K
              · rw [decide_eq_true hm] at HCh
                have HL2 := Lib.hid (show ∀ z, z ∈ lacks K (K.take i) ↔ z ∈ lacks K (K.take (i + 1)) from fun z => by rw [HY.out, HLS.out, if_pos hm])
                have HCp := Lib.hid (putR_any u10 w.heap.size i hf _ wr HBw.out.size HX.out (by omega))
                clear hm
                go_wp2_with (first
                  | (go_at_call 39; refine (HCs.out _).mono ?_; rintro e w2 ⟨rfl, rfl⟩)
                  | (go_at_call 40; refine HCh.out.mono ?_; rintro e w2 ⟨rfl, rfl⟩)
                  | (go_at_call 38; refine HCp.out.mono ?_; rintro e w3 ⟨v', rfl, h1, h2⟩; have HX3 := Lib.hid h1; have HW3 := Lib.hid h2; clear h1 h2))
                go_roundw
                case rel => exact ⟨i + 1, by go_num, hil, Lib.hid ((HN.out.next HW3.out).of HL2.out (by omega)), Lib.hid (HX3.out.of HX2.out (Nat.le_refl _)), Lib.hid (HW.out.trans (HW3.out.mono HW.out.size))⟩
                case measure => simp [intOf] <;> omega
              · rw [decide_eq_false hm] at HCh
                have HL2 := Lib.hid (show ∀ z, z ∈ lacks K (K.take i) ++ [sy] ↔ z ∈ lacks K (K.take (i + 1)) from fun z => by rw [HY.out, HLS.out, if_neg hm])
                have HCn := Lib.hid (putR_any u9 w.heap.size i sy _ wr HBw.out.size HN.out (by omega))
                have HCp := Lib.hid (fun w2 (hb : Below wr.heap.size wr w2) => putR_any u10 w.heap.size i hf _ w2 (Nat.le_trans HBw.out.size hb.size) (HX.out.next hb) (by omega))
                clear hm
                go_wp2_with fail
                refine (HCs.out _).mono ?_
                rintro e w2 ⟨rfl, rfl⟩
                go_wp2_with fail
                refine HCh.out.mono ?_
                rintro e w2 ⟨rfl, rfl⟩
                go_wp2_with fail
                refine HCn.out.mono ?_
                rintro e w3 ⟨v', rfl, h1, h2⟩
                have HN3 := Lib.hid h1
                have HW3 := Lib.hid h2
                have hc3 : w3.cell? ⟨b, off + i, none⟩ = some (.int .u64 (y : Int)) := (h2.cell (p := ⟨b, off + i, none⟩) (World.block_lt_of_cell? _ _ hc)).trans hc
                clear h1 h2
                go_wp2_with fail
                refine (HCp.out _ HW3.out).mono ?_
                rintro e w4 ⟨v2, rfl, h1, h2⟩
                have HX4 := Lib.hid h1
                have HW4 := Lib.hid h2
                clear h1 h2
                go_wp2
                go_roundw
                case rel => exact ⟨i + 1, by go_num, hil, Lib.hid ((HN3.out.next HW4.out).of HL2.out (Nat.le_refl _)), Lib.hid (HX4.out.of HX2.out (Nat.le_refl _)), Lib.hid ((HW.out.trans (HW3.out.mono HW.out.size)).trans (HW4.out.mono (Nat.le_trans HW.out.size HW3.out.size)))⟩
                case measure => simp [intOf] <;> omega
    · have hil : i < L.length := by omega
      have hl : (i : Int) < (L.length : Int) := by omega
      have i0 : (0 : Int) ≤ (i : Int) := by omega
      obtain ⟨b, off, rfl, hc⟩ := nums_at (nums_next HNn.out HB.out) i hil
      obtain ⟨x, hx⟩ : ∃ x, x = L[i] := ⟨_, rfl⟩
      rw [← hx] at hc
      have hxD : x < D := by rw [HD.out, hx]; exact HS.out _ (List.getElem_mem hil)
      have hge : ¬ (x : Int) ≥ (D : Int) := by omega
      have HX := Lib.hid hx
      clear hx
      go_wp2
      go_quiet (fail)
      have HR2 := Lib.hid (HR.out.next (w' := wr.drewN nq) ⟨rfl, rfl, rfl, Nat.le_refl _, fun _ _ => rfl⟩)
      have HB2 := Lib.hid (HB.out.trans (show Below w.heap.size wr (wr.drewN nq) from ⟨rfl, rfl, rfl, Nat.le_refl _, fun _ _ => rfl⟩))
      have hc2 : (wr.drewN nq).cell? ⟨b, off + i, none⟩ = some (.int .u64 (x : Int)) := hc
      generalize wr.drewN nq = v1 at *
      have HC := Lib.hid (putR_any u5 w.heap.size i x (L.take i) v1 HB2.out.size HR2.out (by omega))
      go_wp2_with (go_at_call 38; refine HC.out.mono ?_; rintro e w3 ⟨v', rfl, h1, h2⟩; have HR3 := Lib.hid h1; have HB3 := Lib.hid (HB2.out.trans (h2.mono HB2.out.size)); clear h1 h2)
      go_roundw
      case rel => exact ⟨i + 1, by go_num, hil, Lib.hid (HR3.out.of (fun y => by rw [HX.out, List.take_append_getElem hil]) (Nat.le_refl _)), HB3⟩
      case measure => simp [intOf] <;> omega
set_option maxRecDepth 100000 in
set_option maxHeartbeats 4000000 in
theorem refNeeds_bad (ao : Option Addr) (cap : Nat) (L : List Nat) (d : Nat) (w : World) (hN : Nums ao L w) (hn : L.length ≤ 1000) (hd : d ≤ 16) (hs : ∃ x ∈ L, ¬ x < 2 ^ d) :
    Calls Tryz.prog 22 #[.slice ao L.length cap, .int .i64 (d : Int)] w fun e w' => e = .returned (.slice none 0 0) ∧ Below w.heap.size w w' := by
  have hp : 2 ^ d ≤ 2 ^ 16 := Nat.pow_le_pow_right (by decide) hd
  obtain ⟨D, hD⟩ : ∃ D, D = 2 ^ d := ⟨_, rfl⟩
  have hw : IntKind.u64.wrap ((2 : Int) ^ d) = (D : Int) := by
    rw [show ((2 : Int) ^ d) = ((2 ^ d : Nat) : Int) by simp, ← hD, IntKind.wrap_u64]
    omega
  have HNn := Lib.hid hN
  have HS := Lib.hid hs
  have HD := Lib.hid hD
  have hl0 : 0 < L.length := by obtain ⟨x, hx, _⟩ := hs; exact List.length_pos_iff.2 (List.ne_nil_of_mem hx)
  have hlz : ((L.length : Int) == 0) = false := by rw [beq_eq_false_iff_ne]; omega
  have n1 : (L.length : Int) ≤ 1000 := by omega
  have d16 : (d : Int) ≤ 16 := by omega
  have d0 : (0 : Int) ≤ (d : Int) := by omega
  have HR0 := Lib.hid (Ris.nil w.heap.size w)
  clear hN hs hD hp
  go_enter Tryz.func22, Tryz.ntmps22
  go_wp2
  go_loopw [5, 6] (fun v vi wr => ∃ i : Nat, vi = .int .i64 (i : Int) ∧ i ≤ L.length ∧ Hid (Ris v w.heap.size (L.take i) i wr) ∧ Hid (Below w.heap.size w wr) ∧ Hid (∀ t (h : t < L.length), t < i → L[t] < D)) (fun _ vi _ => (L.length : Int).toNat - (intOf vi).toNat)
  case atStart => exact ⟨0, rfl, Nat.zero_le _, HR0, Lib.hid (Below.refl _ _), Lib.hid (fun t h h2 => by omega)⟩
  case round =>
    obtain ⟨i, rfl, hi, HR, HB, HT⟩ := hrel
    by_cases hie : i = L.length
    · exfalso
      obtain ⟨x, hx, hb⟩ := HS.out
      obtain ⟨t, ht, rfl⟩ := List.mem_iff_getElem.1 hx
      exact hb (HD.out ▸ HT.out t ht (by omega))
    · have hil : i < L.length := by omega
      have hl : (i : Int) < (L.length : Int) := by omega
      have i0 : (0 : Int) ≤ (i : Int) := by omega
      obtain ⟨b, off, rfl, hc⟩ := nums_at (nums_next HNn.out HB.out) i hil
      obtain ⟨x, hx⟩ : ∃ x, x = L[i] := ⟨_, rfl⟩
      rw [← hx] at hc
      have HX := Lib.hid hx
      clear hx
      by_cases hxD : x < D
      · have hge : ¬ (x : Int) ≥ (D : Int) := by omega
        go_wp2
        go_quiet (fail)
        have HR2 := Lib.hid (HR.out.next (w' := wr.drewN nq) ⟨rfl, rfl, rfl, Nat.le_refl _, fun _ _ => rfl⟩)
        have HB2 := Lib.hid (HB.out.trans (show Below w.heap.size wr (wr.drewN nq) from ⟨rfl, rfl, rfl, Nat.le_refl _, fun _ _ => rfl⟩))
        have hc2 : (wr.drewN nq).cell? ⟨b, off + i, none⟩ = some (.int .u64 (x : Int)) := hc
        generalize wr.drewN nq = v1 at *
        have HC := Lib.hid (putR_any u5 w.heap.size i x (L.take i) v1 HB2.out.size HR2.out (by omega))
        go_wp2_with (go_at_call 38; refine HC.out.mono ?_; rintro e w3 ⟨v', rfl, h1, h2⟩; have HR3 := Lib.hid h1; have HB3 := Lib.hid (HB2.out.trans (h2.mono HB2.out.size)); clear h1 h2)
        go_roundw
        case rel => exact ⟨i + 1, by go_num, hil, Lib.hid (HR3.out.of (fun y => by rw [HX.out, List.take_append_getElem hil]) (Nat.le_refl _)), HB3, Lib.hid (fun t h h2 => by
          by_cases c : t = i
          · subst c; rw [← HX.out]; exact hxD
          · exact HT.out t h (by omega))⟩
        case measure => simp [intOf] <;> omega
      · have hge : (x : Int) ≥ (D : Int) := by omega
        go_wp2
        go_quiet (fail)
        go_wp2
        go_ret
        exact ⟨rfl, HB.out.trans ⟨rfl, rfl, rfl, Nat.le_refl _, fun _ _ => rfl⟩⟩
theorem refNeeds_off (ao : Option Addr) (n cap : Nat) (hn : n ≤ 1000) (d : Int) (w : World) (h : d < 0 ∨ 16 < d ∨ n = 0) :
    Calls Tryz.prog 22 #[.slice ao n cap, .int .i64 d] w fun e w' => e = .returned (.slice none 0 0) ∧ Below w.heap.size w w' := by
  have n1 : (n : Int) ≤ 1000 := by omega
  by_cases h1 : d < 0
  · go_enter Tryz.func22, Tryz.ntmps22
    go_wp2
    go_ret
    exact ⟨rfl, Below.refl _ _⟩
  · by_cases h2 : 16 < d
    · go_enter Tryz.func22, Tryz.ntmps22
      go_wp2
      go_ret
      exact ⟨rfl, Below.refl _ _⟩
    · have hz : n = 0 := by omega
      subst hz
      go_enter Tryz.func22, Tryz.ntmps22
      go_wp2
      go_ret
      exact ⟨rfl, Below.refl _ _⟩
end Go.Proofs.YtblimejnjboedaaGreatDoor
