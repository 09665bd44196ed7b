/- The document's put: into a rising list, once. -/
import Derived.Test.YtfghggfoncfhgaaGreatDoorJ24
import Derived.Laws.AppendOwnNone
namespace Go.Proofs.YtfghggfoncfhgaaGreatDoor
open Go.RowKit Go.Sort

/-- L' is L and k, rising -/
def Ins (L : List Nat) (k : Nat) (L' : List Nat) : Prop := L'.Pairwise (· < ·) ∧ (∀ x, x ∈ L' ↔ x = k ∨ x ∈ L) ∧ L'.length ≤ L.length + 1
theorem ins_mid {L : List Nat} {k a : Nat} (hL : L.Pairwise (· < ·)) (h1 : ∀ i (h : i < L.length), i < a → L[i] < k) (h2 : ∀ i (h : i < L.length), a ≤ i → k < L[i]) : Ins L k (L.take a ++ [k] ++ L.drop a) := by
  have t1 : ∀ x ∈ L.take a, x < k := by
    intro x hx
    obtain ⟨i, hi, rfl⟩ := List.mem_iff_getElem.1 hx
    have hi2 : i < a ∧ i < L.length := by have h := hi; rw [List.length_take] at h; omega
    rw [List.getElem_take]
    exact h1 i hi2.2 hi2.1
  have t2 : ∀ x ∈ L.drop a, k < x := by
    intro x hx
    obtain ⟨i, hi, rfl⟩ := List.mem_iff_getElem.1 hx
    rw [List.getElem_drop]
    have hi2 : i < L.length - a := by simpa using hi
    exact h2 (a + i) (by omega) (by omega)
  refine ⟨?_, fun x => ?_, by simp; omega⟩
  · rw [List.append_assoc, List.pairwise_append]
    refine ⟨hL.sublist (List.take_sublist _ _), ?_, fun x hx y hy => ?_⟩
    · rw [List.singleton_append, List.pairwise_cons]
      exact ⟨t2, hL.sublist (List.drop_sublist _ _)⟩
    · rcases List.mem_append.1 hy with h | h
      · simp at h; subst h; exact t1 x hx
      · have := t1 x hx; have := t2 y h; omega
  · simp only [List.mem_append, List.mem_singleton]
    have e : x ∈ L ↔ x ∈ L.take a ∨ x ∈ L.drop a := by
      conv => lhs; rw [← List.take_append_drop a L]
      exact List.mem_append
    rw [e]
    constructor
    · rintro ((h | h) | h)
      · exact .inr (.inl h)
      · exact .inl h
      · exact .inr (.inr h)
    · rintro (h | h | h)
      · exact .inl (.inr h)
      · exact .inl (.inl h)
      · exact .inr h
theorem ins_same {L : List Nat} {k : Nat} (hL : L.Pairwise (· < ·)) (h : k ∈ L) : Ins L k L := ⟨hL, fun x => ⟨.inr, fun h' => h'.elim (fun e => e ▸ h) id⟩, by omega⟩
set_option maxRecDepth 100000 in
set_option maxHeartbeats 2000000 in
theorem putNil_any (k : Nat) (w : World) : Calls Tryz.prog 42 #[.slice none 0 0, .int .u64 (k : Int)] w fun e w' => ∃ v' L', e = .returned v' ∧ w'.ownsRow w.heap.size 23 1 v' L'.length (L'.map encU) ∧ Ins [] k L' ∧ Below w.heap.size w w' := by
  obtain ⟨i0, hi, hz0, hz1, hz2⟩ := info_parts infoU
  have HI := Lib.hid hi
  have HO0 := Lib.hid (show w.ownsRow w.heap.size 23 1 (.slice none 0 0) ([] : List Nat).length (([] : List Nat).map encU) from World.ownsRow_nil w w.heap.size 23 1)
  clear hi hz0 hz1 hz2
  go_enter Tryz.func42, Tryz.ntmps42
  go_wp2
  refine wp_loop_rounds 1 ?_
  rw [rounds_succ]
  go_wp2_with (first
    | (at_builtin; (refine wpList_append_own_none rfl _ _ 24 rfl w.heap.size 23 i0 1 Tryz.underlying24 HI.out _ _ _ rfl HO0.out rfl ?_))
    | (at_builtin; (refine append_num rfl _ _ rfl rfl rfl HO0.out (by simp) (Nat.le_refl _) ?_); intro v3 w3 ho3 hg3; have HO3 := Lib.hid ho3; have HB3 := Lib.hid ((Below.refl w.heap.size w).grown hg3 (Nat.le_refl _) (fun k e => by cases e)); clear ho3 hg3)
    | (at_builtin; (refine wpList_append_own_none rfl _ _ 24 rfl w.heap.size 23 i0 1 Tryz.underlying24 HI.out _ _ _ rfl HO3.out rfl ?_)))
  go_ret
  exact ⟨_, [k], rfl, HO3.out, ins_mid (L := []) (k := k) (a := 0) List.Pairwise.nil (fun i h => by simp at h) (fun i h => by simp at h), HB3.out⟩
set_option maxRecDepth 100000 in
set_option maxHeartbeats 4000000 in
theorem putSome_any (k : Nat) (g cap : Nat) (L : List Nat) (w : World) (hcp : L.length ≤ cap) (hg : g < w.heap.size) (hc : ∀ i (h : i < L.length), w.cell? ⟨g, i, none⟩ = some (.int .u64 (L[i] : Int))) (hn : L.length ≤ 100) (hL : L.Pairwise (· < ·)) :
    Calls Tryz.prog 42 #[.slice (some ⟨g, 0, none⟩) L.length cap, .int .u64 (k : Int)] w fun e w' => ∃ v' L', e = .returned v' ∧ ((v' = .slice (some ⟨g, 0, none⟩) L.length cap ∧ L' = L) ∨ w'.ownsRow w.heap.size 23 1 v' L'.length (L'.map encU)) ∧ Ins L k L' ∧ Below w.heap.size w w' := by
  obtain ⟨i0, hi, hz0, hz1, hz2⟩ := info_parts infoU
  have HI := Lib.hid hi
  have HO0 := Lib.hid (show w.ownsRow w.heap.size 23 1 (.slice none 0 0) ([] : List Nat).length (([] : List Nat).map encU) from World.ownsRow_nil w w.heap.size 23 1)
  have HC := Lib.hid hc
  have HL := Lib.hid hL
  have n1 : (L.length : Int) ≤ 100 := by omega
  clear hi hz0 hz1 hz2 hc hL
  go_enter Tryz.func42, Tryz.ntmps42
  go_wp2
  go_loopw [5] (fun v wr => ∃ i : Nat, v = .int .i64 (i : Int) ∧ i ≤ L.length ∧ Hid (∀ t (h : t < L.length), t < i → L[t] < k) ∧ w = wr) (fun v _ => (L.length : Int).toNat - (intOf v).toNat)
  case atStart => exact ⟨0, rfl, Nat.zero_le _, Lib.hid (fun t h h2 => by omega), rfl⟩
  case round =>
    obtain ⟨i, rfl, hil, HT, rfl⟩ := hrel
    have i0' : (0 : Int) ≤ (i : Int) := by omega
    by_cases hie : i < L.length
    · have hl : decide (i < L.length) = true := by rw [decide_eq_true_iff]; exact hie
      obtain ⟨x, hx⟩ : ∃ x, x = L[i] := ⟨_, rfl⟩
      have fx : w.cell? ⟨g, i, none⟩ = some (.int .u64 (x : Int)) := by rw [hx]; exact HC.out i hie
      have hiI : (i : Int) < (L.length : Int) := by omega
      have HX := Lib.hid hx
      clear hx
      by_cases hlt : x < k
      · go_wp2
        go_roundw
        case rel => exact ⟨i + 1, by go_num, hie, Lib.hid (fun t h h2 => by
          by_cases c : t = i
          · subst c; rw [← HX.out]; exact hlt
          · exact HT.out t h (by omega)), trivial⟩
        case measure => simp [intOf] <;> omega
      · by_cases heq : x = k
        · have he : ((x : Int) == (k : Int)) = true := by rw [heq]; simp
          have HM := Lib.hid (show k ∈ L by rw [← heq, HX.out]; exact List.getElem_mem hie)
          clear heq
          go_wp2
          go_ret
          exact ⟨_, L, rfl, .inl ⟨rfl, rfl⟩, ins_same HL.out HM.out, Below.refl _ _⟩
        · have he : ((x : Int) == (k : Int)) = false := by rw [beq_eq_false_iff_ne]; omega
          have HG := Lib.hid (show ∀ t (h : t < L.length), i ≤ t → k < L[t] from fun t h h2 => by
            have hk : k < L[i] := by rw [← HX.out]; omega
            by_cases c : t = i
            · subst c; exact hk
            · have := List.pairwise_iff_getElem.1 HL.out i t hie h (by omega)
              omega)
          clear heq
          have hic : (i : Int) ≤ (cap : Int) := by omega
          have hne : ¬ cap = i := by omega
          have htl : (L.take i).length = i := by rw [List.length_take]; omega
          have hdl : (L.drop i).length = L.length - i := List.length_drop
          have HTK := Lib.hid (show ∀ t (h : t < (L.take i).length), w.cell? ⟨g, 0 + t, none⟩ = some (.int .u64 ((L.take i)[t] : Int)) from fun t h => by
            rw [List.getElem_take, Nat.zero_add]; exact HC.out t (by rw [htl] at h; omega))
          have HTL := Lib.hid htl
          have HDL := Lib.hid hdl
          clear htl hdl
          have HDR := Lib.hid (show ∀ t (h : t < (L.drop i).length), w.cell? ⟨g, i + t, none⟩ = some (.int .u64 ((L.drop i)[t] : Int)) from fun t h => by
            rw [List.getElem_drop]; exact HC.out (i + t) (by rw [HDL.out] at h; omega))
          have HIN := Lib.hid (show Ins L k ([] ++ L.take i ++ [k] ++ L.drop i) by rw [List.nil_append]; exact ins_mid HL.out HT.out HG.out)
          go_wp2_with (first
            | (at_builtin; (refine append_nums (X := []) (Y := L.take i) (g := g) (off := 0) (c := cap) rfl _ _ rfl rfl (by rw [HTL.out]; rfl) HTK.out HO0.out (by rw [HTL.out]; simp; omega) (Nat.le_refl _) ?_); intro v3 w3 ho3 hg3; have HO3 := Lib.hid ho3; have HB3 := Lib.hid ((Below.refl w.heap.size w).grown hg3 (Nat.le_refl _) (fun k e => by cases e)); clear ho3 hg3)
            | (at_builtin; (refine append_num (X := [] ++ L.take i) (c := k) rfl _ _ rfl rfl rfl HO3.out (by rw [List.nil_append, HTL.out]; omega) HB3.out.size ?_); intro v4 w4 ho4 hg4; have HO4 := Lib.hid ho4; have HB4 := Lib.hid (HB3.out.grown hg4 HB3.out.size (fun j e => row_low HO3.out (Nat.le_refl _) j e)); clear ho4 hg4)
            | (at_builtin; (refine append_nums (X := [] ++ L.take i ++ [k]) (Y := L.drop i) (g := g) (off := i) (c := cap - i) rfl _ _ rfl rfl (by rw [HDL.out]; rfl) (fun t h => (HB4.out.cell (p := ⟨g, i + t, none⟩) hg).trans (HDR.out t h)) HO4.out (by simp; omega) HB4.out.size ?_); intro v5 w5 ho5 hg5; have HO5 := Lib.hid ho5; have HB5 := Lib.hid (HB4.out.grown hg5 HB4.out.size (fun j e => row_low HO4.out (Nat.le_refl _) j e)); clear ho5 hg5))
          go_ret
          exact ⟨_, _, rfl, .inr HO5.out, HIN.out, HB5.out⟩
    · have hie' : i = L.length := by omega
      have hl : decide (i < L.length) = false := by rw [decide_eq_false_iff_not]; exact hie
      have HIN := Lib.hid (show Ins L k ([] ++ L.take i ++ [k] ++ L.drop i) by
        rw [List.nil_append]; exact ins_mid HL.out HT.out (fun t h h2 => by omega))
      have htl : (L.take i).length = i := by rw [List.length_take]; omega
      have hdl : (L.drop i).length = L.length - i := List.length_drop
      have HTK := Lib.hid (show ∀ t (h : t < (L.take i).length), w.cell? ⟨g, 0 + t, none⟩ = some (.int .u64 ((L.take i)[t] : Int)) from fun t h => by
        rw [List.getElem_take, Nat.zero_add]; exact HC.out t (by rw [htl] at h; omega))
      have HTL := Lib.hid htl
      have HDL := Lib.hid hdl
      have HIE := Lib.hid hie'
      have hic : (i : Int) ≤ (cap : Int) := by omega
      have hil2 : (i : Int) ≤ (L.length : Int) := by omega
      clear htl hdl hie'
      by_cases hci : cap = i
      · skip
        go_wp2_with (first
          | (at_builtin; (refine append_nums (X := []) (Y := L.take i) (g := g) (off := 0) (c := i) rfl _ _ rfl rfl (by rw [HTL.out]; rfl) HTK.out HO0.out (by rw [HTL.out]; simp; omega) (Nat.le_refl _) ?_); intro v3 w3 ho3 hg3; have HO3 := Lib.hid ho3; have HB3 := Lib.hid ((Below.refl w.heap.size w).grown hg3 (Nat.le_refl _) (fun k e => by cases e)); clear ho3 hg3)
          | (at_builtin; (refine append_num (X := [] ++ L.take i) (c := k) rfl _ _ rfl rfl rfl HO3.out (by rw [List.nil_append, HTL.out]; omega) HB3.out.size ?_); intro v4 w4 ho4 hg4; have HO4 := Lib.hid ho4; have HB4 := Lib.hid (HB3.out.grown hg4 HB3.out.size (fun j e => row_low HO3.out (Nat.le_refl _) j e)); clear ho4 hg4)
          | (at_builtin; (refine append_nums (X := [] ++ L.take i ++ [k]) (Y := L.drop i) (g := g) (off := 0) (c := 0) rfl _ _ rfl rfl (by rw [HDL.out]; first | rfl | (have := HIE.out; simp [this]; done)) (fun t h => absurd h (by rw [HDL.out]; have := HIE.out; omega)) HO4.out (by simp; omega) HB4.out.size ?_); intro v5 w5 ho5 hg5; have HO5 := Lib.hid ho5; have HB5 := Lib.hid (HB4.out.grown hg5 HB4.out.size (fun j e => row_low HO4.out (Nat.le_refl _) j e)); clear ho5 hg5))
        go_ret
        exact ⟨_, _, rfl, .inr HO5.out, HIN.out, HB5.out⟩
      · skip
        go_wp2_with (first
          | (at_builtin; (refine append_nums (X := []) (Y := L.take i) (g := g) (off := 0) (c := cap) rfl _ _ rfl rfl (by rw [HTL.out]; rfl) HTK.out HO0.out (by rw [HTL.out]; simp; omega) (Nat.le_refl _) ?_); intro v3 w3 ho3 hg3; have HO3 := Lib.hid ho3; have HB3 := Lib.hid ((Below.refl w.heap.size w).grown hg3 (Nat.le_refl _) (fun k e => by cases e)); clear ho3 hg3)
          | (at_builtin; (refine append_num (X := [] ++ L.take i) (c := k) rfl _ _ rfl rfl rfl HO3.out (by rw [List.nil_append, HTL.out]; omega) HB3.out.size ?_); intro v4 w4 ho4 hg4; have HO4 := Lib.hid ho4; have HB4 := Lib.hid (HB3.out.grown hg4 HB3.out.size (fun j e => row_low HO3.out (Nat.le_refl _) j e)); clear ho4 hg4)
          | (at_builtin; (refine append_nums (X := [] ++ L.take i ++ [k]) (Y := L.drop i) (g := g) (off := i) (c := cap - i) rfl _ _ rfl rfl (by rw [HDL.out]; rfl) (fun t h => absurd h (by rw [HDL.out]; have := HIE.out; omega)) HO4.out (by simp; omega) HB4.out.size ?_); intro v5 w5 ho5 hg5; have HO5 := Lib.hid ho5; have HB5 := Lib.hid (HB4.out.grown hg5 HB4.out.size (fun j e => row_low HO4.out (Nat.le_refl _) j e)); clear ho5 hg5))
        go_ret
        exact ⟨_, _, rfl, .inr HO5.out, HIN.out, HB5.out⟩
theorem kept_all {w w' : World} (h : Below w.heap.size w w') : Kept (fun _ => True) w w' := ⟨h.os, h.tape, h.output, h.size, fun j hj _ => h.block j hj⟩
theorem put_any (v : Value) (L : List Nat) (k B : Nat) (w : World) (hB : B ≤ w.heap.size) (ho : w.ownsRow B 23 1 v L.length (L.map encU)) (hn : L.length ≤ 100) (hL : L.Pairwise (· < ·)) :
    Calls Tryz.prog 42 #[v, .int .u64 (k : Int)] w fun e w' => ∃ v' L', e = .returned v' ∧ w'.ownsRow B 23 1 v' L'.length (L'.map encU) ∧ Ins L k L' ∧ Below w.heap.size w w' := by
  rcases Ls.of_own ho with ⟨rfl, rfl⟩ | ⟨g, cap, rfl, h2, h3, h4⟩
  · refine (putNil_any k w).mono ?_
    rintro e w' ⟨v', L', rfl, h1, h2, h3⟩
    exact ⟨v', L', rfl, row_base h1 hB, h2, h3⟩
  · refine (putSome_any k g cap L w h2 h3 h4 hn hL).mono ?_
    rintro e w' ⟨v', L', rfl, h1, h2, h3⟩
    refine ⟨v', L', rfl, ?_, h2, h3⟩
    rcases h1 with ⟨rfl, rfl⟩ | h1
    · exact own_kept ho (kept_all h3) (fun _ _ => trivial)
    · exact row_base h1 hB
end Go.Proofs.YtfghggfoncfhgaaGreatDoor
