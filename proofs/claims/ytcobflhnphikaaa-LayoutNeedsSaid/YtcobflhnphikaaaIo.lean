/- The document's own lists: is a number in one; put into a rising one. -/
import Derived.Test.YtcobflhnphikaaaHx
namespace Go.Proofs.Ytcobflhnphikaaa
open Go.RowKit Go.Sort

/-- v is the list L -/
def Ls (v : Value) (L : List Nat) (w : World) : Prop :=
  (v = .slice none 0 0 ∧ L = []) ∨ ∃ g cap, v = .slice (some ⟨g, 0, none⟩) L.length cap ∧ L.length ≤ cap ∧ g < w.heap.size ∧ ∀ i (h : i < L.length), w.cell? ⟨g, i, none⟩ = some (.int .u64 (L[i] : Int))
theorem Ls.next {v : Value} {L : List Nat} {w w' : World} (h : Ls v L w) (hb : Below w.heap.size w w') : Ls v L w' := by
  rcases h with h | ⟨g, cap, h1, h2, h3, h4⟩
  · exact .inl h
  · exact .inr ⟨g, cap, h1, h2, by have := hb.size; omega, fun i hi => (hb.cell (p := ⟨g, i, none⟩) h3).trans (h4 i hi)⟩
theorem Ls.nums {v : Value} {L : List Nat} {w : World} (h : Ls v L w) : ∃ ao cap, v = .slice ao L.length cap ∧ Nums ao L w := by
  rcases h with ⟨rfl, rfl⟩ | ⟨g, cap, rfl, _, h3, h4⟩
  · exact ⟨none, 0, rfl, .inl rfl⟩
  · exact ⟨_, cap, rfl, .inr ⟨g, 0, rfl, h3, fun i hi => by rw [Nat.zero_add]; exact h4 i hi⟩⟩
theorem Ls.of_own {base : Nat} {v : Value} {L : List Nat} {w : World} (h : w.ownsRow base 22 1 v L.length (L.map encU)) : Ls v L w := by
  have h0 := h
  rcases h.2 with ⟨rfl, hl⟩ | ⟨g, cap, cur, rfl, h1, h2, h3, h4, h5, h6⟩
  · exact .inl ⟨rfl, List.length_eq_zero_iff.1 hl⟩
  · refine .inr ⟨g, cap, rfl, h3, (Array.getElem?_eq_some_iff.1 h2).1, fun i hi => ?_⟩
    have := h0.cellAt i (by simpa using hi)
    refine this.trans ?_
    simp [encU, hi]
set_option maxRecDepth 100000 in
theorem refHas_any (ao : Option Addr) (cap : Nat) (L : List Nat) (k : Nat) (w : World) (hN : Nums ao L w) (hn : L.length ≤ 1000) : Calls Try.prog 31 #[.slice ao L.length cap, .int .u64 (k : Int)] w fun e w' => e = .returned (.bool (decide (k ∈ L))) ∧ w = w' := by
  have HN := Lib.hid hN
  have n1 : (L.length : Int) ≤ 1000 := by omega
  clear hN hn
  go_enter Try.func31, Try.ntmps31
  go_wp2
  go_loopw [5] (fun vi wr => ∃ i : Nat, vi = .int .i64 (i : Int) ∧ i ≤ L.length ∧ Hid (∀ t, t < i → L[t]? ≠ some k) ∧ w = wr) (fun vi _ => (L.length : Int).toNat - (intOf vi).toNat)
  case atStart => exact ⟨0, rfl, Nat.zero_le _, Lib.hid (fun t h => by omega), rfl⟩
  case round =>
    obtain ⟨i, rfl, hi, HT, rfl⟩ := hrel
    by_cases hie : i = L.length
    · have hl : ¬ (i : Int) < (L.length : Int) := by omega
      have HE := Lib.hid (show k ∉ L from fun h => by
        obtain ⟨t, ht⟩ := List.getElem?_of_mem h
        exact HT.out t (by rw [hie]; exact (List.getElem?_eq_some_iff.1 ht).1) ht)
      clear hie
      go_wp2
      go_ret
      exact ⟨by rw [decide_eq_false HE.out]; rfl, rfl⟩
    · have hil : i < L.length := by omega
      have hl : (i : Int) < (L.length : Int) := by omega
      have i0 : (0 : Int) ≤ (i : Int) := by omega
      obtain ⟨b, off, rfl, hc⟩ := nums_at HN.out i hil
      obtain ⟨x, hx⟩ : ∃ x, x = L[i] := ⟨_, rfl⟩
      rw [← hx] at hc
      by_cases hk : x = k
      · have he : ((x : Int) == (k : Int)) = true := by rw [hk]; simp
        have HE := Lib.hid (show k ∈ L by rw [← hk, hx]; exact List.getElem_mem hil)
        clear hk hx
        go_wp2
        go_ret
        exact ⟨by rw [decide_eq_true HE.out]; rfl, rfl⟩
      · have he : ((x : Int) == (k : Int)) = false := by rw [beq_eq_false_iff_ne]; omega
        have HX := Lib.hid (show ∀ t, t < i + 1 → L[t]? ≠ some k from fun t ht => by
          by_cases c : t = i
          · subst c; rw [List.getElem?_eq_getElem hil, ← hx]; intro h; cases h; exact hk rfl
          · exact HT.out t (by omega))
        clear hk hx
        go_wp2
        go_roundw
        case rel => exact ⟨i + 1, by go_num, hil, HX, trivial⟩
        case measure => simp [intOf] <;> omega
/-- append of numbers that lie somewhere -/
theorem append_nums {ops : Array Oper} {rest : List Oper} {o : Oper} {a : Act} {Q : Exit → Act → World → Prop} {wr : World} {base g off c : Nat} {X Y : List Nat} {v : Value} (hgd : o.guard = none) (s x : Operand)
    (ho : o.op = .call { callee := .builtin .append, args := #[s, x], argTypes := #[28, 28] })
    (hs : a.eval s = v) (hx : a.eval x = .slice (some ⟨g, off, none⟩) Y.length c) (hY : ∀ i (h : i < Y.length), wr.cell? ⟨g, off + i, none⟩ = some (.int .u64 (Y[i] : Int))) (hown : wr.ownsRow base 22 1 v X.length (X.map encU)) (hn : X.length + Y.length ≤ 100000) (h0 : base ≤ wr.heap.size)
    (h : ∀ v' w', w'.ownsRow base 22 1 v' (X ++ Y).length ((X ++ Y).map encU) → wr.grownBy w' v.ownBlock → wpList Try.prog ops Q rest (a.put o.dst v') w') :
    wpList Try.prog ops Q (o :: rest) a wr := by
  obtain ⟨i0, hi, hz0, hz1, hz2⟩ := info_parts infoU
  refine wpList_append_own _ hgd s x 28 ho base 22 i0 (.int .u64 0) 1 8 Try.underlying28 hi hz0 hz1 hz2 rfl (by decide) v X.length _ hs hown ⟨g, off, none⟩ Y.length c (Y.map encU) hx (by simp) ?_ ?_ (by unfold maxLen; omega) (by omega) h0 ?_
  · intro j u hj
    have hjl : j < Y.length := by
      rcases Nat.lt_or_ge j Y.length with h | h
      · exact h
      · rw [List.getElem?_eq_none (by simpa using h)] at hj; cases hj
    rw [List.getElem?_map, List.getElem?_eq_getElem hjl] at hj
    cases hj
    rw [Addr.add_mid]
    exact hY j hjl
  · intro u hu
    obtain ⟨y, _, rfl⟩ := List.mem_map.1 hu
    rfl
  · intro v' w' hown' hg _
    refine h v' w' ?_ hg
    rw [List.length_append, List.map_append]
    exact hown'
end Go.Proofs.Ytcobflhnphikaaa
