/- Quotients of bits, as the document's answer makes them. -/
import Derived.Test.YtiglhgcckceikaaRf
import Derived.Test.YtiglhgcckceikaaRg
import Derived.Laws.AppendOwnNone
namespace Go.Proofs.Ytiglhgcckceikaa
open Go.RowKit

theorem row_kept {B : Nat} {e : TypeId} {k : Nat} {v : Value} {n : Nat} {xs : List Value} {w w' : World} (h : w.ownsRow B e k v n xs) (hb : Below w.heap.size w w') : w'.ownsRow B e k v n xs :=
  h.kept (row := none) ⟨hb.os, hb.tape, hb.output, hb.size, fun j hj _ => hb.block j hj⟩ (by cases hv : v.ownBlock <;> simp)
theorem Bs.set {ao : Option Addr} {x n b o : Nat} {w : World} {v : Value} (h : Bs ao x n w) (hne : ∀ p, ao = some p → p.block ≠ b) : Bs ao x n (w.setCell ⟨b, o, none⟩ v) := by
  rcases h with h | ⟨g, h1, h2, h3⟩
  · exact .inl h
  · refine .inr ⟨g, h1, by simpa using h2, fun i hi => ?_⟩
    have hg : g ≠ b := hne _ h1
    have e : (w.setCell ⟨b, o, none⟩ v).heap[g]? = w.heap[g]? := heap_setCell_other w ⟨b, o, none⟩ g v (fun c => hg c)
    exact (World.cell?_of_block (w := w) (a := ⟨g, i, none⟩) e).trans (h3 i hi)
theorem bitsV_cons (R L : Nat) (b : Bool) : bitsV b.toNat 1 ++ bitsV R L = bitsV (2 * R + b.toNat) (L + 1) := by
  apply List.ext_getElem?
  intro i
  have h0 : (bitsV b.toNat 1) = [.bool b] := by cases b <;> rfl
  rw [h0]
  have hb : b.toNat < 2 := by cases b <;> decide
  cases i with
  | zero =>
    rw [bitsV_get _ (L + 1) 0 (by omega)]
    simp only [List.cons_append, List.nil_append, List.getElem?_cons_zero, Option.some.injEq, Value.bool.injEq]
    rw [Nat.testBit_zero]
    cases b <;> simp <;> omega
  | succ j =>
    simp only [List.cons_append, List.nil_append, List.getElem?_cons_succ]
    by_cases h : j < L
    · rw [bitsV_get R L j h, bitsV_get _ (L + 1) (j + 1) (by omega), Nat.testBit_succ, show (2 * R + b.toNat) / 2 = R by omega]
    · rw [List.getElem?_eq_none (by rw [bitsV_len]; omega), List.getElem?_eq_none (by rw [bitsV_len]; omega)]
theorem bitsV_zero (n : Nat) : (madeCells #[Value.bool false] n).toList = bitsV 0 n := by
  rw [toList_madeCells_one, bitsV]
  apply List.ext_getElem?
  intro i
  by_cases h : i < n
  · rw [List.getElem?_replicate, if_pos h, List.getElem?_map, List.getElem?_range h, Option.map_some, Nat.zero_testBit]
  · rw [List.getElem?_eq_none (by rw [List.length_replicate]; omega), List.getElem?_eq_none (by rw [List.length_map, List.length_range]; omega)]

/-- the quotient's highest bits -/
def topQ (x y k : Nat) : Nat := x / y / 2 ^ k * 2 ^ k
theorem topQ_bit (x y k j : Nat) : (topQ x y k).testBit j = (decide (k ≤ j) && (x / y).testBit j) := by
  rw [topQ, Nat.testBit_mul_two_pow, Nat.testBit_div_two_pow]
  by_cases h : k ≤ j
  · rw [show j - k + k = j by omega]
  · simp [h]
theorem bits_div_next (x y k : Nat) (hy : 0 < y) (b : Bool) (hb : x.testBit k = b) :
    (2 * (x / 2 ^ (k + 1) % y) + b.toNat < y → x / 2 ^ k % y = 2 * (x / 2 ^ (k + 1) % y) + b.toNat ∧ (x / y).testBit k = false) ∧
    (y ≤ 2 * (x / 2 ^ (k + 1) % y) + b.toNat → x / 2 ^ k % y = 2 * (x / 2 ^ (k + 1) % y) + b.toNat - y ∧ (x / y).testBit k = true) := by
  have h1 := div_bit x k
  rw [hb] at h1
  have e : ∀ j, x / y / 2 ^ j = x / 2 ^ j / y := fun j => by rw [Nat.div_div_eq_div_mul, Nat.div_div_eq_div_mul, Nat.mul_comm]
  have hq := div_bit (x / y) k
  rw [e, e] at hq
  generalize (x / y).testBit k = bq at *
  generalize x / 2 ^ (k + 1) = h at *
  rw [h1] at hq ⊢
  clear h1 e hb
  have h2 := Nat.div_add_mod h y
  have h3 := Nat.mod_lt h hy
  generalize h / y = q at *
  generalize h % y = r at *
  have hb2 : b.toNat < 2 := by cases b <;> decide
  generalize b.toNat = c at *
  have e2 : 2 * h + c = (2 * r + c) + y * (2 * q) := by rw [← h2, Nat.mul_add, Nat.mul_left_comm]; omega
  rw [e2, Nat.add_mul_div_left _ _ hy] at hq
  rw [e2, Nat.add_mul_mod_self_left]
  constructor
  · intro hl
    rw [Nat.div_eq_of_lt hl] at hq
    refine ⟨Nat.mod_eq_of_lt hl, ?_⟩
    cases bq
    · rfl
    · simp at hq <;> omega
  · intro hl
    have h5 : (2 * r + c) % y = 2 * r + c - y := by rw [Nat.mod_eq_sub_mod hl, Nat.mod_eq_of_lt (by omega)]
    have h6 : (2 * r + c) / y = 1 := Nat.div_eq_of_lt_le (by omega) (by omega)
    rw [h6] at hq
    refine ⟨h5, ?_⟩
    cases bq
    · simp at hq <;> omega
    · rfl
theorem topQ_same (x y k n : Nat) (h : (x / y).testBit k = false) : bitsV (topQ x y k) n = bitsV (topQ x y (k + 1)) n := by
  refine List.map_congr_left fun j _ => ?_
  rw [topQ_bit, topQ_bit]
  by_cases e : k = j
  · subst e; simp [h]
  · by_cases h1 : k ≤ j
    · rw [decide_eq_true h1, decide_eq_true (show k + 1 ≤ j by omega)]
    · rw [decide_eq_false h1, decide_eq_false (show ¬ k + 1 ≤ j by omega)]
theorem topQ_set (x y k n : Nat) (h : (x / y).testBit k = true) : (bitsV (topQ x y (k + 1)) n).set k (.bool true) = bitsV (topQ x y k) n := by
  apply List.ext_getElem?
  intro j
  by_cases hj : j < n
  · rw [bitsV_get _ n j hj, List.getElem?_set, bitsV_len, topQ_bit]
    by_cases e : k = j
    · subst e; simp [hj, h]
    · rw [if_neg e, bitsV_get _ n j hj, topQ_bit]
      by_cases h1 : k ≤ j
      · rw [decide_eq_true h1, decide_eq_true (show k + 1 ≤ j by omega)]
      · rw [decide_eq_false h1, decide_eq_false (show ¬ k + 1 ≤ j by omega)]
  · rw [List.getElem?_eq_none (by rw [List.length_set, bitsV_len]; omega), List.getElem?_eq_none (by rw [bitsV_len]; omega)]
theorem topQ_all (x y : Nat) : topQ x y 0 = x / y := by rw [topQ, Nat.pow_zero, Nat.div_one, Nat.mul_one]
theorem topQ_none (x y n : Nat) (hx : x < 2 ^ n) : topQ x y n = 0 := by
  rw [topQ, Nat.div_eq_of_lt (Nat.lt_of_le_of_lt (Nat.div_le_self x y) hx), Nat.zero_mul]

/-- append of what is left to the one bit that is next -/
theorem append_rest {ops : Array Oper} {rest : List Oper} {o : Oper} {a : Act} {Q : Exit → Act → World → Prop} {w0 wr : World} {base L R cap : Nat} {v : Value} {ao : Option Addr} {b : Bool} (hgd : o.guard = none) (s x : Operand)
    (ho : o.op = .call { callee := .builtin .append, args := #[s, x], argTypes := #[28, 28] })
    (hs : a.eval s = v) (hx : a.eval x = .slice ao L cap) (hown : wr.ownsRow base 4 1 v 1 (bitsV b.toNat 1)) (hB : Bs ao R L wr) (h1 : 0 < L ∨ (ao = none ∧ L = 0 ∧ cap = 0 ∧ R = 0)) (hL : L ≤ 100000) (hbe : Below base w0 wr) (h0 : base ≤ wr.heap.size)
    (h : ∀ v' w', w'.ownsRow base 4 1 v' (L + 1) (bitsV (2 * R + b.toNat) (L + 1)) → Below base w0 w' → base ≤ w'.heap.size → wpList Try.prog ops Q rest (a.put o.dst v') w') :
    wpList Try.prog ops Q (o :: rest) a wr := by
  obtain ⟨i0, hi, hz0, hz1, hz2⟩ := info_parts Try.info4
  have fin : ∀ v' w', w'.ownsRow base 4 1 v' (1 + L) (bitsV b.toNat 1 ++ bitsV R L) → wr.grownBy w' v.ownBlock → wpList Try.prog ops Q rest (a.put o.dst v') w' := by
    intro v' w' hown' hg
    rw [bitsV_cons, Nat.add_comm 1 L] at hown'
    refine h v' w' hown' (hbe.grown hg h0 (fun k e => (hown.lt k e).1)) ?_
    have := hg.size
    omega
  rcases h1 with h1 | ⟨rfl, rfl, rfl, rfl⟩
  · rcases hB with h2 | ⟨g, rfl, h3, h4⟩
    · omega
    · refine wpList_append_own _ hgd s x 28 ho base 4 i0 (.bool false) 1 1 Try.underlying28 hi hz0 hz1 hz2 rfl (by decide) v 1 _ hs hown ⟨g, 0, none⟩ L cap (bitsV R L) hx (by rw [bitsV_len, Nat.mul_one]) ?_ ?_ (by unfold maxLen; omega) (by omega) h0
        (fun v' w' k1 k2 _ => fin v' w' k1 k2)
      · intro j u hj
        have hjL : j < L := by
          rcases Nat.lt_or_ge j L with h | h
          · exact h
          · rw [List.getElem?_eq_none (by rw [bitsV_len]; exact h)] at hj; cases hj
        rw [bitsV_get R L j hjL] at hj
        cases hj
        have k := h4 j hjL
        by_cases e : j = 0
        · subst e; simpa [Addr.add] using k
        · simpa [Addr.add, e] using k
      · intro u hu
        obtain ⟨i, _, rfl⟩ := List.mem_map.1 hu
        rfl
  · refine wpList_append_own_none hgd s x 28 ho base 4 i0 1 Try.underlying28 hi v 1 _ hs hown hx (h v wr ?_ hbe h0)
    rw [Nat.mul_zero, Nat.zero_add, Nat.zero_add]
    exact hown
end Go.Proofs.Ytiglhgcckceikaa
