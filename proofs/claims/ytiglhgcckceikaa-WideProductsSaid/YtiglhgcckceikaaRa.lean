/- Lists of bits in memory, as the document's answer has them: of a number the lowest bits, the lowest first. -/
import Derived.Test.YtiglhgcckceikaaWm
import Derived.Test.YtiglhgcckceikaaWf
import Derived.WalkKit
import Derived.Deep.RegionHeld3
namespace Go.Proofs.Ytiglhgcckceikaa
open Go.RowKit

theorem Try.info4 : (Try.prog.info? 4).map (fun i => (i.zero, i.size, i.bytes)) = some (some (.bool false), 1, 1) := by kernel_rfl
/-- the slice at ao holds the lowest n bits of x -/
def Bs (ao : Option Addr) (x n : Nat) (w : World) : Prop := n = 0 ∨ ∃ b, ao = some ⟨b, 0, none⟩ ∧ b < w.heap.size ∧ ∀ i, i < n → w.cell? ⟨b, i, none⟩ = some (.bool (x.testBit i))
theorem Bs.below {ao : Option Addr} {x n : Nat} {w w' : World} {B : Nat} (h : Bs ao x n w) (hb : Below B w w') (hB : w.heap.size ≤ B) : Bs ao x n w' := by
  rcases h with h | ⟨b, h1, h2, h3⟩
  · exact .inl h
  · exact .inr ⟨b, h1, by have := hb.size; omega, fun i hi => (hb.cell (p := ⟨b, i, none⟩) (by show b < B; omega)).trans (h3 i hi)⟩
theorem Bs.drew {ao : Option Addr} {x n : Nat} {w : World} (h : Bs ao x n w) : Bs ao x n w.drew := h
theorem Bs.cell {ao : Option Addr} {x n : Nat} {w : World} (h : Bs ao x n w) (k : Nat) (hk : k < n) : ∃ b, ao = some ⟨b, 0, none⟩ ∧ w.cell? ⟨b, k, none⟩ = some (.bool (x.testBit k)) := by
  rcases h with h | ⟨b, h1, _, h3⟩
  · omega
  · exact ⟨b, h1, h3 k hk⟩
def bitsV (x n : Nat) : List Value := (List.range n).map fun i => .bool (x.testBit i)
theorem bitsV_snoc (x k : Nat) : bitsV x k ++ [.bool (x.testBit k)] = bitsV x (k + 1) := by
  rw [bitsV, bitsV, List.range_succ, List.map_append]; rfl
theorem bitsV_len (x n : Nat) : (bitsV x n).length = n := by rw [bitsV, List.length_map, List.length_range]
theorem bitsV_get (x n i : Nat) (h : i < n) : (bitsV x n)[i]? = some (.bool (x.testBit i)) := by
  rw [bitsV, List.getElem?_map, List.getElem?_range h]; rfl
theorem Bs.of_own {w : World} {base : Nat} {v : Value} {x n : Nat} (h : w.ownsRow base 4 1 v n (bitsV x n)) : ∃ ao cap, v = .slice ao n cap ∧ n ≤ cap ∧ Bs ao x n w := by
  have h0 := h
  rcases h.2 with ⟨rfl, rfl⟩ | ⟨g, cap, cur, rfl, h1, h2, h3, h4, h5, h6⟩
  · exact ⟨none, 0, rfl, Nat.le_refl _, .inl rfl⟩
  · exact ⟨_, cap, rfl, h3, .inr ⟨g, rfl, (Array.getElem?_eq_some_iff.1 h2).1, fun i hi => (h0.cellAt i (by omega)).trans (bitsV_get x n i hi)⟩⟩
theorem one_new {wr wa : World} {v : Value} (hc : wa.cell? ⟨wr.heap.size, 0, none⟩ = some v) : ∀ (j : Nat) (u : Value), [v][j]? = some u → wa.cell? ((⟨wr.heap.size, 0, none⟩ : Addr).add j) = some u := by
  intro j u hj
  match j, hj with
  | 0, hj => simp at hj; subst hj; simpa [Addr.add] using hc

/-- append of one bit to the bits of X that lie so far -/
theorem append_bit {ops : Array Oper} {rest : List Oper} {o : Oper} {a : Act} {Q : Exit → Act → World → Prop} {w0 wr : World} {base n X : Nat} {v : Value} {c : Bool} (hgd : o.guard = none) (s x : Operand)
    (ho : o.op = .call { callee := .builtin .append, args := #[s, x], argTypes := #[28, 28] })
    (hs : a.eval s = v) (hx : a.eval x = .slice (some ⟨wr.heap.size, 0, none⟩) 1 1) (hown : wr.ownsRow base 4 1 v n (bitsV X n)) (hc : c = X.testBit n) (hn : n ≤ 100000) (hbe : Below base w0 wr) (h0 : base ≤ wr.heap.size)
    (h : ∀ v' w', w'.ownsRow base 4 1 v' (n + 1) (bitsV X (n + 1)) → Below base w0 w' → base ≤ w'.heap.size → wpList Try.prog ops Q rest (a.put o.dst v') w') :
    wpList Try.prog ops Q (o :: rest) a (wr.alloc (.cells #[.bool c] 4)) := by
  obtain ⟨i0, hi, hz0, hz1, hz2⟩ := info_parts Try.info4
  refine wpList_append_own _ hgd s x 28 ho base 4 i0 (.bool false) 1 1 Try.underlying28 hi hz0 hz1 hz2 rfl (by decide) v n _ hs (hown.alloc _) ⟨wr.heap.size, 0, none⟩ 1 1 [.bool c] hx rfl ?_ ?_ (by unfold maxLen; omega) (by omega) (by rw [World.size_alloc]; omega) ?_
  · exact one_new ((arow_cell (heap_alloc_new wr _) 0).trans rfl)
  · intro u hu; simp at hu; subst hu; rfl
  · intro v' w' hown' hg _
    rw [hc, bitsV_snoc] at hown'
    refine h v' w' hown' ((hbe.alloc h0 _).grown hg (by rw [World.size_alloc]; omega) (fun k e => (hown.lt k e).1)) ?_
    have := hg.size
    rw [World.size_alloc] at this
    omega

theorem mod_succ (x k : Nat) : x % 2 ^ (k + 1) = x % 2 ^ k + 2 ^ k * (x.testBit k).toNat := by
  rw [Nat.pow_succ, Nat.mod_mul, Nat.toNat_testBit]
/-- a bit of a list; none below its beginning -/
def tb (x : Nat) (i : Int) : Bool := decide (0 ≤ i) && x.testBit i.toNat
theorem tb_nat (x k : Nat) : tb x (k : Int) = x.testBit k := by simp [tb]
theorem tb_neg (x : Nat) (i : Int) (h : i < 0) : tb x i = false := by rw [tb, decide_eq_false (by omega), Bool.false_and]

set_option maxRecDepth 100000 in
set_option maxHeartbeats 1000000 in
theorem bit_any (ao : Option Addr) (cap x n : Nat) (i : Int) (w : World) (hx : x < 2 ^ n) (hB : Bs ao x n w) :
    Calls Try.prog 36 #[.slice ao n cap, .int .i64 i] w fun e w' => e = .returned (.bool (tb x i)) ∧ w' = w := by
  by_cases h0 : 0 ≤ i
  · obtain ⟨k, rfl⟩ := Int.eq_ofNat_of_zero_le h0
    rw [tb_nat]
    by_cases h1 : k < n
    · obtain ⟨b, rfl, hc⟩ := hB.cell k h1
      obtain ⟨bx, hbx⟩ : ∃ bx, x.testBit k = bx := ⟨_, rfl⟩
      rw [hbx] at hc ⊢
      clear hbx hB hx
      have h2 : (k : Int) < (n : Int) := by omega
      go_enter Try.func36, Try.ntmps36
      go_wp2
      go_ret
      exact ⟨rfl, rfl⟩
    · have hf : x.testBit k = false := Nat.testBit_lt_two_pow (Nat.lt_of_lt_of_le hx (Nat.pow_le_pow_right (by decide) (by omega)))
      rw [hf]
      have h2 : ¬ (k : Int) < (n : Int) := by omega
      clear hB hx hf
      go_enter Try.func36, Try.ntmps36
      go_wp2
      go_ret
      exact ⟨rfl, rfl⟩
  · rw [tb_neg x i (by omega)]
    clear hB hx
    go_enter Try.func36, Try.ntmps36
    go_wp2
    go_ret
    exact ⟨rfl, rfl⟩
end Go.Proofs.Ytiglhgcckceikaa
