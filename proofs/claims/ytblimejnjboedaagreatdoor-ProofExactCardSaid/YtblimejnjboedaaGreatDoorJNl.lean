/- ProofExact's plain facts; append of any list to an empty literal. -/
import Derived.Test.YtblimejnjboedaaGreatDoorJNi
import Derived.Test.YtblimejnjboedaaGreatDoorJNh
import Derived.Laws.AppendOwnNone
namespace Go.Proofs.YtblimejnjboedaaGreatDoor
open Go.RowKit Go.Sort

section
variable {n : Nat} {P : List Nat} {E R : List (List UInt8)} (hm : mayP n P = true) (hE : E.length = P.length) (h32 : ∀ x ∈ R, x.length = 32) (hz : R.length = sizeD P n)
include hm hE h32 hz
theorem root_more {N : (List UInt8)} (hN : N.length = 32) : rootV n P E (R ++ [N]) = ([], 3) := by
  rw [root_size hm hE (all32_mk fun x hx => by
    rcases List.mem_append.1 hx with h | h
    · exact h32 x h
    · simp at h; subst h; exact hN) (by rw [List.length_append, List.length_singleton]; omega), List.length_append, List.length_singleton]
  rw [sizeE, if_neg (by omega), if_pos (by omega)]
theorem root_less {k : Nat} (hk : k < R.length) : rootV n P E (R.take k ++ R.drop (k + 1)) = ([], 4) := by
  have hl : (R.take k ++ R.drop (k + 1)).length = R.length - 1 := by rw [List.length_append, List.length_take, List.length_drop]; omega
  rw [root_size hm hE (all32_mk fun x hx => by
    rcases List.mem_append.1 hx with h | h
    · exact h32 x (List.mem_of_mem_take h)
    · exact h32 x (List.mem_of_mem_drop h)) (by rw [hl]; omega), hl]
  rw [sizeE, if_pos (by omega)]
omit hz in
theorem root_cut {k : Nat} (hk : k < R.length) : rootV n P E (R.set k (R[k].take 31)) = ([], 5) :=
  root_form hm hE (all32_no (x := R[k].take 31) (List.mem_set hk _) (by rw [List.length_take, h32 _ (List.getElem_mem hk)]; decide))
end
theorem step_append_own {P : Program} {w : World} {ops : Array Oper} {o : Oper} {a : Act} {K : Act → World → Prop} {Q : Exit → Act → World → Prop} {E : Prop} (hgd : o.guard = none) (s x : Operand) (t : TypeId)
    (ho : o.op = .call { callee := .builtin .append, args := #[s, x], argTypes := #[t, t] })
    (base : Nat) (e : TypeId) (i : TypeInfo) (z : Value) (size bytes : Nat) (ht : P.underlying t = some (.slice e)) (hi : P.info? e = some i) (hz : i.zero = some z)
    (hsize : i.size = size) (hby : i.bytes = bytes) (hzs : z.cells.size = size) (hsz : 0 < size)
    (v : Value) (n : Nat) (xs : List Value) (hs : a.eval s = v) (hown : w.ownsRow base e size v n xs)
    (ad : Addr) (m c : Nat) (news : List Value) (hx : a.eval x = .slice (some ad) m c) (hl : news.length = m * size) (hnews : ∀ j u, news[j]? = some u → w.cell? (ad.add j) = some u) (h1 : ∀ u ∈ news, u.oneCell' = true)
    (h63 : n + m ≤ maxLen) (hbytes : (n + m) * bytes ≤ 140737488355328) (hbase : base ≤ w.heap.size)
    (h : ∀ v' w', w'.ownsRow base e size v' (n + m) (xs ++ news) → w.grownBy w' v.ownBlock → (v' = .slice none 0 0 ↔ v = .slice none 0 0 ∧ m = 0) → K (a.put o.dst v') w') :
    if Region.wanted o (yielded ops a.tmps) = true then Oper.wp P o a w K Q else E := by
  have hw : Region.wanted o (yielded ops a.tmps) = true := by simp [Region.wanted, hgd]
  rw [if_pos hw]
  exact wp_append_own w s x t ho base e i z size bytes ht hi hz hsize hby hzs hsz v n xs hs hown ad m c news hx hl hnews h1 h63 hbytes hbase h
/-- append of any list to an empty literal -/
theorem append_any {ops : Array Oper} {rest : List Oper} {o : Oper} {a : Act} {Q : Exit → Act → World → Prop} {wr : World} {X : List (List UInt8)} {ao : Option Addr} {cap B : Nat} (hgd : o.guard = none) (s x : Operand)
    (ho : o.op = .call { callee := .builtin .append, args := #[s, x], argTypes := #[23, 23] })
    (hs : a.eval s = .slice (some ⟨wr.heap.size, 0, none⟩) 0 0) (hx : a.eval x = .slice ao X.length cap) (hrow : TRow B X (.slice ao X.length cap) wr) (hn : X.length ≤ 100000)
    (h : ∀ v' w', TRow wr.heap.size X v' w' → Below wr.heap.size wr w' → wpList Tryz.prog ops Q rest (a.put o.dst v') w') :
    wpList Tryz.prog ops Q (o :: rest) a (wr.alloc (.cells #[] 9)) := by
  obtain ⟨i0, hi, hz0, hz1, hz2⟩ := info_parts info_str
  have h0 : (wr.alloc (.cells #[] 9)).ownsRow wr.heap.size 9 1 (.slice (some ⟨wr.heap.size, 0, none⟩) 0 0) 0 [] := ⟨rfl, .inr ⟨wr.heap.size, 0, #[], rfl, Nat.le_refl _, heap_alloc_new _ _, Nat.le_refl _, Nat.zero_le _, rfl, rfl⟩⟩
  have hrow0 := hrow
  rcases hrow.2 with ⟨e, hz⟩ | ⟨g, cp, cur, e, _⟩
  · have hX : X = [] := List.length_eq_zero_iff.1 hz
    subst hX
    cases e
    exact wpList_append_own_none hgd s x 23 ho wr.heap.size 9 i0 1 Tryz.underlying23 hi _ 0 [] hs h0 hx (h _ _ h0 (by0 wr _))
  · cases e
    refine wpList_append_own _ hgd s x 23 ho wr.heap.size 9 i0 (.string ⟨#[]⟩) 1 16 Tryz.underlying23 hi hz0 hz1 hz2 rfl (by decide) _ 0 [] hs h0 ⟨g, 0, none⟩ X.length cap (strC X) hx (by rw [strC_len, Nat.mul_one]) ?_ (strC_one X) (by unfold maxLen; omega) (by omega) (by rw [World.size_alloc]; omega) ?_
    · intro j u hu
      have hj : j < X.length := by
        have := (List.getElem?_eq_some_iff.1 hu).1
        rwa [strC_len] at this
      have hc : wr.cell? ⟨g, j, none⟩ = some u := (hrow0.cellAt j (by omega)).trans hu
      rw [Addr.add_mid, Nat.zero_add]
      exact (World.cell?_alloc_lt _ _ _ (World.block_lt_of_cell? wr _ hc)).trans hc
    · intro v' w' hown' hg _
      rw [Nat.zero_add, List.nil_append] at hown'
      exact h v' w' hown' ((by0 wr _).grown hg (by rw [World.size_alloc]; omega) (fun j e => by cases e; exact Nat.le_refl _))
theorem append_any2 {ops : Array Oper} {rest : List Oper} {o : Oper} {a : Act} {Q : Exit → Act → World → Prop} {wr : World} {X : List (List UInt8)} {ao : Option Addr} {n cap B : Nat} (hgd : o.guard = none) (s x : Operand)
    (ho : o.op = .call { callee := .builtin .append, args := #[s, x], argTypes := #[23, 23] })
    (hs : a.eval s = .slice (some ⟨wr.heap.size, 0, none⟩) 0 0) (hnl : n = X.length) (hx : a.eval x = .slice ao n cap) (hrow : TRow B X (.slice ao X.length cap) wr) (hn : X.length ≤ 100000)
    (h : ∀ v' w', TRow wr.heap.size X v' w' → Below wr.heap.size wr w' → wpList Tryz.prog ops Q rest (a.put o.dst v') w') :
    wpList Tryz.prog ops Q (o :: rest) a (wr.alloc (.cells #[] 9)) := by
  subst hnl
  exact append_any hgd s x ho hs hx hrow hn h
end Go.Proofs.YtblimejnjboedaaGreatDoor
