/- Rows of ints: append of some. -/
import Derived.Test.YtdobmhbfadijoaaDoorEa
import Derived.Deep.AppendLies
import Derived.OwnWalk
namespace Go.Proofs.YtdobmhbfadijoaaDoor
open Go.RowKit

theorem info_int : (Tryd.prog.info? 3).map (fun i => (i.zero, i.size, i.bytes)) = some (some (.int .i64 0), 1, 8) := by kernel_rfl
def intC (X : List Nat) : List Value := X.map fun n : Nat => Value.int .i64 (n : Int)
theorem intC_len (X : List Nat) : (intC X).length = X.length := List.length_map ..
theorem intC_one (X : List Nat) : ∀ u ∈ intC X, u.oneCell' = true := by
  intro u hu
  obtain ⟨n, _, rfl⟩ := List.mem_map.1 hu
  rfl
abbrev IRow (B : Nat) (X : List Nat) (v : Value) (w : World) : Prop := w.ownsRow B 3 1 v X.length (intC X)
theorem irow_nil (B : Nat) (w : World) : IRow B [] (.slice none 0 0) w := World.ownsRow_nil _ _ _ _
theorem ints_new (w : World) (l : List Value) (t : TypeId) : ∀ j u, l[j]? = some u → (w.alloc (.cells l.toArray t)).cell? ((⟨w.heap.size, 0, none⟩ : Addr).add j) = some u := by
  intro j u h
  rw [Addr.add_mid, Nat.zero_add, World.cell?_alloc_at (hn := rfl)]
  simpa using h
/-- append of some ints -/
theorem append_ints {ops : Array Oper} {rest : List Oper} {o : Oper} {a : Act} {Q : Exit → Act → World → Prop} {wr : World} {base : Nat} {X Y : List Nat} {v : Value} {n : Nat} (hgd : o.guard = none) (s x : Operand)
    (ho : o.op = .call { callee := .builtin .append, args := #[s, x], argTypes := #[23, 23] })
    (hs : a.eval s = v) (hx : a.eval x = .slice (some ⟨wr.heap.size, 0, none⟩) n n) (hY : Y.length = n) (h0n : 0 < n) (hown : IRow base X v wr) (hn : X.length ≤ 100000) (hm : n ≤ 100000) (h0 : base ≤ wr.heap.size)
    (h : ∀ g cp w', IRow base (X ++ Y) (.slice (some ⟨g, 0, none⟩) (X.length + n) cp) w' → wr.grownBy w' v.ownBlock → (v.ownBlock = some g ∨ wr.heap.size ≤ g) → wpList Tryd.prog ops Q rest (a.put o.dst (.slice (some ⟨g, 0, none⟩) (X.length + n) cp)) w') :
    wpList Tryd.prog ops Q (o :: rest) a (wr.alloc (.cells (intC Y).toArray 3)) := by
  subst hY
  obtain ⟨i0, hi, hz0, hz1, hz2⟩ := info_parts info_int
  refine wpList_append_lies _ hgd s x 23 ho base 3 i0 (.int .i64 0) 1 8 Tryd.underlying23 hi hz0 hz1 hz2 rfl (by decide) v X.length _ hs (hown.alloc _) ⟨wr.heap.size, 0, none⟩ Y.length Y.length (intC Y) hx (by rw [intC_len, Nat.mul_one]) (ints_new wr _ _) (intC_one Y) h0n (by unfold maxLen; omega) (by omega) (by rw [World.size_alloc]; omega) (wr.heap.size + 1) (by rw [World.size_alloc]) ?_
  intro g cp w' hown' hg hat hgl
  refine h g cp w' ?_ (((World.grownBy_alloc wr _ none).but v.ownBlock).andThen hg fun j e => .inr e) (hat.imp id fun e => by omega)
  rw [IRow, List.length_append, intC, List.map_append]
  exact hown'
theorem irow_next {B : Nat} {X : List Nat} {v : Value} {w w' : World} (h : IRow B X v w) (hb : Below w.heap.size w w') : IRow B X v w' := by
  obtain ⟨h1, h2⟩ := h
  refine ⟨h1, ?_⟩
  rcases h2 with h | ⟨g, cap, cur, a, b, c, d⟩
  · exact .inl h
  · exact .inr ⟨g, cap, cur, a, b, (hb.block g (lit_lt c)).trans c, d⟩
theorem irow_ints {B n : Nat} {X : List Nat} {v : Value} {w : World} (h : IRow B X v w) (hn : X.length = n) : ∃ ao cp, v = .slice ao n cp ∧ Ints ao X w ∧ n ≤ cp := by
  subst hn
  obtain ⟨_, ⟨rfl, e⟩ | ⟨g, cap, cur, rfl, _, hg0, hc1, _, _, hc4⟩⟩ := h
  · have e0 : X = [] := List.eq_nil_of_length_eq_zero e
    subst e0
    exact ⟨none, 0, rfl, .inl rfl, Nat.le_refl _⟩
  · refine ⟨some ⟨g, 0, none⟩, cap, rfl, .inr ⟨g, 0, rfl, lit_lt hg0, fun i hi => ?_⟩, hc1⟩
    rw [lit_cell hg0, Nat.zero_add]
    have e2 : (cur.toList.take (X.length * 1))[i]? = some (.int .i64 (X[i] : Int)) := by
      rw [hc4, intC, List.getElem?_map, List.getElem?_eq_getElem hi]; rfl
    rw [List.getElem?_take_of_lt (by omega), Array.getElem?_toList] at e2
    exact e2
end Go.Proofs.YtdobmhbfadijoaaDoor
