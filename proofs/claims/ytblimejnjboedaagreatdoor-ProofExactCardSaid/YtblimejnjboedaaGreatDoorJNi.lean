/- Rows of texts that grow beside one another, and are written to. -/
import Derived.Test.YtblimejnjboedaaGreatDoorJNb
import Derived.Test.YtblimejnjboedaaGreatDoorJ32
import Derived.Deep.AppendLies
namespace Go.Proofs.YtblimejnjboedaaGreatDoor
open Go.RowKit Go.Sort

abbrev TRow (B : Nat) (X : List (List UInt8)) (v : Value) (w : World) : Prop := w.ownsRow B 9 1 v X.length (strC X)
theorem trow_nil (B : Nat) (w : World) : TRow B [] (.slice none 0 0) w := World.ownsRow_nil _ _ _ _
/-- append of one text -/
theorem append_txt {ops : Array Oper} {rest : List Oper} {o : Oper} {a : Act} {Q : Exit → Act → World → Prop} {wr : World} {base : Nat} {X : List (List UInt8)} {v : Value} {t : (List UInt8)} (hgd : o.guard = none) (s x : Operand)
    (ho : o.op = .call { callee := .builtin .append, args := #[s, x], argTypes := #[23, 23] })
    (hs : a.eval s = v) (hx : a.eval x = .slice (some ⟨wr.heap.size, 0, none⟩) 1 1) (hown : TRow base X v wr) (hn : X.length ≤ 100000) (h0 : base ≤ wr.heap.size)
    (h : ∀ g cp w', TRow base (X ++ [t]) (.slice (some ⟨g, 0, none⟩) (X.length + 1) cp) w' → wr.grownBy w' v.ownBlock → (v.ownBlock = some g ∨ wr.heap.size ≤ g) → wpList Tryz.prog ops Q rest (a.put o.dst (.slice (some ⟨g, 0, none⟩) (X.length + 1) cp)) w') :
    wpList Tryz.prog ops Q (o :: rest) a (wr.alloc (.cells #[.string ⟨t.toArray⟩] 9)) := by
  obtain ⟨i0, hi, hz0, hz1, hz2⟩ := info_parts info_str
  refine wpList_append_lies _ hgd s x 23 ho base 9 i0 (.string ⟨#[]⟩) 1 16 Tryz.underlying23 hi hz0 hz1 hz2 rfl (by decide) v X.length _ hs (hown.alloc _) ⟨wr.heap.size, 0, none⟩ 1 1 [.string ⟨t.toArray⟩] hx rfl (cell_one_new _ _ _) ?_ (by omega) (by unfold maxLen; omega) (by omega) (by rw [World.size_alloc]; omega) (wr.heap.size + 1) (by rw [World.size_alloc]) ?_
  · intro u hu; simp at hu; subst hu; rfl
  · intro g cp w' hown' hg hat hgl
    refine h g cp w' ?_ (((World.grownBy_alloc wr _ none).but v.ownBlock).andThen hg fun j e => .inr e) (hat.imp id fun e => by omega)
    rw [TRow, List.length_append, strC, List.map_append]
    exact hown'
/-- append of a list that is not empty, to an empty literal -/
theorem append_all {ops : Array Oper} {rest : List Oper} {o : Oper} {a : Act} {Q : Exit → Act → World → Prop} {wr : World} {X : List (List UInt8)} {b off cap : Nat} (hgd : o.guard = none) (s x : Operand)
    (ho : o.op = .call { callee := .builtin .append, args := #[s, x], argTypes := #[23, 23] })
    (hs : a.eval s = .slice (some ⟨wr.heap.size, 0, none⟩) 0 0) (hx : a.eval x = .slice (some ⟨b, off, none⟩) X.length cap) (hc : ∀ i (h : i < X.length), wr.cell? ⟨b, off + i, none⟩ = some (.string ⟨X[i].toArray⟩)) (hX : 0 < X.length) (hn : X.length ≤ 100000)
    (h : ∀ g cp w', TRow wr.heap.size X (.slice (some ⟨g, 0, none⟩) X.length cp) w' → Below wr.heap.size wr w' → g < w'.heap.size → wpList Tryz.prog ops Q rest (a.put o.dst (.slice (some ⟨g, 0, none⟩) X.length cp)) w') :
    wpList Tryz.prog ops Q (o :: rest) a (wr.alloc (.cells #[] 9)) := by
  obtain ⟨i0, hi, hz0, hz1, hz2⟩ := info_parts info_str
  have h0 : (wr.alloc (.cells #[] 9)).ownsRow wr.heap.size 9 1 (.slice (some ⟨wr.heap.size, 0, none⟩) 0 0) 0 [] := ⟨rfl, .inr ⟨wr.heap.size, 0, #[], rfl, Nat.le_refl _, heap_alloc_new _ _, Nat.le_refl _, Nat.zero_le _, rfl, rfl⟩⟩
  refine wpList_append_lies _ hgd s x 23 ho wr.heap.size 9 i0 (.string ⟨#[]⟩) 1 16 Tryz.underlying23 hi hz0 hz1 hz2 rfl (by decide) _ 0 [] hs h0 ⟨b, off, none⟩ X.length cap (strC X) hx (by rw [strC_len, Nat.mul_one]) ?_ (strC_one X) hX (by unfold maxLen; omega) (by omega) (by rw [World.size_alloc]; omega) (wr.heap.size + 1) (by rw [World.size_alloc]) ?_
  · intro j u hu
    have hj : j < X.length := by
      have := (List.getElem?_eq_some_iff.1 hu).1
      rwa [strC_len] at this
    rw [strC_get hj] at hu
    cases hu
    rw [Addr.add_mid]
    exact (World.cell?_alloc_lt _ _ _ (World.block_lt_of_cell? wr _ (hc j hj))).trans (hc j hj)
  · intro g cp w' hown' hg hat hgl
    rw [Nat.zero_add, List.nil_append] at hown'
    rw [Nat.zero_add]
    exact h g cp w' hown' ((by0 wr _).grown hg (by rw [World.size_alloc]; omega) (fun j e => by cases e; exact Nat.le_refl _)) hgl
theorem row_set {w : World} {base g cp i : Nat} {X : List (List UInt8)} {t : (List UInt8)} (h : TRow base X (.slice (some ⟨g, 0, none⟩) X.length cp) w) :
    TRow base (X.set i t) (.slice (some ⟨g, 0, none⟩) X.length cp) (w.setCell ⟨g, i, none⟩ (.string ⟨t.toArray⟩)) := by
  rcases h.2 with ⟨e, _⟩ | ⟨g', cp', cur, e, h1, h2, h3, h4, h5, h6⟩
  · cases e
  · cases e
    refine ⟨by simp [strC], .inr ⟨g, cp, cur.setIfInBounds i (.string ⟨t.toArray⟩), by rw [List.length_set], h1, lit_set _ h2, by rw [List.length_set]; exact h3, h4, by simp [h5], ?_⟩⟩
    rw [Array.toList_setIfInBounds, List.take_set, List.length_set, h6]
    simp [strC, List.map_set]
/-- two rows lie in blocks of their own -/
theorem trow_beside {B : Nat} {X : List (List UInt8)} {u v : Value} {w w' : World} (h : TRow B X u w) (d : ∀ b, v.ownBlock = some b → u.ownBlock ≠ some b) (hg : w.grownBy w' v.ownBlock) : TRow B X u w' := by
  refine h.kept hg ?_
  cases hu : u.ownBlock with
  | none => exact .inl rfl
  | some c => exact .inr fun e => d c e.symm hu
end Go.Proofs.YtblimejnjboedaaGreatDoor
