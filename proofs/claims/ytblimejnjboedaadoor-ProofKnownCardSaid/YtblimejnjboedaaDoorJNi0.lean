/- Rows of texts: append of one. -/
import Derived.Test.YtblimejnjboedaaDoorJNb
import Derived.Deep.AppendLies
namespace Go.Proofs.YtblimejnjboedaaDoor
open Go.RowKit Go.Sort

abbrev TRow (B : Nat) (X : List (List UInt8)) (v : Value) (w : World) : Prop := w.ownsRow B 9 1 v X.length (strC X)
theorem trow_nil (B : Nat) (w : World) : TRow B [] (.slice none 0 0) w := World.ownsRow_nil _ _ _ _
/-- append of one text -/
theorem append_txt {ops : Array Oper} {rest : List Oper} {o : Oper} {a : Act} {Q : Exit → Act → World → Prop} {wr : World} {base : Nat} {X : List (List UInt8)} {v : Value} {t : (List UInt8)} (hgd : o.guard = none) (s x : Operand)
    (ho : o.op = .call { callee := .builtin .append, args := #[s, x], argTypes := #[23, 23] })
    (hs : a.eval s = v) (hx : a.eval x = .slice (some ⟨wr.heap.size, 0, none⟩) 1 1) (hown : TRow base X v wr) (hn : X.length ≤ 100000) (h0 : base ≤ wr.heap.size)
    (h : ∀ g cp w', TRow base (X ++ [t]) (.slice (some ⟨g, 0, none⟩) (X.length + 1) cp) w' → wr.grownBy w' v.ownBlock → (v.ownBlock = some g ∨ wr.heap.size ≤ g) → wpList Tryd.prog ops Q rest (a.put o.dst (.slice (some ⟨g, 0, none⟩) (X.length + 1) cp)) w') :
    wpList Tryd.prog ops Q (o :: rest) a (wr.alloc (.cells #[.string ⟨t.toArray⟩] 9)) := by
  obtain ⟨i0, hi, hz0, hz1, hz2⟩ := info_parts info_str
  refine wpList_append_lies _ hgd s x 23 ho base 9 i0 (.string ⟨#[]⟩) 1 16 Tryd.underlying23 hi hz0 hz1 hz2 rfl (by decide) v X.length _ hs (hown.alloc _) ⟨wr.heap.size, 0, none⟩ 1 1 [.string ⟨t.toArray⟩] hx rfl (cell_one_new _ _ _) ?_ (by omega) (by unfold maxLen; omega) (by omega) (by rw [World.size_alloc]; omega) (wr.heap.size + 1) (by rw [World.size_alloc]) ?_
  · intro u hu; simp at hu; subst hu; rfl
  · intro g cp w' hown' hg hat hgl
    refine h g cp w' ?_ (((World.grownBy_alloc wr _ none).but v.ownBlock).andThen hg fun j e => .inr e) (hat.imp id fun e => by omega)
    rw [TRow, List.length_append, strC, List.map_append]
    exact hown'
theorem trow_next {B : Nat} {X : List (List UInt8)} {v : Value} {w w' : World} (h : TRow B X v w) (hb : Below w.heap.size w w') : TRow B X v w' := own_kept (S := fun _ => True) h ⟨hb.os, hb.tape, hb.output, hb.size, fun j hj _ => hb.block j hj⟩ (fun _ _ => trivial)
theorem trow_strs {B n : Nat} {X : List (List UInt8)} {ao : Option Addr} {cp : Nat} {w : World} (h : TRow B X (.slice ao n cp) w) (hn : n = X.length) : Strs ao X w ∧ X.length ≤ cp := by
  subst hn
  obtain ⟨a, c, e, h1, h2⟩ := strs_cap_of_row h
  cases e
  exact ⟨h1, h2⟩
end Go.Proofs.YtblimejnjboedaaDoor
