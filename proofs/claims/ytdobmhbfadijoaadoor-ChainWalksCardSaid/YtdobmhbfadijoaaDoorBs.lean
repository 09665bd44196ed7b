/- Lists of texts in new memory. -/
import Derived.Test.YtdobmhbfadijoaaDoorBa
import Derived.Test.YtdobmhbfadijoaaDoorBd
import Derived.Laws.AppendOwn
import Derived.Laws.OwnMore
namespace Go.Proofs.YtdobmhbfadijoaaDoor
open Go.RowKit

theorem info_str : (Tryd.prog.info? 9).map (fun i => (i.zero, i.size, i.bytes)) = some (some (.string ⟨#[]⟩), 1, 16) := by kernel_rfl
def strC (L : List (List UInt8)) : List Value := L.map fun x => Value.string ⟨x.toArray⟩
theorem strC_get {L : List (List UInt8)} {i : Nat} (h : i < L.length) : (strC L)[i]? = some (.string ⟨L[i].toArray⟩) := by simp [strC, h]
theorem strC_len (L : List (List UInt8)) : (strC L).length = L.length := by simp [strC]
theorem strC_one (L : List (List UInt8)) : ∀ v ∈ strC L, v.oneCell' = true := by
  intro v hv
  obtain ⟨x, _, rfl⟩ := List.mem_map.1 hv
  rfl
/-- a list in new memory -/
def FewP (L : List (List UInt8)) (lo : Nat) (ao : Option Addr) (cp : Nat) (w : World) : Prop := (L = [] ∧ ao = none ∧ cp = 0) ∨ (L ≠ [] ∧ ∃ g cs, ao = some ⟨g, 0, none⟩ ∧ lo ≤ g ∧ w.heap[g]? = some (Obj.cells cs 9 (0, 0)) ∧ L.length ≤ cp ∧ ∀ i (h : i < L.length), cs[i]? = some (.string ⟨L[i].toArray⟩))
theorem FewP.strs {L : List (List UInt8)} {lo : Nat} {ao : Option Addr} {cp : Nat} {w : World} (h : FewP L lo ao cp w) : Strs ao L w := by
  rcases h with ⟨rfl, _⟩ | ⟨_, g, cs, rfl, _, h, _, hc⟩
  · exact .inl rfl
  · refine .inr ⟨g, 0, rfl, lit_lt h, fun i hi => ?_⟩
    rw [Nat.zero_add, lit_cell h]
    exact hc i hi
theorem FewP.below {L : List (List UInt8)} {lo : Nat} {ao : Option Addr} {cp : Nat} {w w' : World} (h : FewP L lo ao cp w) (hb : Below w.heap.size w w') : FewP L lo ao cp w' := by
  rcases h with h | ⟨h0, g, cs, e, h1, h2, h3, h4⟩
  · exact .inl h
  · exact .inr ⟨h0, g, cs, e, h1, (hb.block g (lit_lt h2)).trans h2, h3, h4⟩
theorem FewP.two {L : List (List UInt8)} {lo : Nat} {ao : Option Addr} {cp : Nat} {w : World} (h : FewP L lo ao cp w) : (L = [] ∧ ao = none ∧ cp = 0) ∨ (L ≠ [] ∧ Strs ao L w) := by
  rcases h with h | ⟨h0, h1⟩
  · exact .inl h
  · exact .inr ⟨h0, FewP.strs (lo := lo) (cp := cp) (.inr ⟨h0, h1⟩)⟩
theorem few_of_row {L : List (List UInt8)} {lo : Nat} {v : Value} {w : World} (ho : w.ownsRow lo 9 1 v L.length (strC L)) (hne : L ≠ []) : ∃ ao cp, v = .slice ao L.length cp ∧ FewP L lo ao cp w := by
  have hz := List.length_pos_iff.2 hne
  obtain ⟨h1, ⟨rfl, h3⟩ | ⟨g, cp, cur, rfl, h3, h4, h5, h6, h7⟩⟩ := ho
  · omega
  · refine ⟨_, cp, rfl, .inr ⟨hne, g, cur, rfl, h3, h4, h5, fun i hi => ?_⟩⟩
    have e : (cur.toList.take (L.length * 1))[i]? = (strC L)[i]? := by rw [h7.2]
    rw [List.getElem?_take_of_lt (by omega), Array.getElem?_toList] at e
    rw [e]
    exact strC_get hi
theorem strs_of_row {L : List (List UInt8)} {lo : Nat} {v : Value} {w : World} (ho : w.ownsRow lo 9 1 v L.length (strC L)) : ∃ ao cp, v = .slice ao L.length cp ∧ Strs ao L w := by
  by_cases hne : L = []
  · subst hne
    obtain ⟨h1, ⟨rfl, h3⟩ | ⟨g, cp, cur, rfl, _⟩⟩ := ho
    · exact ⟨none, 0, rfl, .inl rfl⟩
    · exact ⟨_, cp, rfl, .inl rfl⟩
  · obtain ⟨ao, cp, h1, h2⟩ := few_of_row ho hne
    exact ⟨ao, cp, h1, h2.strs⟩
theorem extract_take (X : (List UInt8)) (m : Nat) : (∃ k : Nat, min (X.length : Int) (m : Int) = (k : Int) ∧ k ≤ X.length ∧ (⟨X.toArray⟩ : ByteArray).extract 0 k = ⟨(X.take m).toArray⟩) := by
  refine ⟨min X.length m, by omega, by omega, ?_⟩
  rw [extract_list, List.drop_zero]
  congr 2
  by_cases h : X.length ≤ m
  · rw [Nat.min_eq_left h, List.take_of_length_le (Nat.le_refl _), List.take_of_length_le h]
  · rw [Nat.min_eq_right (by omega)]
/-- the first k texts, the first m bytes of each -/
def cutBy (L : List (List UInt8)) (k m : Nat) : List (List UInt8) := (L.take k).map (·.take m)
theorem cutBy_len (L : List (List UInt8)) (k m : Nat) : (cutBy L k m).length ≤ k ∧ (cutBy L k m).length ≤ L.length := by rw [cutBy, List.length_map, List.length_take]; omega
theorem cutBy_short (L : List (List UInt8)) (k m i : Nat) (h : i < (cutBy L k m).length) : (cutBy L k m)[i].length ≤ m := by
  simp only [cutBy, List.getElem_map, List.length_take]
  omega
theorem cutBy_snoc (L : List (List UInt8)) (k m : Nat) (X : (List UInt8)) (h : k < L.length) (hX : L[k] = X) : strC (cutBy L k m) ++ [.string ⟨(X.take m).toArray⟩] = strC (cutBy L (k + 1) m) := by
  subst hX
  rw [cutBy, cutBy, List.take_succ_eq_append_getElem h, List.map_append, strC, strC, List.map_append]
  rfl
theorem strs_cap_of_row {L : List (List UInt8)} {lo : Nat} {v : Value} {w : World} (ho : w.ownsRow lo 9 1 v L.length (strC L)) : ∃ ao cp, v = .slice ao L.length cp ∧ Strs ao L w ∧ L.length ≤ cp := by
  obtain ⟨ao, cp, rfl, h⟩ := strs_of_row ho
  refine ⟨ao, cp, rfl, h, ?_⟩
  obtain ⟨_, ⟨h2, h3⟩ | ⟨g, c, cur, e, _, _, h5, _⟩⟩ := ho
  · omega
  · cases e; exact h5
end Go.Proofs.YtdobmhbfadijoaaDoor
