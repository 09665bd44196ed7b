/- What DomApart needs: the few parts, where they lie; frames that were cut elsewhere are unlike. -/
import Derived.Test.YtmhmcfaalpcngaaDoorVh
import Derived.Laws.AppendOwnNone
namespace Go.Proofs.YtmhmcfaalpcngaaDoor
open Go.RowKit

/-- texts that a call laid itself: nil, or a row from a block's beginning on -/
def StrsN (ao : Option Addr) (cp : Nat) (TS : List (List UInt8)) (w : World) : Prop :=
  (TS = [] ∧ ao = none ∧ cp = 0) ∨ TS ≠ [] ∧ ∃ g, ao = some ⟨g, 0, none⟩ ∧ g < w.heap.size ∧ TS.length ≤ cp ∧ ∀ i (h : i < TS.length), w.cell? ⟨g, i, none⟩ = some (.string ⟨TS[i].toArray⟩)
theorem StrsN.strs {ao : Option Addr} {cp : Nat} {TS : List (List UInt8)} {w : World} (h : StrsN ao cp TS w) : Strs ao TS w := by
  rcases h with ⟨h, _, _⟩ | ⟨_, g, h1, h2, h3, h4⟩
  · exact .inl h
  · exact .inr ⟨g, 0, h1, h2, fun i hi => by rw [Nat.zero_add]; exact h4 i hi⟩
theorem StrsN.below {ao : Option Addr} {cp B : Nat} {TS : List (List UInt8)} {w w' : World} (h : StrsN ao cp TS w) (hB : w.heap.size ≤ B) (hb : Below B w w') : StrsN ao cp TS w' := by
  rcases h with h | ⟨h0, g, h1, h2, h3, h4⟩
  · exact .inl h
  · exact .inr ⟨h0, g, h1, by have := hb.size; omega, h3, fun i hi => (hb.cell (p := ⟨g, i, none⟩) (by show g < B; omega)).trans (h4 i hi)⟩
theorem StrsN.cell {ao : Option Addr} {cp : Nat} {TS : List (List UInt8)} {w : World} (h : StrsN ao cp TS w) (k : Nat) (hk : k < TS.length) : ∃ g, ao = some ⟨g, 0, none⟩ ∧ w.cell? ⟨g, k, none⟩ = some (.string ⟨TS[k].toArray⟩) := by
  rcases h with ⟨h, _, _⟩ | ⟨_, g, h1, h2, h3, h4⟩
  · subst h; simp at hk
  · exact ⟨g, h1, h4 k hk⟩
theorem strsN_of_owns {w : World} {B n : Nat} {v : Value} {TS : List (List UInt8)} (h : w.ownsRow B 9 1 v n (strCells TS)) (hn : TS.length = n) (hne : TS ≠ []) : ∃ ao cp, v = .slice ao n cp ∧ StrsN ao cp TS w := by
  obtain ⟨h1, h2⟩ := h
  rcases h2 with ⟨rfl, rfl⟩ | ⟨g, cap, cur, rfl, hg, hh, h3, _, _, hc⟩
  · exact ⟨none, 0, rfl, .inl ⟨List.eq_nil_of_length_eq_zero hn, rfl, rfl⟩⟩
  · refine ⟨_, cap, rfl, .inr ⟨hne, g, rfl, (Array.getElem?_eq_some_iff.1 hh).1, by omega, fun i hi => ?_⟩⟩
    have e : (cur.toList.take (n * 1))[i]? = (strCells TS)[i]? := by rw [hc]
    rw [List.getElem?_take, if_pos (by omega), Array.getElem?_toList] at e
    rw [cell_of_row w g i cur 9 _ hh, e]
    simp [strCells, hi]
theorem fewN_any (ao : Option Addr) (cap : Nat) (L : List (List UInt8)) (w : World) (hL : L.length ≤ maxLen) (hl : ∀ i (h : i < L.length), L[i].length ≤ maxLen) (hs : Strs ao L w) :
    Calls Tryd.prog 7 #[.slice ao L.length cap] w fun e w' => ∃ ao' cp, e = .returned (.slice ao' (fewTo L 8).length cp) ∧ StrsN ao' cp (fewTo L 8) w' ∧ Below w.heap.size w w' := by
  by_cases h0 : L = []
  · subst h0
    exact (few_none ao cap w).mono fun e w' ⟨he, hw⟩ => ⟨none, 0, he, .inl ⟨rfl, rfl, rfl⟩, hw ▸ Below.refl _ _⟩
  · rcases hs with h | ⟨b, off, rfl, hb, hc⟩
    · exact absurd h h0
    · refine (few_some b off cap L w hL hl hb hc).mono fun e w' ⟨v, he, ho, hB⟩ => ?_
      obtain ⟨ao', cp, rfl, hr⟩ := strsN_of_owns ho rfl (by cases L with | nil => exact absurd rfl h0 | cons _ _ => simp [fewTo])
      exact ⟨ao', cp, he, hr, hB⟩

theorem strs_one (X : World) (N : Nat) (Z : Array Value) (s : List UInt8) (hN : X.heap.size = N) : Strs (some ⟨N, 0, none⟩) [s] (X.alloc (.cells (#[.string ⟨s.toArray⟩] ++ Z) 9)).drew := by
  subst hN
  refine .inr ⟨_, 0, rfl, by simp, fun i hi => ?_⟩
  obtain rfl : i = 0 := by simpa using hi
  rw [World.cell?_drew, cell_of_row _ _ _ _ 9 _ (heap_alloc_new X _), Array.getElem?_append_left (by simp)]
  rfl

theorem frameL_none (TS : List (List UInt8)) : frameL [] TS = [] := by rw [frameL, if_neg (by decide)]
theorem hashL_none (TS : List (List UInt8)) : hashL [] TS = [] := by rw [hashL, if_neg (by decide)]

/-- a part more is another frame -/
theorem framed_more (tag : List UInt8) (TS : List (List UInt8)) : (framed tag (TS ++ [[]]) == framed tag TS) = false := by
  rw [beq_eq_false_iff_ne]
  intro e
  have h := congrArg List.length e
  have h2 := framed_len tag (TS ++ [[]]) TS.length (by simp)
  rw [List.take_left' rfl, List.take_of_length_le (by simp)] at h2
  omega
theorem framed_cons (tag X : List UInt8) (TS : List (List UInt8)) : framed tag (X :: TS) = UInt8.ofNat tag.length :: (tag ++ (numL X.length ++ (X ++ TS.flatMap partL))) := by
  rw [framed, List.flatMap_cons, partL, List.append_assoc]
/-- the same bytes, cut elsewhere -/
theorem framed_cut (tag X Y : List UInt8) (TS : List (List UInt8)) (k : Nat) (hk : k ≤ X.length + Y.length) (hX : X.length < 18446744073709551616) (hkb : k < 18446744073709551616) :
    (framed tag ((X ++ Y).take k :: (X ++ Y).drop k :: TS) == framed tag (X :: Y :: TS)) = ((k : Int) == (X.length : Int)) := by
  by_cases h : k = X.length
  · subst h
    rw [List.take_left' rfl, List.drop_left' rfl]
    simp
  · have h2 : ((k : Int) == (X.length : Int)) = false := by rw [beq_eq_false_iff_ne]; omega
    rw [h2, beq_eq_false_iff_ne]
    intro e
    rw [framed_cons, framed_cons, List.cons.injEq] at e
    have e2 := List.append_cancel_left e.2
    have hl : ((X ++ Y).take k).length = k := by rw [List.length_take, List.length_append]; omega
    have e3 := (List.append_inj e2 (by rw [numL_length, numL_length])).1
    rw [hl] at e3
    exact h (numL_inj hkb hX e3)

/-- append, as one step of a region that draws -/
theorem step_append_own {P : Program} {w : World} {ops : Array Oper} {o : Oper} {a : Act} {K : Act → World → Prop} {Q : Exit → Act → World → Prop} {E : Prop} (hgd : o.guard = none) (s x : Operand) (t : TypeId)
    (ho : o.op = .call { callee := .builtin .append, args := #[s, x], argTypes := #[t, t] })
    (base : Nat) (e : TypeId) (i : TypeInfo) (z : Value) (size bytes : Nat) (ht : P.underlying t = some (.slice e)) (hi : P.info? e = some i) (hz : i.zero = some z)
    (hsize : i.size = size) (hby : i.bytes = bytes) (hzs : z.cells.size = size) (hsz : 0 < size)
    (v : Value) (n : Nat) (xs : List Value) (hs : a.eval s = v) (hown : w.ownsRow base e size v n xs)
    (ad : Addr) (m c : Nat) (news : List Value) (hx : a.eval x = .slice (some ad) m c) (hl : news.length = m * size) (hnews : ∀ j u, news[j]? = some u → w.cell? (ad.add j) = some u) (h1 : ∀ u ∈ news, u.oneCell' = true)
    (h63 : n + m ≤ maxLen) (hbytes : (n + m) * bytes ≤ 140737488355328) (hbase : base ≤ w.heap.size)
    (h : ∀ v' w', w'.ownsRow base e size v' (n + m) (xs ++ news) → w.grownBy w' v.ownBlock → (v' = .slice none 0 0 ↔ v = .slice none 0 0 ∧ m = 0) → K (a.put o.dst v') w') :
    if Region.wanted o (yielded ops a.tmps) = true then Oper.wp P o a w K Q else E := by
  have hw : Region.wanted o (yielded ops a.tmps) = true := by simp [Region.wanted, hgd]
  rw [if_pos hw]
  exact wp_append_own w s x t ho base e i z size bytes ht hi hz hsize hby hzs hsz v n xs hs hown ad m c news hx hl hnews h1 h63 hbytes hbase h
end Go.Proofs.YtmhmcfaalpcngaaDoor
