/- Lists of texts in new memory. -/
import Derived.Test.YtmnklonoelpidaaGreatDoorJ1
import Derived.Test.YtmnklonoelpidaaGreatDoorJ7
import Derived.Laws.AppendOwn
import Derived.Laws.OwnMore
import Derived.Deep.AppendLies
import Derived.OwnWalk
import Derived.Maps.RangeWalk
import Derived.Deep.RegionLaw
import Derived.Laws.IdiomStrings
import Derived.Deep.Cut
namespace Go.Proofs.YtmnklonoelpidaaGreatDoor
open Go.RowKit

theorem info_str : (Tryz.prog.info? 9).map (fun i => (i.zero, i.size, i.bytes)) = some (some (.string ⟨#[]⟩), 1, 16) := by kernel_rfl
def strC (L : List (List UInt8)) : List Value := L.map fun x => Value.string ⟨x.toArray⟩
theorem strC_get {L : List (List UInt8)} {i : Nat} (h : i < L.length) : (strC L)[i]? = some (.string ⟨L[i].toArray⟩) := by simp [strC, h]
theorem strC_len (L : List (List UInt8)) : (strC L).length = L.length := by simp [strC]
theorem strC_one (L : List (List UInt8)) : ∀ v ∈ strC L, v.oneCell' = true := by
  intro v hv
  obtain ⟨x, _, rfl⟩ := List.mem_map.1 hv
  rfl
/-- a list in new memory -/
def FewP (L : List (List UInt8)) (lo : Nat) (ao : Option Addr) (cp : Nat) (w : World) : Prop := (L = [] ∧ ao = none ∧ cp = 0) ∨ (L ≠ [] ∧ ∃ g cs, ao = some ⟨g, 0, none⟩ ∧ lo ≤ g ∧ w.heap[g]? = some (Obj.cells cs 9 (0, 0)) ∧ L.length ≤ cp ∧ ∀ i (h : i < L.length), cs[i]? = some (.string ⟨L[i].toArray⟩))
theorem FewP.strs {L : List (List UInt8)} {lo : Nat} {ao : Option Addr} {cp : Nat} {w : World} (h : FewP L lo ao cp w) : Strs ao L w := by
  rcases h with ⟨rfl, _⟩ | ⟨_, g, cs, rfl, _, h, _, hc⟩
  · exact .inl rfl
  · refine .inr ⟨g, 0, rfl, lit_lt h, fun i hi => ?_⟩
    rw [Nat.zero_add, lit_cell h]
    exact hc i hi
theorem FewP.below {L : List (List UInt8)} {lo : Nat} {ao : Option Addr} {cp : Nat} {w w' : World} (h : FewP L lo ao cp w) (hb : Below w.heap.size w w') : FewP L lo ao cp w' := by
  rcases h with h | ⟨h0, g, cs, e, h1, h2, h3, h4⟩
  · exact .inl h
  · exact .inr ⟨h0, g, cs, e, h1, (hb.block g (lit_lt h2)).trans h2, h3, h4⟩
theorem few_of_row {L : List (List UInt8)} {lo : Nat} {v : Value} {w : World} (ho : w.ownsRow lo 9 1 v L.length (strC L)) (hne : L ≠ []) : ∃ ao cp, v = .slice ao L.length cp ∧ FewP L lo ao cp w := by
  have hz := List.length_pos_iff.2 hne
  obtain ⟨h1, ⟨rfl, h3⟩ | ⟨g, cp, cur, rfl, h3, h4, h5, h6, h7⟩⟩ := ho
  · omega
  · refine ⟨_, cp, rfl, .inr ⟨hne, g, cur, rfl, h3, h4, h5, fun i hi => ?_⟩⟩
    have e : (cur.toList.take (L.length * 1))[i]? = (strC L)[i]? := by rw [h7.2]
    rw [List.getElem?_take_of_lt (by omega), Array.getElem?_toList] at e
    rw [e]
    exact strC_get hi
theorem strs_of_row {L : List (List UInt8)} {lo : Nat} {v : Value} {w : World} (ho : w.ownsRow lo 9 1 v L.length (strC L)) : ∃ ao cp, v = .slice ao L.length cp ∧ Strs ao L w := by
  by_cases hne : L = []
  · subst hne
    obtain ⟨h1, ⟨rfl, h3⟩ | ⟨g, cp, cur, rfl, _⟩⟩ := ho
    · exact ⟨none, 0, rfl, .inl rfl⟩
    · exact ⟨_, cp, rfl, .inl rfl⟩
  · obtain ⟨ao, cp, h1, h2⟩ := few_of_row ho hne
    exact ⟨ao, cp, h1, h2.strs⟩
theorem strs_cap_of_row {L : List (List UInt8)} {lo : Nat} {v : Value} {w : World} (ho : w.ownsRow lo 9 1 v L.length (strC L)) : ∃ ao cp, v = .slice ao L.length cp ∧ Strs ao L w ∧ L.length ≤ cp := by
  obtain ⟨ao, cp, rfl, h⟩ := strs_of_row ho
  refine ⟨ao, cp, rfl, h, ?_⟩
  obtain ⟨_, ⟨h2, h3⟩ | ⟨g, c, cur, e, _, _, h5, _⟩⟩ := ho
  · omega
  · cases e; exact h5
end Go.Proofs.YtmnklonoelpidaaGreatDoor
/- Rows of texts: append of one. -/
namespace Go.Proofs.YtmnklonoelpidaaGreatDoor
open Go.RowKit

abbrev TRow (B : Nat) (X : List (List UInt8)) (v : Value) (w : World) : Prop := w.ownsRow B 9 1 v X.length (strC X)
theorem trow_nil (B : Nat) (w : World) : TRow B [] (.slice none 0 0) w := World.ownsRow_nil _ _ _ _
/-- append of one text -/
theorem append_txt {ops : Array Oper} {rest : List Oper} {o : Oper} {a : Act} {Q : Exit → Act → World → Prop} {wr : World} {base : Nat} {X : List (List UInt8)} {v : Value} {t : (List UInt8)} (hgd : o.guard = none) (s x : Operand)
    (ho : o.op = .call { callee := .builtin .append, args := #[s, x], argTypes := #[41, 41] })
    (hs : a.eval s = v) (hx : a.eval x = .slice (some ⟨wr.heap.size, 0, none⟩) 1 1) (hown : TRow base X v wr) (hn : X.length ≤ 100000) (h0 : base ≤ wr.heap.size)
    (h : ∀ g cp w', TRow base (X ++ [t]) (.slice (some ⟨g, 0, none⟩) (X.length + 1) cp) w' → wr.grownBy w' v.ownBlock → (v.ownBlock = some g ∨ wr.heap.size ≤ g) → wpList Tryz.prog ops Q rest (a.put o.dst (.slice (some ⟨g, 0, none⟩) (X.length + 1) cp)) w') :
    wpList Tryz.prog ops Q (o :: rest) a (wr.alloc (.cells #[.string ⟨t.toArray⟩] 9)) := by
  obtain ⟨i0, hi, hz0, hz1, hz2⟩ := info_parts info_str
  refine wpList_append_lies _ hgd s x 41 ho base 9 i0 (.string ⟨#[]⟩) 1 16 Tryz.underlying41 hi hz0 hz1 hz2 rfl (by decide) v X.length _ hs (hown.alloc _) ⟨wr.heap.size, 0, none⟩ 1 1 [.string ⟨t.toArray⟩] hx rfl (cell_one_new _ _ _) ?_ (by omega) (by unfold maxLen; omega) (by omega) (by rw [World.size_alloc]; omega) (wr.heap.size + 1) (by rw [World.size_alloc]) ?_
  · intro u hu; simp at hu; subst hu; rfl
  · intro g cp w' hown' hg hat hgl
    refine h g cp w' ?_ (((World.grownBy_alloc wr _ none).but v.ownBlock).andThen hg fun j e => .inr e) (hat.imp id fun e => by omega)
    rw [TRow, List.length_append, strC, List.map_append]
    exact hown'
theorem trow_next {B : Nat} {X : List (List UInt8)} {v : Value} {w w' : World} (h : TRow B X v w) (hb : Below w.heap.size w w') : TRow B X v w' := own_kept (S := fun _ => True) h ⟨hb.os, hb.tape, hb.output, hb.size, fun j hj _ => hb.block j hj⟩ (fun _ _ => trivial)
theorem trow_strs {B n : Nat} {X : List (List UInt8)} {ao : Option Addr} {cp : Nat} {w : World} (h : TRow B X (.slice ao n cp) w) (hn : n = X.length) : Strs ao X w ∧ X.length ≤ cp := by
  subst hn
  obtain ⟨a, c, e, h1, h2⟩ := strs_cap_of_row h
  cases e
  exact ⟨h1, h2⟩
end Go.Proofs.YtmnklonoelpidaaGreatDoor
/- Rows of texts: append of one, as a step of a region that draws. -/
namespace Go.Proofs.YtmnklonoelpidaaGreatDoor
open Go.RowKit

theorem step_append_txt {ops : Array Oper} {o : Oper} {a : Act} {K : Act → World → Prop} {Q : Exit → Act → World → Prop} {E : Prop} {wr : World} {base : Nat} {X : List (List UInt8)} {v : Value} {t : (List UInt8)} (hgd : o.guard = none) (s x : Operand)
    (ho : o.op = .call { callee := .builtin .append, args := #[s, x], argTypes := #[41, 41] })
    (hs : a.eval s = v) (hx : a.eval x = .slice (some ⟨wr.heap.size, 0, none⟩) 1 1) (hown : TRow base X v wr) (hn : X.length ≤ 100000) (h0 : base ≤ wr.heap.size)
    (h : ∀ g cp w', TRow base (X ++ [t]) (.slice (some ⟨g, 0, none⟩) (X.length + 1) cp) w' → wr.grownBy w' v.ownBlock → (v.ownBlock = some g ∨ wr.heap.size ≤ g) → K (a.put o.dst (.slice (some ⟨g, 0, none⟩) (X.length + 1) cp)) w') :
    if Region.wanted o (yielded ops a.tmps) = true then Oper.wp Tryz.prog o a (wr.alloc (.cells #[.string ⟨t.toArray⟩] 9)) K Q else E := by
  obtain ⟨i0, hi, hz0, hz1, hz2⟩ := info_parts info_str
  refine step_append_lies _ hgd s x 41 ho base 9 i0 (.string ⟨#[]⟩) 1 16 Tryz.underlying41 hi hz0 hz1 hz2 rfl (by decide) v X.length _ hs (hown.alloc _) ⟨wr.heap.size, 0, none⟩ 1 1 [.string ⟨t.toArray⟩] hx rfl (cell_one_new _ _ _) ?_ (by omega) (by unfold maxLen; omega) (by omega) (by rw [World.size_alloc]; omega) (wr.heap.size + 1) (by rw [World.size_alloc]) ?_
  · intro u hu; simp at hu; subst hu; rfl
  · intro g cp w' hown' hg hat hgl
    refine h g cp w' ?_ (((World.grownBy_alloc wr _ none).but v.ownBlock).andThen hg fun j e => .inr e) (hat.imp id fun e => by omega)
    rw [TRow, List.length_append, strC, List.map_append]
    exact hown'
end Go.Proofs.YtmnklonoelpidaaGreatDoor
/- Rows of texts: append of a whole list, a store. -/
namespace Go.Proofs.YtmnklonoelpidaaGreatDoor
open Go.RowKit

theorem row_set {w : World} {base g cp i : Nat} {X : List (List UInt8)} {t : (List UInt8)} (h : TRow base X (.slice (some ⟨g, 0, none⟩) X.length cp) w) :
    TRow base (X.set i t) (.slice (some ⟨g, 0, none⟩) X.length cp) (w.setCell ⟨g, i, none⟩ (.string ⟨t.toArray⟩)) := by
  rcases h.2 with ⟨e, _⟩ | ⟨g', cp', cur, e, h1, h2, h3, h4, h5, h6⟩
  · cases e
  · cases e
    refine ⟨by simp [strC], .inr ⟨g, cp, cur.setIfInBounds i (.string ⟨t.toArray⟩), by rw [List.length_set], h1, lit_set _ h2, by rw [List.length_set]; exact h3, h4, by simp [h5], ?_⟩⟩
    rw [Array.toList_setIfInBounds, List.take_set, List.length_set, h6]
    simp [strC, List.map_set]
/-- two rows lie in blocks of their own -/
theorem trow_beside {B : Nat} {X : List (List UInt8)} {u v : Value} {w w' : World} (h : TRow B X u w) (d : ∀ b, v.ownBlock = some b → u.ownBlock ≠ some b) (hg : w.grownBy w' v.ownBlock) : TRow B X u w' := by
  refine h.kept hg ?_
  cases hu : u.ownBlock with
  | none => exact .inl rfl
  | some c => exact .inr fun e => d c e.symm hu
/-- where a row's texts lie -/
theorem trow_at {w : World} {base g n cp : Nat} {X : List (List UInt8)} (h : TRow base X (.slice (some ⟨g, 0, none⟩) n cp) w) : base ≤ g ∧ (∀ i (hi : i < X.length), w.cell? ⟨g, i, none⟩ = some (.string ⟨X[i].toArray⟩)) ∧ (∀ i, w.frozen? ⟨g, i, none⟩ = false) ∧ g < w.heap.size := by
  rcases h.2 with ⟨e, _⟩ | ⟨g', cp', cur, e, h1, h2, h3, h4, h5, h6⟩
  · cases e
  · cases e
    refine ⟨h1, fun i hi => ?_, fun i => lit_free h2 i, lit_lt h2⟩
    have hk := strC_get hi
    rw [← h6, List.getElem?_take_of_lt (by omega), Array.getElem?_toList] at hk
    exact (lit_cell h2 i).trans hk
theorem row_set_n {w : World} {base g cp i n : Nat} {X : List (List UInt8)} {t : (List UInt8)} (hXn : X.length = n) (h : TRow base X (.slice (some ⟨g, 0, none⟩) n cp) w) :
    TRow base (X.set i t) (.slice (some ⟨g, 0, none⟩) n cp) (w.setCell ⟨g, i, none⟩ (.string ⟨t.toArray⟩)) := by
  subst hXn
  exact row_set h
end Go.Proofs.YtmnklonoelpidaaGreatDoor
/- Rows of texts: append of a whole list, and of one to a list of known length, as steps of a region that draws. -/
namespace Go.Proofs.YtmnklonoelpidaaGreatDoor
open Go.RowKit

end Go.Proofs.YtmnklonoelpidaaGreatDoor
/- The tags; digests are short; frames are short; small facts. -/
namespace Go.Proofs.YtmnklonoelpidaaGreatDoor
open Go.RowKit

def leafT : (List UInt8) := [108, 101, 97, 102]
def nodeT : (List UInt8) := [110, 111, 100, 101]
def noneT : (List UInt8) := [110, 111, 110, 101]
theorem hashL_len (tag : (List UInt8)) (L : List (List UInt8)) : (hashL tag L).length ≤ 32 := by
  unfold hashL
  split
  · rw [shaL_length]; omega
  · simp
theorem framed_short (tag : (List UInt8)) (L : List (List UInt8)) (ht : tag.length ≤ 16) (hl : ∀ x ∈ L, x.length ≤ 10000000) (hn : L.length ≤ 100) : (framed tag L).length < 1100000000 := by
  have h1 : ∀ M : List (List UInt8), (∀ x ∈ M, x.length ≤ 10000000) → (M.flatMap partL).length ≤ 10000008 * M.length := by
    intro M
    induction M with
    | nil => simp
    | cons x M ih =>
      intro h
      have hx := h x (by simp)
      have := ih fun y hy => h y (by simp [hy])
      rw [List.flatMap_cons, List.length_append, List.length_cons]
      have hp : (partL x).length = 8 + x.length := by simp [partL, numL_length]
      omega
  have := h1 L hl
  simp only [framed, List.length_cons, List.length_append]
  omega
theorem strs_drew {ao : Option Addr} {L : List (List UInt8)} {w : World} (h : Strs ao L w) : Strs ao L w.drew := h.below (Nat.le_refl _) (Below.refl _ _).drew
theorem below_next {w wz wa : World} (h : Below w.heap.size w wz) (hb : Below wz.heap.size wz wa) : Below w.heap.size w wa := h.trans (hb.mono h.size)
theorem below_alloc {w wz : World} (h : Below w.heap.size w wz) (o : Obj) : Below w.heap.size w (wz.alloc o) := below_next h (by0 wz o)
end Go.Proofs.YtmnklonoelpidaaGreatDoor
/- Hashes of one text, of two; what a walk keeps. -/
namespace Go.Proofs.YtmnklonoelpidaaGreatDoor
open Go.RowKit

theorem hash1_any (tag x : (List UInt8)) (wz : World) (hg : Glob wz) (ht : tag.length ≤ 16) (hx : x.length ≤ 10000000) : Calls Tryz.prog 41 #[.string ⟨tag.toArray⟩, .slice (some ⟨wz.heap.size, 0, none⟩) 1 1] (wz.alloc (.cells #[.string ⟨x.toArray⟩] 9)) fun e w' => e = .returned (.string ⟨(hashL tag [x]).toArray⟩) ∧ Below wz.heap.size wz w' := by
  refine (hash_any tag (some ⟨wz.heap.size, 0, none⟩) 1 [x] _ (hg.below hg.size (by0 wz _)) (strs_new wz [x] _ rfl) (by unfold maxLen; omega) (Nat.lt_of_lt_of_le (framed_short tag [x] ht (by simpa using hx) (by simp)) (by decide))).mono ?_
  rintro e w' ⟨h1, h2⟩
  exact ⟨h1, below_next (by0 wz _) h2⟩
theorem hash2_any (tag x y : (List UInt8)) (wz : World) (hg : Glob wz) (ht : tag.length ≤ 16) (hx : x.length ≤ 10000000) (hy : y.length ≤ 10000000) : Calls Tryz.prog 41 #[.string ⟨tag.toArray⟩, .slice (some ⟨wz.heap.size, 0, none⟩) 2 2] (wz.alloc (.cells #[.string ⟨x.toArray⟩, .string ⟨y.toArray⟩] 9)) fun e w' => e = .returned (.string ⟨(hashL tag [x, y]).toArray⟩) ∧ Below wz.heap.size wz w' := by
  refine (hash_any tag (some ⟨wz.heap.size, 0, none⟩) 2 [x, y] _ (hg.below hg.size (by0 wz _)) (strs_new wz [x, y] _ rfl) (by unfold maxLen; omega) (Nat.lt_of_lt_of_le (framed_short tag [x, y] ht (by intro z hz; simp at hz; rcases hz with rfl | rfl <;> assumption) (by simp)) (by decide))).mono ?_
  rintro e w' ⟨h1, h2⟩
  exact ⟨h1, below_next (by0 wz _) h2⟩
/-- what the law's walks keep -/
structure Wl (w0 wz : World) : Prop where
  g : Glob wz
  o : Below w0.heap.size w0 wz
theorem Wl.next {w0 wz wa : World} (h : Wl w0 wz) (hb : Below wz.heap.size wz wa) : Wl w0 wa := ⟨h.g.below h.g.size hb, below_next h.o hb⟩
end Go.Proofs.YtmnklonoelpidaaGreatDoor
/- Layer 12: a digest's digits, plainly; which of them are less; walks along a chain. -/
namespace Go.Proofs.YtmnklonoelpidaaGreatDoor
open Go.RowKit

/-- the digits of a text's bytes, and of what they lack -/
def hvL (s : (List UInt8)) : List Nat := s.flatMap fun b => [b.toNat / 16, b.toNat % 16]
def lackL (s : (List UInt8)) : Nat := (s.map fun b => 30 - b.toNat / 16 - b.toNat % 16).sum
def digL (s : (List UInt8)) : List Nat := hvL s ++ [lackL s / 256, lackL s / 16 % 16, lackL s % 16]
/-- what Digits answers -/
def digC (s : (List UInt8)) : List Nat := if s.length = 32 then digL s else []
theorem b256 (b : UInt8) : b.toNat < 256 := UInt8.toNat_lt b
theorem hvL_len : ∀ s : (List UInt8), (hvL s).length = 2 * s.length
  | [] => rfl
  | b :: s => by have := hvL_len s; simp only [hvL, List.flatMap_cons, List.length_append, List.length_cons, List.length_nil] at *; omega
theorem digL_len {s : (List UInt8)} (h : s.length = 32) : (digL s).length = 67 := by rw [digL, List.length_append, hvL_len, h]; rfl
theorem lackL_cons (b : UInt8) (s : (List UInt8)) : lackL (b :: s) = (30 - b.toNat / 16 - b.toNat % 16) + lackL s := by rw [lackL, List.map_cons, List.sum_cons, ← lackL]
theorem lackL_le : ∀ s : (List UInt8), lackL s ≤ 30 * s.length
  | [] => by simp [lackL]
  | b :: s => by have := lackL_le s; rw [lackL_cons, List.length_cons]; omega
theorem hvL_le : ∀ s : (List UInt8), ∀ x ∈ hvL s, x ≤ 15
  | [], _, h => by simp [hvL] at h
  | b :: s, x, h => by
    have hb := b256 b
    simp only [hvL, List.flatMap_cons, List.mem_append, List.mem_cons, List.not_mem_nil, or_false] at h
    rcases h with (rfl | rfl) | h
    · omega
    · omega
    · exact hvL_le s x h
theorem digL_le {s : (List UInt8)} (h : s.length = 32) : ∀ x ∈ digL s, x ≤ 15 := by
  have h1 := lackL_le s
  intro x hx
  rw [digL, List.mem_append] at hx
  rcases hx with hx | hx
  · exact hvL_le s x hx
  · simp only [List.mem_cons, List.not_mem_nil, or_false] at hx
    rcases hx with rfl | rfl | rfl <;> omega
/-- a step of a chain; a walk of n steps -/
def chainT : (List UInt8) := [99, 104, 97, 105, 110]
def stepF (i j : Nat) (x : (List UInt8)) : (List UInt8) := hashL chainT [[UInt8.ofNat i], [UInt8.ofNat j], x]
def walkF (i a : Nat) : Nat → (List UInt8) → (List UInt8)
  | 0, x => x
  | n + 1, x => stepF i (a + n) (walkF i a n x)
theorem walkF_add (i a m : Nat) (x : (List UInt8)) : ∀ n, walkF i (a + m) n (walkF i a m x) = walkF i a (m + n) x
  | 0 => rfl
  | n + 1 => by rw [walkF, walkF_add i a m x n, ← Nat.add_assoc m, walkF, Nat.add_assoc]
/-- what Walk answers -/
def walkV (i a b : Int) (x : (List UInt8)) : (List UInt8) := if 0 ≤ i ∧ i ≤ 66 ∧ 0 ≤ a ∧ a ≤ b ∧ b ≤ 15 then walkF i.toNat a.toNat (b.toNat - a.toNat) x else []
theorem walkV_nat (i a b : Nat) (x : (List UInt8)) (hi : i ≤ 66) (ha : a ≤ b) (hb : b ≤ 15) : walkV i a b x = walkF i a (b - a) x := by
  rw [walkV, if_pos (by omega)]; rfl
theorem walkV_two (i a b c : Nat) (x : (List UInt8)) (hi : i ≤ 66) (ha : a ≤ b) (hb : b ≤ c) (hc : c ≤ 15) : walkV i b c (walkV i a b x) = walkV i a c x := by
  rw [walkV_nat i b c _ hi hb hc, walkV_nat i a b _ hi ha (by omega), walkV_nat i a c _ hi (by omega) hc]
  have := walkF_add i a (b - a) x (c - b)
  rw [show a + (b - a) = b by omega, show b - a + (c - b) = c - a by omega] at this
  exact this
theorem walkF_len (i a : Nat) (x : (List UInt8)) (hx : x.length ≤ 10000000) : ∀ n, (walkF i a n x).length ≤ 10000000
  | 0 => hx
  | n + 1 => by
    rw [walkF, stepF]
    have := hashL_len chainT [[UInt8.ofNat i], [UInt8.ofNat (a + n)], walkF i a n x]
    omega
/-- a row of digits in memory -/
def Ints (ao : Option Addr) (L : List Nat) (w : World) : Prop := L = [] ∨ ∃ b off, ao = some ⟨b, off, none⟩ ∧ b < w.heap.size ∧ ∀ i (h : i < L.length), w.cell? ⟨b, off + i, none⟩ = some (.int .i64 (L[i] : Int))
theorem Ints.next {ao : Option Addr} {L : List Nat} {w w' : World} (h : Ints ao L w) (hb : Below w.heap.size w w') : Ints ao L w' := by
  rcases h with h | ⟨b, off, h1, h2, h3⟩
  · exact .inl h
  · exact .inr ⟨b, off, h1, by have := hb.size; omega, fun i hi => (World.cell?_of_block (a := ⟨b, off + i, none⟩) (hb.block b h2)).trans (h3 i hi)⟩
theorem Ints.at {ao : Option Addr} {L : List Nat} {w : World} {k : Nat} (h : Ints ao L w) (hk : k < L.length) : ∃ b off, ao = some ⟨b, off, none⟩ ∧ w.cell? ⟨b, off + k, none⟩ = some (.int .i64 (L[k] : Int)) := by
  rcases h with rfl | ⟨b, off, h1, h2, h3⟩
  · simp at hk
  · exact ⟨b, off, h1, h3 k hk⟩
/-- a byte laid as a text of one -/
theorem conv_one (n : Nat) (hn : n < 256) (w : World) : (convert 64 9 (.slice (some ⟨w.heap.size, 0, none⟩) 1 1)).run Tryz.prog (w.alloc (.cells #[.int .u8 (n : Int)] 5)) = .ok (.string ⟨#[UInt8.ofNat n]⟩) (w.alloc (.cells #[.int .u8 (n : Int)] 5)) := by
  have h := run_convert_bytes_back (P := Tryz.prog) (w.alloc (.cells #[.int .u8 (n : Int)] 5)) 64 9 5 ⟨w.heap.size, 0, none⟩ 1 [UInt8.ofNat n] Tryz.underlying64 Tryz.underlying5 Tryz.underlying9 (oneByte w _ _ (by have h1 := byte_mod n; omega))
  simpa using h
theorem hash3_any (tag x y z : (List UInt8)) (wz : World) (hg : Glob wz) (ht : tag.length ≤ 16) (hx : x.length ≤ 10000000) (hy : y.length ≤ 10000000) (hz : z.length ≤ 10000000) : Calls Tryz.prog 41 #[.string ⟨tag.toArray⟩, .slice (some ⟨wz.heap.size, 0, none⟩) 3 3] (wz.alloc (.cells #[.string ⟨x.toArray⟩, .string ⟨y.toArray⟩, .string ⟨z.toArray⟩] 9)) fun e w' => e = .returned (.string ⟨(hashL tag [x, y, z]).toArray⟩) ∧ Below wz.heap.size wz w' := by
  refine (hash_any tag (some ⟨wz.heap.size, 0, none⟩) 3 [x, y, z] _ (hg.below hg.size (by0 wz _)) (strs_new wz [x, y, z] _ rfl) (by unfold maxLen; omega) (Nat.lt_of_lt_of_le (framed_short tag [x, y, z] ht (by intro u hu; simp at hu; rcases hu with rfl | rfl | rfl <;> assumption) (by simp)) (by decide))).mono ?_
  rintro e w' ⟨h1, h2⟩
  exact ⟨h1, below_next (by0 wz _) h2⟩
theorem hash3_at (tag x y z : (List UInt8)) (wz : World) (sz : Nat) (hsz : sz = wz.heap.size) (hg : Glob wz) (ht : tag.length ≤ 16) (hx : x.length ≤ 10000000) (hy : y.length ≤ 10000000) (hz : z.length ≤ 10000000) : Calls Tryz.prog 41 #[.string ⟨tag.toArray⟩, .slice (some ⟨sz, 0, none⟩) 3 3] (wz.alloc (.cells #[.string ⟨x.toArray⟩, .string ⟨y.toArray⟩, .string ⟨z.toArray⟩] 9)) fun e w' => e = .returned (.string ⟨(hashL tag [x, y, z]).toArray⟩) ∧ Below wz.heap.size wz w' := by
  subst hsz
  exact hash3_any tag x y z wz hg ht hx hy hz
end Go.Proofs.YtmnklonoelpidaaGreatDoor
/- Rows of ints: append of some. -/
namespace Go.Proofs.YtmnklonoelpidaaGreatDoor
open Go.RowKit

theorem info_int : (Tryz.prog.info? 3).map (fun i => (i.zero, i.size, i.bytes)) = some (some (.int .i64 0), 1, 8) := by kernel_rfl
def intC (X : List Nat) : List Value := X.map fun n : Nat => Value.int .i64 (n : Int)
theorem intC_len (X : List Nat) : (intC X).length = X.length := List.length_map ..
theorem intC_one (X : List Nat) : ∀ u ∈ intC X, u.oneCell' = true := by
  intro u hu
  obtain ⟨n, _, rfl⟩ := List.mem_map.1 hu
  rfl
abbrev IRow (B : Nat) (X : List Nat) (v : Value) (w : World) : Prop := w.ownsRow B 3 1 v X.length (intC X)
theorem irow_nil (B : Nat) (w : World) : IRow B [] (.slice none 0 0) w := World.ownsRow_nil _ _ _ _
theorem ints_new (w : World) (l : List Value) (t : TypeId) : ∀ j u, l[j]? = some u → (w.alloc (.cells l.toArray t)).cell? ((⟨w.heap.size, 0, none⟩ : Addr).add j) = some u := by
  intro j u h
  rw [Addr.add_mid, Nat.zero_add, World.cell?_alloc_at (hn := rfl)]
  simpa using h
/-- append of some ints -/
theorem append_ints {ops : Array Oper} {rest : List Oper} {o : Oper} {a : Act} {Q : Exit → Act → World → Prop} {wr : World} {base : Nat} {X Y : List Nat} {v : Value} {n : Nat} (hgd : o.guard = none) (s x : Operand)
    (ho : o.op = .call { callee := .builtin .append, args := #[s, x], argTypes := #[121, 121] })
    (hs : a.eval s = v) (hx : a.eval x = .slice (some ⟨wr.heap.size, 0, none⟩) n n) (hY : Y.length = n) (h0n : 0 < n) (hown : IRow base X v wr) (hn : X.length ≤ 100000) (hm : n ≤ 100000) (h0 : base ≤ wr.heap.size)
    (h : ∀ g cp w', IRow base (X ++ Y) (.slice (some ⟨g, 0, none⟩) (X.length + n) cp) w' → wr.grownBy w' v.ownBlock → (v.ownBlock = some g ∨ wr.heap.size ≤ g) → wpList Tryz.prog ops Q rest (a.put o.dst (.slice (some ⟨g, 0, none⟩) (X.length + n) cp)) w') :
    wpList Tryz.prog ops Q (o :: rest) a (wr.alloc (.cells (intC Y).toArray 3)) := by
  subst hY
  obtain ⟨i0, hi, hz0, hz1, hz2⟩ := info_parts info_int
  refine wpList_append_lies _ hgd s x 121 ho base 3 i0 (.int .i64 0) 1 8 Tryz.underlying121 hi hz0 hz1 hz2 rfl (by decide) v X.length _ hs (hown.alloc _) ⟨wr.heap.size, 0, none⟩ Y.length Y.length (intC Y) hx (by rw [intC_len, Nat.mul_one]) (ints_new wr _ _) (intC_one Y) h0n (by unfold maxLen; omega) (by omega) (by rw [World.size_alloc]; omega) (wr.heap.size + 1) (by rw [World.size_alloc]) ?_
  intro g cp w' hown' hg hat hgl
  refine h g cp w' ?_ (((World.grownBy_alloc wr _ none).but v.ownBlock).andThen hg fun j e => .inr e) (hat.imp id fun e => by omega)
  rw [IRow, List.length_append, intC, List.map_append]
  exact hown'
theorem irow_next {B : Nat} {X : List Nat} {v : Value} {w w' : World} (h : IRow B X v w) (hb : Below w.heap.size w w') : IRow B X v w' := by
  obtain ⟨h1, h2⟩ := h
  refine ⟨h1, ?_⟩
  rcases h2 with h | ⟨g, cap, cur, a, b, c, d⟩
  · exact .inl h
  · exact .inr ⟨g, cap, cur, a, b, (hb.block g (lit_lt c)).trans c, d⟩
theorem irow_ints {B n : Nat} {X : List Nat} {v : Value} {w : World} (h : IRow B X v w) (hn : X.length = n) : ∃ ao cp, v = .slice ao n cp ∧ Ints ao X w ∧ n ≤ cp := by
  subst hn
  obtain ⟨_, ⟨rfl, e⟩ | ⟨g, cap, cur, rfl, _, hg0, hc1, _, _, hc4⟩⟩ := h
  · have e0 : X = [] := List.eq_nil_of_length_eq_zero e
    subst e0
    exact ⟨none, 0, rfl, .inl rfl, Nat.le_refl _⟩
  · refine ⟨some ⟨g, 0, none⟩, cap, rfl, .inr ⟨g, 0, rfl, lit_lt hg0, fun i hi => ?_⟩, hc1⟩
    rw [lit_cell hg0, Nat.zero_add]
    have e2 : (cur.toList.take (X.length * 1))[i]? = some (.int .i64 (X[i] : Int)) := by
      rw [hc4, intC, List.getElem?_map, List.getElem?_eq_getElem hi]; rfl
    rw [List.getElem?_take_of_lt (by omega), Array.getElem?_toList] at e2
    exact e2
end Go.Proofs.YtmnklonoelpidaaGreatDoor
/- The reference's digits. -/
namespace Go.Proofs.YtmnklonoelpidaaGreatDoor
open Go.RowKit

theorem cindex (L : (List UInt8)) (i : Nat) (hi : i < L.length) (w : World) : (Instr.index 9 (.string ⟨L.toArray⟩) (.int .i64 (i : Int))).run Tryz.prog w = .ok (.int .u8 (L[i].toNat : Int)) w := by
  rw [run_index_string w 9 _ _ _ Tryz.underlying9, dif_pos ⟨by omega, by show (i : Int) < (L.length : Int); omega⟩]
  rfl
theorem lackL_take (s : (List UInt8)) (k : Nat) (h : k < s.length) : lackL (s.take (k + 1)) = lackL (s.take k) + (30 - s[k].toNat / 16 - s[k].toNat % 16) := by
  rw [lackL, List.take_succ_eq_append_getElem h, List.map_append, List.sum_append, ← lackL]; simp
theorem hvL_take (s : (List UInt8)) (k : Nat) (h : k < s.length) : hvL (s.take (k + 1)) = hvL (s.take k) ++ [s[k].toNat / 16, s[k].toNat % 16] := by
  rw [hvL, List.take_succ_eq_append_getElem h, List.flatMap_append, ← hvL]; simp
set_option maxRecDepth 100000 in
set_option maxHeartbeats 1000000 in
theorem rdigits_any (s : (List UInt8)) (w : World) :
    Calls Tryz.prog 85 #[.string ⟨s.toArray⟩] w fun e w' => ∃ ao cp, e = .returned (.slice ao (digC s).length cp) ∧ Ints ao (digC s) w' ∧ (digC s).length ≤ cp ∧ Below w.heap.size w w' := by
  by_cases h32 : s.length = 32
  · have HE := Lib.hid (show digC s = digL s from if_pos h32)
    have HL := Lib.hid (digL_len h32)
    rw [HE.out, HL.out]
    have h32i : (s.length : Int) = 32 := by omega
    have HS := Lib.hid h32
    clear h32
    go_enter Tryz.func85, Tryz.ntmps85
    go_wp2
    go_loopw [3, 4, 5, 6, 7] (fun v3 v4 v5 v6 v7 wr => ∃ k : Nat, k ≤ 32 ∧ v5 = .int .i64 (k : Int) ∧ v4 = .int .i64 (lackL (s.take k) : Int) ∧ Hid (IRow w.heap.size (hvL (s.take k)) v3 wr) ∧ Hid (Below w.heap.size w wr)) (fun _ _ v5 _ _ _ => 32 - (intOf v5).toNat)
    case atStart => exact ⟨0, Nat.zero_le _, rfl, rfl, Lib.hid (irow_nil _ _), Lib.hid (Below.refl _ _)⟩
    case round =>
      obtain ⟨k, hk, rfl, rfl, HI, HB⟩ := hrel
      by_cases hlt : k < 32
      · have k1 : (k : Int) < 32 := by omega
        have k0 : (0 : Int) ≤ (k : Int) := by omega
        have hks : k < s.length := by have := HS.out; omega
        have HT := Lib.hid (lackL_take s k hks)
        have HV := Lib.hid (hvL_take s k hks)
        have hix := fun w => cindex s k hks w
        have hb := b256 s[k]
        have hsum : lackL (s.take k) ≤ 960 := by
          have := lackL_le (s.take k)
          rw [List.length_take] at this
          omega
        have HLN := Lib.hid (show (hvL (s.take k)).length ≤ 64 by rw [hvL_len, List.length_take]; omega)
        generalize s[k].toNat = b at *
        generalize lackL (s.take k) = S at *
        generalize hvL (s.take k) = X at *
        obtain ⟨h, hh⟩ : ∃ h, h = b / 16 := ⟨_, rfl⟩
        obtain ⟨l, hl⟩ : ∃ l, l = b % 16 := ⟨_, rfl⟩
        have e1 : (b : Int) / 16 = (h : Int) := by omega
        have e2 : (b : Int) % 16 = (l : Int) := by omega
        have h1 : h ≤ 15 := by omega
        have l1 : l ≤ 15 := by omega
        rw [← hh, ← hl] at HT HV
        clear hh hl hb
        go_wp2
        go_quiet (fail)
        have HB := Lib.hid (below_next HB.out (by0q _ nq))
        have HI := Lib.hid (irow_next HI.out (by0q _ nq))
        generalize wr.drewN nq = wr at *
        go_wp2_with (at_builtin; refine append_ints (Y := [h, l]) rfl _ _ rfl rfl rfl rfl (by decide) HI.out (by have := HLN.out; omega) (by decide) HB.out.size ?_; intro g5 c5 w5 ho5 hg5 _; have HO5 := Lib.hid ho5; have HB5 := Lib.hid (HB.out.grown hg5 HB.out.size (fun j e => (HI.out.lt j e).1)); clear ho5 hg5)
        go_roundw
        case rel => exact ⟨k + 1, by omega, by go_num, by rw [HT.out]; go_num, Lib.hid (by rw [HV.out]; exact HO5.out), HB5⟩
        case measure => simp [intOf]; omega
      · have k1 : ¬ (k : Int) < 32 := by omega
        have ek : k = s.length := by have := HS.out; omega
        subst ek
        rw [List.take_length] at HI
        rw [List.take_length]
        have hsum := lackL_le s
        have HD := Lib.hid (show digL s = hvL s ++ [lackL s / 256, lackL s / 16 % 16, lackL s % 16] from rfl)
        have HLN := Lib.hid (show (hvL s).length = 64 by rw [hvL_len]; have := HS.out; omega)
        have h32' := HS.out
        generalize lackL s = S at *
        generalize hvL s = X at *
        obtain ⟨t, ht⟩ : ∃ t, t = S / 256 := ⟨_, rfl⟩
        obtain ⟨u, hu⟩ : ∃ u, u = S / 16 % 16 := ⟨_, rfl⟩
        obtain ⟨v, hv⟩ : ∃ v, v = S % 16 := ⟨_, rfl⟩
        have e1 : (S : Int) / 256 = (t : Int) := by omega
        have e2 : (S : Int) / 16 % 16 = (u : Int) := by omega
        have e3 : (S : Int) % 16 = (v : Int) := by omega
        have hsum2 : S ≤ 960 := by omega
        rw [← ht, ← hu, ← hv] at HD
        clear ht hu hv hsum hlt hk
        go_wp2_with (at_builtin; refine append_ints (Y := [t, u, v]) rfl _ _ rfl rfl rfl rfl (by decide) HI.out (by have := HLN.out; omega) (by decide) HB.out.size ?_; intro g5 c5 w5 ho5 hg5 _; have HO5 := Lib.hid ho5; have HB5 := Lib.hid (HB.out.grown hg5 HB.out.size (fun j e => (HI.out.lt j e).1)); clear ho5 hg5)
        obtain ⟨ao, cp, e, hi, hc⟩ := irow_ints (n := 67) HO5.out (by rw [List.length_append, HLN.out]; rfl)
        rw [HLN.out] at e
        refine bodyPost_ret (v := .slice (some ⟨g5, 0, none⟩) 67 c5) (by simp [results, Tryz.results85, go_sem, HLN.out]) rfl ?_
        exact ⟨ao, cp, by rw [← e], by rw [HD.out]; exact hi, hc, HB5.out⟩
  · have HE := Lib.hid (show digC s = [] from if_neg h32)
    rw [HE.out]
    have h32i : ¬ (s.length : Int) = 32 := by omega

    go_enter Tryz.func85, Tryz.ntmps85
    go_wp2
    exact bodyPost_ret (v := .slice none 0 0) (by simp [results, Tryz.results85, go_sem]) rfl ⟨none, 0, rfl, .inl rfl, Nat.le_refl _, Below.refl _ _⟩
end Go.Proofs.YtmnklonoelpidaaGreatDoor
/- What the program's digits and walk are to do, as a hypothesis of the laws' walks. -/
namespace Go.Proofs.YtmnklonoelpidaaGreatDoor
open Go.RowKit

theorem Ints.get {ao : Option Addr} {L : List Nat} {w : World} (h : Ints ao L w) (hl : 0 < L.length) : ∃ b off, ao = some ⟨b, off, none⟩ ∧ ∀ k x : Nat, L[k]? = some x → w.cell? ⟨b, off + k, none⟩ = some (.int .i64 (x : Int)) := by
  rcases h with rfl | ⟨b, off, h1, h2, h3⟩
  · simp at hl
  · refine ⟨b, off, h1, fun k x hx => ?_⟩
    obtain ⟨hk, rfl⟩ := List.getElem?_eq_some_iff.1 hx
    exact h3 k hk
structure ChainC : Prop where
  d : ∀ (s : (List UInt8)) (w : World), Glob w → s.length ≤ maxLen → Calls Tryz.prog 83 #[.string ⟨s.toArray⟩] w fun e w' => ∃ ao cp, e = .returned (.slice ao (digC s).length cp) ∧ Ints ao (digC s) w' ∧ Below w.heap.size w w'
  k : ∀ (i a b : Int) (x : (List UInt8)) (w : World), Glob w → x.length ≤ 10000000 → Calls Tryz.prog 94 #[.int .i64 i, .int .i64 a, .int .i64 b, .string ⟨x.toArray⟩] w fun e w' => e = .returned (.string ⟨(walkV i a b x).toArray⟩) ∧ Below w.heap.size w w'
end Go.Proofs.YtmnklonoelpidaaGreatDoor
/- Bytes in a block, made and laid as a text. -/
namespace Go.Proofs.YtmnklonoelpidaaGreatDoor
open Go.RowKit

def bytesC (L : (List UInt8)) : List Value := L.map fun b : UInt8 => Value.int .u8 (b.toNat : Int)
theorem info_byte : (Tryz.prog.info? 5).map (fun i => (i.zero, i.size, i.bytes)) = some (some (.int .u8 0), 1, 1) := by kernel_rfl
theorem made_bytes (n : Nat) : madeCells (Value.int .u8 0).cells n = (bytesC (List.replicate n 0)).toArray := by
  refine Array.ext (by simp [madeCells, bytesC, Value.cells]) ?_
  intro i h1 h2
  simp [madeCells, bytesC, Value.cells, Nat.mod_one]
theorem make_bytes (n : Nat) (hn : n ≤ 100000) (w : World) : (Instr.makeSlice 64 (.int .i64 (n : Int)) (.int .i64 (n : Int))).run Tryz.prog w = .ok (.slice (some ⟨w.heap.size, 0, none⟩) n n) (w.alloc (.cells (bytesC (List.replicate n 0)).toArray 5)) := by
  obtain ⟨i0, hi, hz0, hz1, hz2⟩ := info_parts info_byte
  have h := run_make (P := Tryz.prog) w 64 5 i0 (.int .u8 0) Tryz.underlying64 hi hz0 .i64 .i64 (n : Int) (n : Int) (by omega) (by omega) (by rw [hz2]; omega) (by omega)
  rw [h, hz1, Int.toNat_natCast, Nat.mul_one, made_bytes]
/-- what is in a block of bytes, as a text -/
theorem conv_bytes (L : (List UInt8)) (b cap : Nat) (w : World) (h : ∀ j (hj : j < L.length), w.cell? ⟨b, j, none⟩ = some (.int .u8 (L[j].toNat : Int))) : (convert 64 9 (.slice (some ⟨b, 0, none⟩) L.length cap)).run Tryz.prog w = .ok (.string ⟨L.toArray⟩) w :=
  run_convert_bytes_back (P := Tryz.prog) w 64 9 5 ⟨b, 0, none⟩ cap L Tryz.underlying64 Tryz.underlying5 Tryz.underlying9 (fun j hj => by rw [Addr.add_mid, Nat.zero_add]; exact h j hj)
theorem bytes_cell {L : (List UInt8)} {b : Nat} {t : TypeId} {w : World} (h : w.heap[b]? = some (.cells (bytesC L).toArray t (0, 0))) (j : Nat) (hj : j < L.length) : w.cell? ⟨b, j, none⟩ = some (.int .u8 (L[j].toNat : Int)) := by
  rw [lit_cell h]
  simp [bytesC, hj]
end Go.Proofs.YtmnklonoelpidaaGreatDoor
/- One byte in a block, laid as a text in whatever world; three texts. -/
namespace Go.Proofs.YtmnklonoelpidaaGreatDoor
open Go.RowKit

theorem conv_at (v n : Nat) (w : World) (h : w.cell? ⟨n, 0, none⟩ = some (.int .u8 (v : Int))) (hv : v < 256) : (convert 64 9 (.slice (some ⟨n, 0, none⟩) 1 1)).run Tryz.prog w = .ok (.string ⟨#[UInt8.ofNat v]⟩) w := by
  have := conv_bytes [UInt8.ofNat v] n 1 w (fun j hj => by
    have e : j = 0 := by simpa using hj
    subst e
    rw [h]
    have h1 := byte_mod v
    simp only [List.getElem_cons_zero]
    congr 2
    omega)
  simpa using this
theorem cell_new1 (wz : World) (v : Value) (t : TypeId) : (wz.alloc (.cells #[v] t)).cell? ⟨wz.heap.size, 0, none⟩ = some v := (lit_cell (heap_alloc_new wz _) 0).trans rfl
theorem cell_new2 (wz : World) (o : Obj) (v : Value) (t : TypeId) : ((wz.alloc o).alloc (.cells #[v] t)).cell? ⟨wz.heap.size + 1, 0, none⟩ = some v := by
  have := cell_new1 (wz.alloc o) v t
  rwa [World.size_alloc] at this
theorem cell_old1 (wz : World) (o : Obj) (v : Value) (t : TypeId) : ((wz.alloc (.cells #[v] t)).alloc o).cell? ⟨wz.heap.size, 0, none⟩ = some v := (lit_cell (lit_old o (heap_alloc_new wz _)) 0).trans rfl
theorem cell_drew1 (wz : World) (a : Addr) : wz.drew.cell? a = wz.cell? a := rfl
theorem keep_cells {W w8 : World} (hb : Below W.heap.size W w8) (n : Nat) (h : n < W.heap.size) : w8.cell? ⟨n, 0, none⟩ = W.cell? ⟨n, 0, none⟩ := World.cell?_of_block (hb.block _ h)
theorem below_drew {w wz : World} (h : Below w.heap.size w wz) : Below w.heap.size w wz.drew := below_next h (Below.refl _ _).drew
end Go.Proofs.YtmnklonoelpidaaGreatDoor
