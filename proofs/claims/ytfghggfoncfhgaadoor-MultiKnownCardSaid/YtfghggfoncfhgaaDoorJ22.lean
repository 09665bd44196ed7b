/- A table of texts under numbers; a level's needed digests, taken in order. -/
import Derived.Test.YtfghggfoncfhgaaDoorJ1
import Derived.Test.YtfghggfoncfhgaaDoorJ8
import Derived.Test.YtfghggfoncfhgaaDoorJ17
import Derived.Maps.OwnOps
namespace Go.Proofs.YtfghggfoncfhgaaDoor
open Go.RowKit Go.Sort Go.WideShapes Go.MapKept
open Go.Maps (Keyed)

/-- how an element of one text reads -/
def txtElem : Value → Option (DataW Unit × List MemPlace)
  | .agg cs => match cs.toList with
    | [.string s] => some (.lit (.string s.data.toList), [])
    | _ => none
  | _ => none
theorem txtElem_mk (X : (List UInt8)) : txtElem (.agg #[.string ⟨X.toArray⟩]) = some (.lit (.string X), []) := by simp [txtElem]
theorem txtElem_inv {v : Value} {X : (List UInt8)} {ps : List MemPlace} (h : txtElem v = some (.lit (.string X), ps)) : v = .agg #[.string ⟨X.toArray⟩] := by
  unfold txtElem at h
  cases v <;> simp at h
  rename_i cs
  rcases cs with ⟨l⟩
  rcases l with _ | ⟨a, _ | ⟨b, l⟩⟩ <;> simp at h
  · cases a <;> simp at h
    obtain ⟨h1, _⟩ := h
    subst h1
    simp
/-- block b is a table of the texts h, of the numbers of K alone -/
def TabS (b n : Nat) (h : Nat → (List UInt8)) (K : List Nat) (w : World) : Prop :=
  ∃ D : DataW Unit, w.ownsMap Tryd.prog 23 txtElem b n D ∧ ∀ k : Nat, Maps.has D (lit k) = decide (k ∈ K) ∧ D.atKey (lit k) (.lit (.string [])) = .lit (.string (if k ∈ K then h k else []))
theorem TabS.made (h : Nat → (List UInt8)) (w : World) : TabS w.heap.size 0 h [] (w.alloc (.map #[] 0)) :=
  ⟨.map [], World.ownsMap_made w _ _ _, fun k => by simp [Maps.has_eq, DataW.atKey]⟩
theorem TabS.kept {b n : Nat} {h : Nat → (List UInt8)} {K : List Nat} {w w' : World} {row : Option Nat} (t : TabS b n h K w) (hg : w.grownBy w' row) (hr : some b ≠ row) : TabS b n h K w' := by
  obtain ⟨D, h1, h2⟩ := t
  exact ⟨D, h1.kept hg hr, h2⟩
theorem TabS.next {b n : Nat} {h : Nat → (List UInt8)} {K : List Nat} {w w' : World} (t : TabS b n h K w) (hb : Below w.heap.size w w') : TabS b n h K w' :=
  t.kept (row := none) ⟨hb.os, hb.tape, hb.output, hb.size, fun j hj _ => hb.block j hj⟩ (by simp)
theorem TabS.lt {b n : Nat} {h : Nat → (List UInt8)} {K : List Nat} {w : World} (t : TabS b n h K w) : b < w.heap.size := by
  obtain ⟨D, h1, _⟩ := t
  exact h1.lt
theorem TabS.mono {b n m : Nat} {h : Nat → (List UInt8)} {K : List Nat} {w : World} (t : TabS b n h K w) (hm : n ≤ m) : TabS b m h K w := by
  obtain ⟨D, h1, h2⟩ := t
  exact ⟨D, h1.mono hm, h2⟩
theorem TabS.of {b n : Nat} {h h' : Nat → (List UInt8)} {K K' : List Nat} {w : World} (t : TabS b n h K w) (e : ∀ x, x ∈ K ↔ x ∈ K') (eh : ∀ x ∈ K, h x = h' x) : TabS b n h' K' w := by
  obtain ⟨D, h1, h2⟩ := t
  refine ⟨D, h1, fun k => ?_⟩
  obtain ⟨a1, a2⟩ := h2 k
  refine ⟨by rw [a1]; exact decide_eq_decide.2 (e k), ?_⟩
  rw [a2]
  by_cases c : k ∈ K
  · rw [if_pos c, if_pos ((e k).1 c), eh k c]
  · rw [if_neg c, if_neg (fun d => c ((e k).2 d))]
theorem TabS.look_ok {b n : Nat} {h : Nat → (List UInt8)} {K : List Nat} {w : World} (t : TabS b n h K w) {k : Nat} (hk : k < 18446744073709551616) :
    (Instr.lookup 61 (.map (some b)) (.int .u64 (k : Int)) true).run Tryd.prog w = .ok (.tuple #[.agg #[.string ⟨(if k ∈ K then h k else []).toArray⟩], .bool (decide (k ∈ K))]) w := by
  obtain ⟨D, hown, hD⟩ := t
  obtain ⟨v, ps, hrun, hat⟩ := hown.look_ok keyU Tryd.underlying61 (Tryd.zeroValue62 _) (zd := .lit (.string [])) (zp := []) (by simp [txtElem]) (key_of hk)
  obtain ⟨a1, a2⟩ := hD k
  rw [a2] at hat
  rw [hrun, txtElem_inv hat, a1]
theorem TabS.look {b n : Nat} {h : Nat → (List UInt8)} {K : List Nat} {w : World} (t : TabS b n h K w) {k : Nat} (hk : k < 18446744073709551616) :
    (Instr.lookup 61 (.map (some b)) (.int .u64 (k : Int)) false).run Tryd.prog w = .ok (.agg #[.string ⟨(if k ∈ K then h k else []).toArray⟩]) w := by
  obtain ⟨D, hown, hD⟩ := t
  obtain ⟨v, ps, hrun, hat⟩ := hown.lookup keyU Tryd.underlying61 (Tryd.zeroValue62 _) (zd := .lit (.string [])) (zp := []) (by simp [txtElem]) (key_of hk)
  obtain ⟨a1, a2⟩ := hD k
  rw [a2] at hat
  rw [hrun, txtElem_inv hat]
theorem TabS.put {b n : Nat} {h : Nat → (List UInt8)} {K : List Nat} {w : World} (t : TabS b n h K w) (hn : n ≤ 100000) {x : Nat} (hx : x < 18446744073709551616) :
    ∃ w', (Instr.mapUpdate 61 (.map (some b)) (.int .u64 (x : Int)) (.agg #[.string ⟨(h x).toArray⟩])).run Tryd.prog w = .ok () w' ∧ TabS b (n + 1) h (K ++ [x]) w' ∧ w.grownBy w' (some b) := by
  obtain ⟨D, hown, hD⟩ := t
  obtain ⟨w', h1, h2, h3⟩ := hown.update keyU Tryd.underlying61 (by unfold maxLen; omega) (key_of hx) (txtElem_mk (h x))
  refine ⟨w', h1, ⟨_, h2, fun k => ?_⟩, h3⟩
  by_cases e : k = x
  · subst e
    rw [Maps.has_put_same hown.isMap (lit_key k), Maps.atKey_put_same hown.isMap (lit_key k)]
    simp
  · rw [Maps.has_put_other (fun c => e (lit_inj.1 c)), Maps.atKey_put_other (fun c => e (lit_inj.1 c))]
    obtain ⟨a1, a2⟩ := hD k
    rw [a1, a2]
    simp [e]
/-- those of a rising list from 2t on: one of the pair at its head -/
theorem from_one {N : List Nat} (hN : N.Pairwise (· < ·)) {t x : Nat} (hx : x / 2 = t) (hm : x ∈ N) (ho : sib x ∉ N) : N.filter (fun y => decide (2 * t ≤ y)) = x :: N.filter (fun y => decide (2 * (t + 1) ≤ y)) := by
  refine rising_eq (List.Pairwise.filter _ hN) (List.pairwise_cons.2 ⟨fun y hy => ?_, List.Pairwise.filter _ hN⟩) fun y => ?_
  · have := (List.mem_filter.1 hy).2
    simp at this
    omega
  · rw [List.mem_filter, List.mem_cons, List.mem_filter]
    simp only [decide_eq_true_eq]
    constructor
    · rintro ⟨h1, h2⟩
      by_cases e : y = x
      · exact .inl e
      · refine .inr ⟨h1, ?_⟩
        rcases Nat.lt_or_ge y (2 * (t + 1)) with c | c
        · exfalso
          have : y = sib x := sib_of_half (by omega) e
          exact ho (this ▸ h1)
        · exact c
    · rintro (rfl | ⟨h1, h2⟩)
      · exact ⟨hm, by omega⟩
      · exact ⟨h1, by omega⟩
theorem from_none {N : List Nat} (hN : N.Pairwise (· < ·)) {t : Nat} (h0 : 2 * t ∉ N) (h1 : 2 * t + 1 ∉ N) : N.filter (fun y => decide (2 * t ≤ y)) = N.filter (fun y => decide (2 * (t + 1) ≤ y)) := by
  refine rising_eq (List.Pairwise.filter _ hN) (List.Pairwise.filter _ hN) fun y => ?_
  rw [List.mem_filter, List.mem_filter]
  simp only [decide_eq_true_eq]
  constructor
  · rintro ⟨g1, g2⟩
    refine ⟨g1, ?_⟩
    rcases Nat.lt_or_ge y (2 * (t + 1)) with c | c
    · exfalso
      have : y = 2 * t ∨ y = 2 * t + 1 := by omega
      rcases this with rfl | rfl
      · exact h0 g1
      · exact h1 g1
    · exact c
  · rintro ⟨g1, g2⟩
    exact ⟨g1, by omega⟩
/-- the digests that are left of a proof: on the level i from the pair t on, and above -/
def restD (g : Nat → (List UInt8)) (M : List (List Nat)) (i t : Nat) : List (List UInt8) := (((M[i]?.getD []).filter fun y => decide (2 * t ≤ y)).map (dg g i)) ++ (flatFrom (i + 1) (M.drop (i + 1))).map fun x => dg g x.1 x.2
theorem restD_start (g : Nat → (List UInt8)) (M : List (List Nat)) (i : Nat) : (flatFrom i (M.drop i)).map (fun x => dg g x.1 x.2) = restD g M i 0 := by
  rw [restD]
  rcases Nat.lt_or_ge i M.length with h | h
  · rw [List.drop_eq_getElem_cons h, flatFrom, List.getElem?_eq_getElem h, List.map_append]
    simp [List.map_map, Function.comp_def]
    rw [List.filter_eq_self.2 (by simp)]
  · rw [List.drop_eq_nil_of_le h, List.drop_eq_nil_of_le (by omega), List.getElem?_eq_none h]
    simp [flatFrom]
theorem restD_end (g : Nat → (List UInt8)) (M : List (List Nat)) (i t : Nat) (h : ∀ N, M[i]? = some N → ∀ x ∈ N, x < 2 * t) : restD g M i t = restD g M (i + 1) 0 := by
  rw [← restD_start, restD]
  have e : ((M[i]?.getD []).filter fun y => decide (2 * t ≤ y)) = [] := by
    rw [List.filter_eq_nil_iff]
    intro x hx
    cases hM : M[i]? with
    | none => rw [hM] at hx; simp at hx
    | some N =>
      rw [hM] at hx
      have := h N hM x (by simpa using hx)
      simp
      omega
  rw [e]
  rfl
theorem restD_one {g : Nat → (List UInt8)} {M : List (List Nat)} {i t x : Nat} {N : List Nat} (hM : M[i]? = some N) (hN : N.Pairwise (· < ·)) (hx : x / 2 = t) (hm : x ∈ N) (ho : sib x ∉ N) : restD g M i t = dg g i x :: restD g M i (t + 1) := by
  rw [restD, restD, hM, Option.getD_some, from_one hN hx hm ho]
  rfl
theorem restD_none {g : Nat → (List UInt8)} {M : List (List Nat)} {i t : Nat} {N : List Nat} (hM : M[i]? = some N) (hN : N.Pairwise (· < ·)) (h0 : 2 * t ∉ N) (h1 : 2 * t + 1 ∉ N) : restD g M i t = restD g M i (t + 1) := by
  rw [restD, restD, hM, Option.getD_some, from_none hN h0 h1]
end Go.Proofs.YtfghggfoncfhgaaDoor
