/- A region whose first n operations only read, and whose later ones each wait for one of those that are not among the first: the first n may be walked in the order of the text, whatever order is drawn. -/
import Derived.StillTailTactics
namespace Go.Proofs.Ytiglhgcckceikaa
open Go

section
variable {P : Program} {ops : Array Oper} {md : Region.Mode} {w : World}

/-- each operation behind number n waits for an earlier one that is not among the first n -/
def lateB (md : Region.Mode) (ops : Array Oper) (n : Nat) : Bool :=
  (List.range ops.size).all fun t => decide (t ≤ n) || (List.range t).any fun s => decide (n ≤ s) && Region.waitsFor md ops t s

/-- each of the first n, number 0 aside, is waited for by a later one, up to number n -/
def sinkFrom (md : Region.Mode) (ops : Array Oper) (n : Nat) : Bool :=
  (List.range n).all fun i => decide (i < 1) || (List.range (n + 1)).any fun j => decide (i < j) && Region.waitsFor md ops j i

theorem not_yet {j i : Nat} {listed : Array Bool} (hj : j ∈ Region.ready md ops listed) (hi : Region.waitsFor md ops j i = true) : listed.getD i false = true := by
  obtain ⟨_, oj, hoj, hall⟩ := mem_ready.1 hj
  obtain ⟨o', ho', e, he, hb, hon⟩ := Region.waitsFor_spec hi
  obtain rfl : o' = oj := Option.some.inj (ho'.symm.trans hoj)
  rw [← hon]; exact hall e he hb

/-- while one of the first n is left, none of the others is ready -/
theorem only_first {n : Nat} {listed : Array Bool} (hs : sinkFrom md ops n = true) (hl : lateB md ops n = true) (hn : n < ops.size) (inv : HeadInv md ops n listed) :
    ∀ (m i : Nat), n - i = m → 1 ≤ i → i < n → listed.getD i true = false → ∀ j ∈ Region.ready md ops listed, j < n := by
  intro m
  induction m using Nat.strongRecOn with
  | _ m ih =>
    intro i hm hi1 hin hun j hj
    refine Nat.lt_of_not_le fun hge => ?_
    have hjs : j < ops.size := by
      obtain ⟨_, oj, hoj, _⟩ := mem_ready.1 hj
      exact (Array.getElem?_eq_some_iff.1 hoj).1
    by_cases hjn : j = n
    · subst hjn
      have h1 := List.all_eq_true.1 hs i (by simpa using hin)
      simp only [Bool.or_eq_true, decide_eq_true_eq] at h1
      have h1 := h1.resolve_left (by omega)
      obtain ⟨k, hk, hk2⟩ := List.any_eq_true.1 h1
      simp only [Bool.and_eq_true, decide_eq_true_eq] at hk2
      have hkn : k < j + 1 := by simpa using hk
      by_cases e : k = j
      · subst e
        have := not_yet hj hk2.2
        rw [getD_both hun] at this; cases this
      · have hku : listed.getD k false = false := by
          cases hc : listed.getD k false with
          | false => rfl
          | true =>
            obtain ⟨o', ho', e', he', hb', hon'⟩ := Region.waitsFor_spec hk2.2
            have := inv.closed k o' ho' hc e' he' hb'
            rw [hon', getD_both hun] at this; cases this
        have hku2 := getD_in (by rw [inv.size]; omega) hku
        exact absurd (ih (j - k) (by omega) k rfl (by omega) (by omega) hku2 j hj) (by omega)
    · have h1 := List.all_eq_true.1 hl j (by simpa using hjs)
      simp only [Bool.or_eq_true, decide_eq_true_eq] at h1
      rcases h1 with h1 | h1
      · omega
      · obtain ⟨s, hs1, hs2⟩ := List.any_eq_true.1 h1
        simp only [Bool.and_eq_true, decide_eq_true_eq] at hs2
        have hsj : s < j := by simpa using hs1
        have := not_yet hj hs2.2
        rw [getD_both (inv.tail s hs2.1 (by omega))] at this; cases this

/-- one of the first, that may come up now and is apart from what does not wait for it, may be taken now -/
theorem first_now {n i : Nat} {oi : Oper} {v : Value} {L : Array Bool → Act → Prop} (hi : ops[i]? = some oi) (hsel : Region.noSelect ops = true)
    (hs : sinkFrom md ops n = true) (hl : lateB md ops n = true) (hn : n < ops.size) (hi1 : 1 ≤ i) (hin : i < n) (hdone : ∀ listed a, L listed a → ∀ j ∈ Region.ready md ops listed, n ≤ j) :
    ∀ (f : Nat) (listed : Array Bool) (a : Act), HeadInv md ops n listed →
      (∀ j oj, ops[j]? = some oj → j ≠ i → listed.getD j true = false → (∀ e ∈ oj.after, Region.binds md e = true → e.on ≠ i) → oi.apart ops oj = true) →
      i ∈ Region.ready md ops listed → YieldsAt P ops w oi v a →
      wpAnyL P md ops w n L f (listed.setIfInBounds i true) (a.put oi.dst v) → wpAnyL P md ops w n L (f + 1) listed a := by
  have sel := Region.noSelect_spec hsel
  intro f
  induction f with
  | zero =>
    intro listed a inv _ hr hy H
    have hun := (mem_ready.1 hr).1
    refine ⟨List.ne_nil_of_mem hr, fun j hj => ?_⟩
    have hjn := only_first hs hl hn inv _ i rfl hi1 hin hun j hj
    refine ⟨hjn, ?_⟩
    by_cases hji : j = i
    · subst hji; exact hy.stOp hi H
    · exact absurd (hdone _ _ H j (ready_mono hj hji)) (by omega)
  | succ f ih =>
    intro listed a inv hfree hr hy H
    have hun := (mem_ready.1 hr).1
    refine ⟨List.ne_nil_of_mem hr, fun j hj => ?_⟩
    have hjn := only_first hs hl hn inv _ i rfl hi1 hin hun j hj
    refine ⟨hjn, ?_⟩
    by_cases hji : j = i
    · subst hji; exact hy.stOp hi H
    · obtain ⟨hjun, oj, hoj, hall⟩ := mem_ready.1 hj
      have hnot : ∀ e ∈ oj.after, Region.binds md e = true → e.on ≠ i := by
        intro e he hb heq
        have h1 := hall e he hb
        rw [heq, getD_both hun] at h1; cases h1
      refine stOp_mono (fun a' h3 => ih (listed.setIfInBounds j true) a' (inv.set hj hjn) ?_ (ready_mono hr (Ne.symm hji)) h3.1 ?_)
        (stOp_put hoj (hfree j oj hoj hji hjun hnot) (fun cs b => sel i oi cs b hi) (fun cs b => sel j oj cs b hoj) hy (H.2 j (ready_mono hj hji)).2)
      · intro k ok hk hki hku hno
        refine hfree k ok hk hki ?_ hno
        by_cases hjk : j = k
        · subst hjk; exact hjun
        · rwa [getD_set_ne true hjk] at hku
      · rw [Array.setIfInBounds_comm _ _ hji]; exact h3.2

/-- the first n, one behind the other, each ready and free in its turn -/
def headB (md : Region.Mode) (ops : Array Oper) : Nat → Nat → Array Bool → Bool
  | 0, k, listed => (Region.ready md ops listed).all fun j => decide (k ≤ j)
  | f + 1, k, listed => (Region.ready md ops listed).contains k && Region.free md ops listed k && headB md ops f (k + 1) (listed.setIfInBounds k true)
/-- what is listed behind them -/
def listedTo : Nat → Nat → Array Bool → Array Bool
  | 0, _, listed => listed
  | f + 1, k, listed => listedTo f (k + 1) (listed.setIfInBounds k true)

theorem head_walk {n : Nat} {Lq : Act → Prop} (hsel : Region.noSelect ops = true) (hs : sinkFrom md ops n = true) (hl : lateB md ops n = true) (hn : n < ops.size) (LN : Array Bool) (hLN : (Region.ready md ops LN).all (fun j => decide (n ≤ j)) = true) :
    ∀ (l : List Oper) (k : Nat) (listed : Array Bool) (a : Act), (∀ j, j < l.length → l[j]? = ops[k + j]?) → 1 ≤ k → k + l.length = n → HeadInv md ops n listed →
    headB md ops l.length k listed = true → listedTo l.length k listed = LN → wpStill P ops w Lq l a →
    wpAnyL P md ops w n (fun listed' a' => listed' = LN ∧ Lq a') l.length listed a
  | [], _, _, _, _, _, _, _, _, hT, h => ⟨hT, h⟩
  | o :: l, k, listed, a, hlo, hk1, hk, inv, hB, hT, h => by
    have h0 : ops[k]? = some o := by simpa using (hlo 0 (by simp)).symm
    simp only [List.length_cons, headB, Bool.and_eq_true] at hB
    obtain ⟨⟨hr, hf⟩, hB'⟩ := hB
    have hkn : k < n := by simp only [List.length_cons] at hk; omega
    have hr' : k ∈ Region.ready md ops listed := by simpa using hr
    have hst : stOp P ops w k (wpStill P ops w Lq l) a := by unfold stOp; simp only [h0]; exact h
    obtain ⟨v, hy, hK⟩ := yieldsAt_of_stOp h0 hst
    exact first_now h0 hsel hs hl hn hk1 hkn (fun listed' a' hL j hj => by
        have := List.all_eq_true.1 hLN j (by rw [← hL.1]; exact hj)
        simpa using this) l.length listed a inv (Region.free_spec h0 hf) hr' hy
      (head_walk hsel hs hl hn LN hLN l (k + 1) _ _ (fun j hj => by have := hlo (j + 1) (by simp; omega); simpa [Nat.add_assoc, Nat.add_comm 1 j] using this) (by omega) (by simp only [List.length_cons] at hk; omega) (inv.set hr' hkn) hB' hT hK)

/-- all of it that a kernel can ask of a region written out; number 0 is taken ahead of all -/
def headsB (md : Region.Mode) (ops : Array Oper) (m : Nat) : Bool :=
  Region.noSelect ops && decide (m + 1 < ops.size) && sinkFrom md ops (m + 1) && lateB md ops (m + 1) && (Region.ready md ops (Array.replicate ops.size false)).contains 0 && Region.free md ops (Array.replicate ops.size false) 0 &&
    headB md ops m 1 ((Array.replicate ops.size false).setIfInBounds 0 true) && (Region.ready md ops (listedTo m 1 ((Array.replicate ops.size false).setIfInBounds 0 true))).all fun j => decide (m + 1 ≤ j)

theorem wp_region_head {id : Nat} {Q : Exit → Act → World → Prop} {a : Act} {w : World} {o : Oper} {l : List Oper} (m : Nat) (v : Value) (hm : P.follows .mixedOrders = true) (hB : headsB .any (o :: l).toArray m = true)
    (hQ : ∀ c a w, Q (.panic c) (a.put o.dst v) w → Q (.panic c) a w) (hy : Yields P (o :: l).toArray o v a)
    (h : wpStill P (o :: l).toArray w.drew (fun a' => wpAny P .any (o :: l).toArray Q ((o :: l).toArray.size - (m + 1)) (listedTo m 1 ((Array.replicate (o :: l).toArray.size false).setIfInBounds 0 true)) a' w.drew) (l.take m) (a.put o.dst v)) :
    (Code.region id (o :: l).toArray true).wp P Q a w := by
  simp only [headsB, Bool.and_eq_true, decide_eq_true_eq] at hB
  obtain ⟨⟨⟨⟨⟨⟨⟨hsel, hn⟩, hs⟩, hl⟩, hr⟩, hf⟩, hh⟩, hLN⟩ := hB
  have hn' : m < l.length := by simpa using hn
  have htl : (l.take m).length = m := by simp; omega
  have inv0 : HeadInv .any (o :: l).toArray (m + 1) (Array.replicate (o :: l).toArray.size false) :=
    ⟨by simp, fun j oj _ hl => (by rw [getD_replicate_false] at hl; cases hl), fun t _ ht => getD_in (by simpa using ht) (getD_replicate_false _ _)⟩
  have H := head_walk (md := .any) (P := P) (w := w.drew) hsel hs hl hn _ hLN (l.take m) 1 _ (a.put o.dst v) (fun j hj => by
    have hj' : j < m := by rw [htl] at hj; exact hj
    simp [hj', Nat.add_comm 1 j]) (Nat.le_refl _) (by rw [htl]; omega) (inv0.set (by simpa using hr) (by omega)) (by rw [htl]; exact hh) (by rw [htl]) h
  refine wp_region_any hm ?_
  have h2 := wpAny_of_head (Q' := Q) (g := (o :: l).toArray.size - (m + 1)) (fun listed a' hL => by rw [hL.1]; exact hL.2) _ _ _ H
  have es : (o :: l).toArray.size = (m + ((o :: l).toArray.size - (m + 1))) + 1 := by simp; omega
  rw [htl] at h2
  have h3 : wpAny P .any (o :: l).toArray Q (m + ((o :: l).toArray.size - (m + 1)) + 1) (Array.replicate (o :: l).toArray.size false) a w.drew := wpAny_take (by simp) hsel hf hr hQ hy h2
  rwa [← es] at h3
end
end Go.Proofs.Ytiglhgcckceikaa
