/- What comes of known and needed places, level by level. -/
import Derived.Test.YtcobflhnphikaaaHc
namespace Go.Proofs.Ytcobflhnphikaaa
open Go.RowKit
open Go.Maps (Keyed)

/-- the parents of whom both kids are there -/
def Comes (A X : List Nat) : Prop := ∀ x, x ∈ X ↔ 2 * x ∈ A ∧ 2 * x + 1 ∈ A
theorem kids {x y : Nat} (h : y / 2 = x) : y = 2 * x ∨ y = 2 * x + 1 := by omega
theorem Need.half {L N : List Nat} {i z : Nat} (h : Need (upTo L i) N) (hz : z ∈ upTo L i ∨ z ∈ N) : z / 2 ∈ upTo L (i + 1) := by
  rw [mem_upTo_succ]
  rcases hz with hz | hz
  · exact ⟨z, hz, rfl⟩
  · exact ⟨sib z, ((h.2 z).1 hz).1, sib_half z⟩
theorem Need.kid {L N : List Nat} {i y : Nat} (h : Need (upTo L i) N) (hy : y / 2 ∈ upTo L (i + 1)) : y ∈ upTo L i ∨ y ∈ N := by
  obtain ⟨k, hk, e⟩ := mem_upTo_succ.1 hy
  by_cases c : y = k
  · exact .inl (c ▸ hk)
  · by_cases m : y ∈ upTo L i
    · exact .inl m
    · refine .inr ((h.2 y).2 ⟨?_, m⟩)
      have := sib_of_half (k := k) (j := y) e (fun e' => c e'.symm)
      rw [← this]; exact hk
/-- all of them: so all parents come -/
theorem Need.all {L N A X : List Nat} {i : Nat} (h : Need (upTo L i) N) (hA : ∀ x, x ∈ A ↔ x ∈ upTo L i ∨ x ∈ N) (hX : Comes A X) : ∀ x, x ∈ X ↔ x ∈ upTo L (i + 1) := by
  intro x
  rw [hX, hA, hA]
  constructor
  · rintro ⟨h1, _⟩
    have := h.half h1
    rwa [show 2 * x / 2 = x by omega] at this
  · intro hx
    exact ⟨h.kid (by rwa [show 2 * x / 2 = x by omega]), h.kid (by rwa [show (2 * x + 1) / 2 = x by omega])⟩
/-- all but one: so all parents but its own -/
theorem Need.but {L N A X : List Nat} {i z : Nat} (h : Need (upTo L i) N) (hz : z ∈ upTo L i ∨ z ∈ N) (hA : ∀ x, x ∈ A ↔ (x ∈ upTo L i ∨ x ∈ N) ∧ x ≠ z) (hX : Comes A X) :
    z / 2 ∈ upTo L (i + 1) ∧ ∀ x, x ∈ X ↔ x ∈ upTo L (i + 1) ∧ x ≠ z / 2 := by
  refine ⟨h.half hz, fun x => ?_⟩
  rw [hX, hA, hA]
  constructor
  · rintro ⟨⟨h1, n1⟩, _, n2⟩
    have := h.half h1
    rw [show 2 * x / 2 = x by omega] at this
    exact ⟨this, by omega⟩
  · rintro ⟨hx, hn⟩
    exact ⟨⟨h.kid (by rwa [show 2 * x / 2 = x by omega]), by omega⟩, h.kid (by rwa [show (2 * x + 1) / 2 = x by omega]), by omega⟩

/-- what is known on the level i, when n needed places were passed, of which that of the number q was left out -/
def Stand (L : List Nat) (q : Int) (i n : Nat) (C : List Nat) : Prop :=
  ((q < 0 ∨ (n : Int) ≤ q) ∧ ∀ x, x ∈ C ↔ x ∈ upTo L i) ∨ (0 ≤ q ∧ q < (n : Int) ∧ ∃ p ∈ upTo L i, ∀ x, x ∈ C ↔ x ∈ upTo L i ∧ x ≠ p)
/-- those of N that were added before the j-th -/
def Added (q : Int) (n : Nat) (N C : List Nat) (j : Nat) (A : List Nat) : Prop := ∀ x, x ∈ A ↔ x ∈ C ∨ ∃ t, t < j ∧ N[t]? = some x ∧ ((n + t : Nat) : Int) ≠ q
theorem Added.start (q : Int) (n : Nat) (N C : List Nat) : Added q n N C 0 C := fun x => by simp
theorem Added.push {q : Int} {n : Nat} {N C A : List Nat} {j x : Nat} (h : Added q n N C j A) (hx : N[j]? = some x) (hq : ((n + j : Nat) : Int) ≠ q) : Added q n N C (j + 1) (A ++ [x]) := by
  intro y
  rw [List.mem_append, h y]
  constructor
  · rintro ((h | ⟨t, ht, hy, hn⟩) | h)
    · exact .inl h
    · exact .inr ⟨t, by omega, hy, hn⟩
    · simp at h; subst h; exact .inr ⟨j, by omega, hx, hq⟩
  · rintro (h | ⟨t, ht, hy, hn⟩)
    · exact .inl (.inl h)
    · by_cases e : t = j
      · subst e; rw [hx] at hy; cases hy; exact .inr (by simp)
      · exact .inl (.inr ⟨t, by omega, hy, hn⟩)
theorem Added.skip {q : Int} {n : Nat} {N C A : List Nat} {j : Nat} (h : Added q n N C j A) (hq : ((n + j : Nat) : Int) = q) : Added q n N C (j + 1) A := by
  intro y
  rw [h y]
  constructor
  · rintro (h | ⟨t, ht, hy, hn⟩)
    · exact .inl h
    · exact .inr ⟨t, by omega, hy, hn⟩
  · rintro (h | ⟨t, ht, hy, hn⟩)
    · exact .inl h
    · by_cases e : t = j
      · subst e; exact absurd hq hn
      · exact .inr ⟨t, by omega, hy, hn⟩
theorem Stand.next {L : List Nat} {q : Int} {i n : Nat} {N C A X : List Nat} (h : Stand L q i n C) (hN : Need (upTo L i) N) (hA : Added q n N C N.length A) (hX : Comes A X) : Stand L q (i + 1) (n + N.length) X := by
  have hnd : ∀ (s t : Nat) (x : Nat), N[s]? = some x → N[t]? = some x → s = t := by
    intro s t x hs ht
    have hp := hN.1
    rw [List.pairwise_iff_getElem] at hp
    obtain ⟨s1, s2⟩ := List.getElem?_eq_some_iff.1 hs
    obtain ⟨t1, t2⟩ := List.getElem?_eq_some_iff.1 ht
    rcases Nat.lt_trichotomy s t with c | c | c
    · have := hp s t s1 t1 c; omega
    · exact c
    · have := hp t s t1 s1 c; omega
  rcases h with ⟨hq, hC⟩ | ⟨hq0, hqn, p, hp, hC⟩
  · by_cases c : q < 0 ∨ ((n + N.length : Nat) : Int) ≤ q
    · refine .inl ⟨c, hN.all (fun x => ?_) hX⟩
      rw [hA x, hC x]
      refine or_congr Iff.rfl ⟨?_, fun hx => ?_⟩
      · rintro ⟨t, _, hx, _⟩; exact List.mem_of_getElem? hx
      · obtain ⟨t, ht⟩ := List.getElem?_of_mem hx
        have := (List.getElem?_eq_some_iff.1 ht).1
        exact ⟨t, this, ht, by omega⟩
    · obtain ⟨s, hs⟩ : ∃ s : Nat, q = ((n + s : Nat) : Int) := ⟨(q - n).toNat, by omega⟩
      have hsl : s < N.length := by omega
      obtain ⟨z, hz⟩ : ∃ z, N[s]? = some z := ⟨_, List.getElem?_eq_getElem hsl⟩
      have hzN := List.mem_of_getElem? hz
      have hzK := ((hN.2 z).1 hzN).2
      have key := hN.but (.inr hzN) (A := A) (fun x => ?_) hX
      · exact .inr ⟨by omega, by omega, _, key.1, key.2⟩
      · rw [hA x, hC x]
        constructor
        · rintro (h | ⟨t, ht, hx, hn⟩)
          · exact ⟨.inl h, fun e => hzK (e ▸ h)⟩
          · refine ⟨.inr (List.mem_of_getElem? hx), fun e => ?_⟩
            subst e
            have := hnd t s x hx hz
            subst this
            exact hn hs.symm
        · rintro ⟨h | h, hne⟩
          · exact .inl h
          · obtain ⟨t, ht⟩ := List.getElem?_of_mem h
            have hl := (List.getElem?_eq_some_iff.1 ht).1
            refine .inr ⟨t, hl, ht, fun e => hne ?_⟩
            have : t = s := by omega
            subst this
            rw [hz] at ht; cases ht; rfl
  · have hpN : p ∉ N := fun h => ((hN.2 p).1 h).2 hp
    have key := hN.but (.inl hp) (A := A) (fun x => ?_) hX
    · exact .inr ⟨hq0, by omega, _, key.1, key.2⟩
    · rw [hA x, hC x]
      constructor
      · rintro (h | ⟨t, ht, hx, hn⟩)
        · exact ⟨.inl h.1, h.2⟩
        · have := List.mem_of_getElem? hx
          exact ⟨.inr this, fun e => hpN (e ▸ this)⟩
      · rintro ⟨h | h, hne⟩
        · exact .inl ⟨h, hne⟩
        · obtain ⟨t, ht⟩ := List.getElem?_of_mem h
          have hl := (List.getElem?_eq_some_iff.1 ht).1
          exact .inr ⟨t, hl, ht, by omega⟩
/-- at the root -/
theorem Stand.root {L : List Nat} {q : Int} {d n : Nat} {C : List Nat} (h : Stand L q d n C) (hL : L ≠ []) (hd : ∀ x ∈ L, x < 2 ^ d) : 0 ∈ C ↔ (q < 0 ∨ (n : Int) ≤ q) := by
  have e : ∀ x, x ∈ upTo L d ↔ x = 0 := by
    intro x
    rw [mem_upTo]
    constructor
    · rintro ⟨k, hk, rfl⟩; exact Nat.div_eq_of_lt (hd k hk)
    · rintro rfl
      obtain ⟨k, hk⟩ := List.exists_mem_of_ne_nil L hL
      exact ⟨k, hk, Nat.div_eq_of_lt (hd k hk)⟩
  rcases h with ⟨hq, hC⟩ | ⟨h0, hn, p, hp, hC⟩
  · rw [hC, e]; simp [hq]
  · rw [hC, e]
    have := (e p).1 hp
    subst this
    simp
    omega
theorem upTo_zero (L : List Nat) : upTo L 0 = L := by simp [upTo]
theorem Stand.start {L C : List Nat} {q : Int} (hC : ∀ x, x ∈ C ↔ x ∈ L) : Stand L q 0 0 C := .inl ⟨by omega, fun x => by rw [hC, upTo_zero]⟩
theorem upTo_lt {L : List Nat} {d i x : Nat} (h : ∀ x ∈ L, x < 2 ^ d) (hi : i ≤ d) (hx : x ∈ upTo L i) : x < 2 ^ (d - i) := by
  obtain ⟨k, hk, rfl⟩ := mem_upTo.1 hx
  rw [Nat.div_lt_iff_lt_mul (Nat.pow_pos (by decide)), ← Nat.pow_add, show d - i + i = d by omega]
  exact h k hk

section
variable {P : Program} {ku ki : TypeId}
/-- block b is a table that says 1 of the numbers of K, and nothing of others -/
def OnesAt (P : Program) (ku ki : TypeId) (b n : Nat) (K : List Nat) (w : World) : Prop :=
  ∃ D : DataW Unit, w.ownsMap P ku (plainElem P ki) b n D ∧ ∀ k : Nat, D.atKey (lit k) (.lit (.int .i64 0)) = .lit (.int .i64 (if k ∈ K then 1 else 0))
theorem OnesAt.made (P : Program) (ku ki : TypeId) (w : World) : OnesAt P ku ki w.heap.size 0 [] (w.alloc (.map #[] 0)) :=
  ⟨.map [], World.ownsMap_made w P ku _, fun k => by simp [DataW.atKey]⟩
theorem OnesAt.kept {b n : Nat} {K : List Nat} {w w' : World} {row : Option Nat} (h : OnesAt P ku ki b n K w) (hg : w.grownBy w' row) (hr : some b ≠ row) : OnesAt P ku ki b n K w' := by
  obtain ⟨D, h1, h2⟩ := h
  exact ⟨D, h1.kept hg hr, h2⟩
theorem OnesAt.lt {b n : Nat} {K : List Nat} {w : World} (h : OnesAt P ku ki b n K w) : b < w.heap.size := by
  obtain ⟨D, h1, _⟩ := h
  exact h1.lt
theorem OnesAt.push {b n : Nat} {K : List Nat} {w w' : World} {D : DataW Unit} {x : Nat} (h : w.ownsMap P ku (plainElem P ki) b n D) (hD : ∀ k : Nat, D.atKey (lit k) (.lit (.int .i64 0)) = .lit (.int .i64 (if k ∈ K then 1 else 0)))
    (h' : w'.ownsMap P ku (plainElem P ki) b (n + 1) (D.put (lit x) (.lit (.int .i64 1)))) : OnesAt P ku ki b (n + 1) (K ++ [x]) w' := by
  refine ⟨_, h', fun k => ?_⟩
  by_cases e : k = x
  · subst e
    rw [Maps.atKey_put_same h.isMap (lit_key k)]; simp
  · rw [Maps.atKey_put_other (fun c => e (lit_inj.1 c)), hD]; simp [e]
end
end Go.Proofs.Ytcobflhnphikaaa
