/- The root that comes of leaves that are known, and a proof. -/
import Derived.Test.YtblimejnjboedaaDoorJ19
namespace Go.Proofs.YtblimejnjboedaaDoor
open Go.RowKit Go.Sort

/-- of a proof, the digest of the needed place x of level i -/
def givenD (M : List (List Nat)) (R : List (List UInt8)) (i x : Nat) : (List UInt8) := (R[pre M i + (M[i]?.getD []).idxOf x]?).getD []
/-- level by level, what is known: f of the leaves LV; R: the proof -/
def knownD (LV : List Nat) (D : Nat) (R : List (List UInt8)) (f : Nat → (List UInt8)) : Nat → Nat → (List UInt8)
  | 0, x => f x
  | i + 1, p => hashL nodeT [if 2 * p ∈ upTo LV i then knownD LV D R f i (2 * p) else givenD (needM LV D) R i (2 * p), if 2 * p + 1 ∈ upTo LV i then knownD LV D R f i (2 * p + 1) else givenD (needM LV D) R i (2 * p + 1)]
/-- the root that comes -/
def comesD (LV : List Nat) (D : Nat) (R : List (List UInt8)) (f : Nat → (List UInt8)) : (List UInt8) := knownD LV D R f D 0
theorem sib_pair (p : Nat) : sib (2 * p) = 2 * p + 1 ∧ sib (2 * p + 1) = 2 * p := by
  unfold sib
  constructor
  · rw [if_pos (by omega)]
  · rw [if_neg (by omega)]; omega
/-- of a pair of which one is known, each is known, or needed -/
theorem pair_known {LV : List Nat} {D i p x : Nat} (hLV : ∀ z ∈ LV, z < 2 ^ D) (hi : i < D) (hp : p ∈ upTo LV (i + 1)) (hx : x / 2 = p) : x ∈ upTo LV i ∨ x ∉ upTo LV i ∧ x ∈ needOf (upTo LV i) (2 ^ (D - i)) := by
  by_cases c : x ∈ upTo LV i
  · exact .inl c
  · obtain ⟨k, hk, hk2⟩ := mem_upTo_succ.1 hp
    have hne : k ≠ x := fun e => c (e ▸ hk)
    have hs : k = sib x := sib_of_half (by omega) hne
    refine .inr ⟨c, ((needs_M hLV).2 i _ (needM_at hi)).2 x |>.2 ⟨hs ▸ hk, c⟩⟩
theorem root_in {LV : List Nat} {D : Nat} (h0 : LV ≠ []) (h : ∀ z ∈ LV, z < 2 ^ D) : 0 ∈ upTo LV D := by
  obtain ⟨k, hk⟩ := List.exists_mem_of_ne_nil LV h0
  exact mem_upTo.2 ⟨k, hk, Nat.div_eq_of_lt (h k hk)⟩
end Go.Proofs.YtblimejnjboedaaDoor
/- Layer 11's plain facts for the document's own answer: places and their digests in a list. -/
namespace Go.Proofs.YtblimejnjboedaaDoor
open Go.RowKit Go.Sort

theorem node_len (L : List (List UInt8)) : (hashL nodeT L).length = 32 := by rw [hashL, if_pos (by decide)]; exact shaL_length _
theorem node_ne (L : List (List UInt8)) : hashL nodeT L ≠ [] := fun h => by have := node_len L; rw [h] at this; simp at this
/-- the digest of the first place that is x -/
def findP : List (Nat × (List UInt8)) → Nat → (List UInt8)
  | [], _ => []
  | a :: A, x => if a.1 = x then a.2 else findP A x
theorem find_not : ∀ {A : List (Nat × (List UInt8))} {x : Nat}, x ∉ A.map Prod.fst → findP A x = []
  | [], _, _ => rfl
  | a :: A, x, h => by
    simp only [List.map_cons, List.mem_cons, not_or] at h
    rw [findP, if_neg (fun e => h.1 e.symm)]
    exact find_not h.2
theorem find_app : ∀ {A C : List (Nat × (List UInt8))} {x : Nat}, findP (A ++ C) x = if x ∈ A.map Prod.fst then findP A x else findP C x
  | [], C, x => by simp
  | a :: A, C, x => by
    rw [List.cons_append, findP, findP]
    by_cases e : a.1 = x
    · simp [e]
    · rw [if_neg e, if_neg e, find_app]
      have : x ∈ (a :: A).map Prod.fst ↔ x ∈ A.map Prod.fst := by rw [List.map_cons, List.mem_cons]; exact or_iff_right fun c => e c.symm
      by_cases c : x ∈ A.map Prod.fst
      · rw [if_pos c, if_pos (this.2 c)]
      · rw [if_neg c, if_neg (fun d => c (this.1 d))]
theorem find_snoc {A : List (Nat × (List UInt8))} {p x : Nat} {t : (List UInt8)} (h : p ∉ A.map Prod.fst) : findP (A ++ [(p, t)]) x = if p = x then t else findP A x := by
  rw [find_app]
  by_cases e : p = x
  · subst e; rw [if_neg h, if_pos rfl, findP, if_pos rfl]
  · rw [if_neg e]
    by_cases c : x ∈ A.map Prod.fst
    · rw [if_pos c]
    · rw [if_neg c, find_not c, findP, if_neg e, findP]
theorem find_zip : ∀ {N : List Nat} {D : List (List UInt8)} {x : Nat}, x ∈ N → N.length ≤ D.length → findP (N.zip D) x = (D[N.idxOf x]?).getD []
  | n :: N, [], x, _, h => by simp at h
  | n :: N, d :: D, x, hx, h => by
    rw [List.zip_cons_cons, findP, List.idxOf_cons]
    by_cases e : n = x
    · simp [e]
    · have h1 : x ∈ N := by
        rcases List.mem_cons.1 hx with c | c
        · exact absurd c.symm e
        · exact c
      rw [if_neg e, find_zip h1 (by simpa using h)]
      have : (n == x) = false := by rw [beq_eq_false_iff_ne]; exact e
      simp [this]
/-- one place's parent is reckoned, if it is none of those that are -/
def overStep (A B : List (Nat × (List UInt8))) (k : Nat) : List (Nat × (List UInt8)) := if findP B (k / 2) = [] then B ++ [(k / 2, hashL nodeT [findP A (2 * (k / 2)), findP A (2 * (k / 2) + 1)])] else B
/-- the parents of the first j of them -/
def overP (A : List (Nat × (List UInt8))) : Nat → List (Nat × (List UInt8))
  | 0 => []
  | j + 1 => match A[j]? with
    | some a => overStep A (overP A j) a.1
    | none => overP A j
theorem over_len (A : List (Nat × (List UInt8))) : ∀ j, (overP A j).length ≤ j
  | 0 => by simp [overP]
  | j + 1 => by
    have := over_len A j
    rw [overP]
    split
    · unfold overStep
      split
      · simp; omega
      · omega
    · omega
/-- what is found among the parents: of those that have been met, the digest of the pair -/
theorem over_spec {A : List (Nat × (List UInt8))} : ∀ j, j ≤ A.length →
    (∀ x, x ∈ (overP A j).map Prod.fst ↔ ∃ a ∈ A.take j, a.1 / 2 = x) ∧ ∀ x, findP (overP A j) x = if x ∈ (overP A j).map Prod.fst then hashL nodeT [findP A (2 * x), findP A (2 * x + 1)] else []
  | 0, _ => ⟨fun x => by simp [overP], fun x => by simp [overP, findP]⟩
  | j + 1, hj => by
    obtain ⟨h1, h2⟩ := over_spec (A := A) j (by omega)
    have hjl : j < A.length := hj
    have htk : A.take (j + 1) = A.take j ++ [A[j]] := (List.take_append_getElem hjl).symm
    have e : overP A (j + 1) = overStep A (overP A j) (A[j]).1 := by rw [overP, List.getElem?_eq_getElem hjl]
    rw [e]
    obtain ⟨p, hp⟩ : ∃ p, p = (A[j]).1 / 2 := ⟨_, rfl⟩
    by_cases c : p ∈ (overP A j).map Prod.fst
    · have hs : overStep A (overP A j) (A[j]).1 = overP A j := by
        unfold overStep
        rw [if_neg (by rw [← hp, h2 p, if_pos c]; exact node_ne _)]
      rw [hs]
      refine ⟨fun x => ?_, h2⟩
      rw [h1 x, htk]
      constructor
      · rintro ⟨a, ha, rfl⟩; exact ⟨a, List.mem_append_left _ ha, rfl⟩
      · rintro ⟨a, ha, rfl⟩
        rcases List.mem_append.1 ha with ha | ha
        · exact ⟨a, ha, rfl⟩
        · simp at ha; subst ha; rw [hp] at c; exact (h1 _).1 c
    · have hs : overStep A (overP A j) (A[j]).1 = overP A j ++ [(p, hashL nodeT [findP A (2 * p), findP A (2 * p + 1)])] := by
        unfold overStep
        rw [← hp, if_pos (by rw [h2 p, if_neg c])]
      rw [hs]
      have hm : ∀ x, x ∈ (overP A j ++ [(p, hashL nodeT [findP A (2 * p), findP A (2 * p + 1)])]).map Prod.fst ↔ x ∈ (overP A j).map Prod.fst ∨ x = p := fun x => by simp
      refine ⟨fun x => ?_, fun x => ?_⟩
      · rw [hm x, h1 x, htk]
        constructor
        · rintro (⟨a, ha, rfl⟩ | rfl)
          · exact ⟨a, List.mem_append_left _ ha, rfl⟩
          · exact ⟨A[j], List.mem_append_right _ (by simp), hp.symm⟩
        · rintro ⟨a, ha, rfl⟩
          rcases List.mem_append.1 ha with ha | ha
          · exact .inl ⟨a, ha, rfl⟩
          · simp at ha; subst ha; exact .inr hp.symm
      · rw [find_snoc c]
        by_cases ex : p = x
        · subst ex
          rw [if_pos rfl, if_pos ((hm p).2 (.inr rfl))]
        · rw [if_neg ex, h2 x]
          by_cases cx : x ∈ (overP A j).map Prod.fst
          · rw [if_pos cx, if_pos ((hm x).2 (.inl cx))]
          · rw [if_neg cx, if_neg (fun d => by rcases (hm x).1 d with d | d; exact cx d; exact ex d.symm)]
/-- a level's list: those that are known, each with its digest -/
structure Lev (LV : List Nat) (D : Nat) (R : List (List UInt8)) (f : Nat → (List UInt8)) (i : Nat) (A : List (Nat × (List UInt8))) : Prop where
  key : ∀ x, x ∈ A.map Prod.fst ↔ x ∈ upTo LV i
  dig : ∀ x ∈ upTo LV i, findP A x = knownD LV D R f i x
/-- with the proof's digests behind, and over to the parents: the next level's list -/
theorem Lev.up {LV : List Nat} {D : Nat} {R : List (List UInt8)} {f : Nat → (List UInt8)} {i : Nat} {A C : List (Nat × (List UInt8))} (hLV : ∀ z ∈ LV, z < 2 ^ D) (hi : i < D) (h : Lev LV D R f i A)
    (hC : C = (needOf (upTo LV i) (2 ^ (D - i))).zip (R.drop (pre (needM LV D) i))) (hR : pre (needM LV D) i + (needOf (upTo LV i) (2 ^ (D - i))).length ≤ R.length) :
    Lev LV D R f (i + 1) (overP (A ++ C) (A ++ C).length) := by
  obtain ⟨N, hN⟩ : ∃ N, N = needOf (upTo LV i) (2 ^ (D - i)) := ⟨_, rfl⟩
  rw [← hN] at hC hR
  have hneed : Need (upTo LV i) N := by rw [hN]; exact (needs_M hLV).2 i _ (needM_at hi)
  have hCk : C.map Prod.fst = N := by
    rw [hC, List.map_fst_zip]
    rw [List.length_drop]; omega
  have hval : ∀ x, x ∈ upTo LV i ∨ x ∈ N → findP (A ++ C) x = if x ∈ upTo LV i then knownD LV D R f i x else givenD (needM LV D) R i x := by
    intro x hx
    rw [find_app]
    by_cases c : x ∈ upTo LV i
    · rw [if_pos ((h.key x).2 c), if_pos c, h.dig x c]
    · rw [if_neg (fun d => c ((h.key x).1 d)), if_neg c]
      have hxN : x ∈ N := hx.resolve_left c
      rw [hC, find_zip hxN (by rw [List.length_drop]; omega), givenD, needM_at hi, ← hN, List.getElem?_drop]
      rfl
  obtain ⟨s1, s2⟩ := over_spec (A := A ++ C) _ (Nat.le_refl _)
  have hkey : ∀ x, x ∈ (overP (A ++ C) (A ++ C).length).map Prod.fst ↔ x ∈ upTo LV (i + 1) := by
    intro x
    rw [s1 x, List.take_length, mem_upTo_succ]
    constructor
    · rintro ⟨a, ha, rfl⟩
      rcases List.mem_append.1 ha with ha | ha
      · exact ⟨a.1, (h.key a.1).1 (List.mem_map_of_mem ha), rfl⟩
      · have ha2 : a.1 ∈ N := by rw [← hCk]; exact List.mem_map_of_mem ha
        exact ⟨sib a.1, ((hneed.2 a.1).1 ha2).1, sib_half a.1⟩
    · rintro ⟨k, hk, rfl⟩
      obtain ⟨a, ha, rfl⟩ := List.mem_map.1 ((h.key k).2 hk)
      exact ⟨a, List.mem_append_left _ ha, rfl⟩
  refine ⟨hkey, fun x hx => ?_⟩
  rw [s2 x, if_pos ((hkey x).2 hx), knownD]
  have hv : ∀ y, y / 2 = x → findP (A ++ C) y = if y ∈ upTo LV i then knownD LV D R f i y else givenD (needM LV D) R i y := fun y hy => hval y (by
    rcases pair_known hLV hi hx hy with c | c
    · exact .inl c
    · exact .inr (hN ▸ c.2))
  rw [hv (2 * x) (by omega), hv (2 * x + 1) (by omega)]
/-- at the leaves -/
theorem Lev.start {LV : List Nat} {D : Nat} {R : List (List UInt8)} {f : Nat → (List UInt8)} {A : List (Nat × (List UInt8))} (hA : A = LV.map fun x => (x, f x)) : Lev LV D R f 0 A := by
  subst hA
  refine ⟨fun x => by rw [upTo_zero]; simp, fun x hx => ?_⟩
  rw [upTo_zero] at hx
  rw [knownD]
  clear R D
  induction LV with
  | nil => simp at hx
  | cons a LV ih =>
    rw [List.map_cons, findP]
    by_cases e : a = x
    · rw [if_pos e]; exact congrArg f e
    · rw [if_neg e]
      exact ih (by rcases List.mem_cons.1 hx with c | c; exact absurd c.symm e; exact c)
/-- at the root -/
theorem Lev.root {LV : List Nat} {D : Nat} {R : List (List UInt8)} {f : Nat → (List UInt8)} {A : List (Nat × (List UInt8))} (h : Lev LV D R f D A) (h0 : LV ≠ []) (hLV : ∀ z ∈ LV, z < 2 ^ D) : findP A 0 = comesD LV D R f := by
  obtain ⟨k, hk⟩ := List.exists_mem_of_ne_nil LV h0
  exact h.dig 0 (mem_upTo.2 ⟨k, hk, Nat.div_eq_of_lt (hLV k hk)⟩)
end Go.Proofs.YtblimejnjboedaaDoor
/- Layer 11's examples, plainly. -/
namespace Go.Proofs.YtblimejnjboedaaDoor
open Go.RowKit Go.Sort

theorem comes_one (R : List (List UInt8)) (f : Nat → (List UInt8)) : comesD [0] 0 R f = f 0 := rfl
theorem lvs_1of3 : lvs [1] 2 = [2] := by decide
theorem lvs_all3 : lvs [0, 1, 2] 2 = [0, 2, 1] := by decide
theorem need_1of3 : needM [2] 2 = [[3], [0]] := by decide
theorem need_all3 : needM [0, 2, 1] 2 = [[3], []] := by decide
theorem comes_1of3 (A B : (List UInt8)) (f : Nat → (List UInt8)) : comesD [2] 2 [A, B] f = hashL nodeT [B, hashL nodeT [f 2, A]] := by
  simp only [comesD, knownD, need_1of3, givenD, upTo, pre]
  simp
theorem comes_all3 (A : (List UInt8)) (f : Nat → (List UInt8)) : comesD [0, 2, 1] 2 [A] f = hashL nodeT [hashL nodeT [f 0, f 1], hashL nodeT [f 2, A]] := by
  simp only [comesD, knownD, need_all3, givenD, upTo, pre]
  simp
/-- the first leaf's way, of whatever depth -/
theorem up_first (i : Nat) : upTo [0] i = [0] := by simp [upTo]
theorem need_first {D i : Nat} (h : i < D) : needOf (upTo [0] i) (2 ^ (D - i)) = [1] := by
  rw [up_first]
  have h1 : Need [0] (needOf [0] (2 ^ (D - i))) := need_of fun x hx => by
    have : x = 1 := by
      simp at hx
      unfold sib at hx
      split at hx <;> omega
    subst this
    have := Nat.pow_le_pow_right (show 0 < 2 by decide) (show 1 ≤ D - i by omega)
    omega
  have hm : ∀ x, x ∈ needOf [0] (2 ^ (D - i)) ↔ x = 1 := fun x => by
    rw [h1.2 x]
    constructor
    · rintro ⟨a, b⟩
      simp at a b
      unfold sib at a
      split at a <;> omega
    · rintro rfl; simp [sib]
  exact rising_eq h1.1 (by simp) fun x => by rw [hm x]; simp
theorem pre_first {D : Nat} : ∀ i, i ≤ D → pre (needM [0] D) i = i
  | 0, _ => pre_zero _
  | i + 1, h => by
    have hi : i < (needM [0] D).length := by rw [needM_len]; omega
    rw [pre_succ hi, pre_first i (by omega)]
    have e := needM_at (L := [0]) (d := D) (i := i) (by omega)
    rw [need_first (by omega)] at e
    obtain ⟨_, e2⟩ := List.getElem?_eq_some_iff.1 e
    rw [e2]
    rfl
/-- with the same digest beside it on each level -/
theorem known_first {D n : Nat} (d : (List UInt8)) (f : Nat → (List UInt8)) (hn : D ≤ n) : ∀ i, i ≤ D → knownD [0] D (List.replicate n d) f (i + 0) 0 = Nat.rec (f 0) (fun _ t => hashL nodeT [t, d]) i
  | 0, _ => rfl
  | i + 1, h => by
    have ih := known_first d f hn i (by omega)
    rw [Nat.add_zero] at ih
    rw [Nat.add_zero, knownD, up_first, if_pos (by simp), if_neg (by simp), ih]
    have e : givenD (needM [0] D) (List.replicate n d) i (2 * 0 + 1) = d := by
      rw [givenD, needM_at (by omega), need_first (by omega), pre_first i (by omega)]
      simp
      rw [List.getElem?_replicate, if_pos (by omega)]
      rfl
    rw [e]
end Go.Proofs.YtblimejnjboedaaDoor
