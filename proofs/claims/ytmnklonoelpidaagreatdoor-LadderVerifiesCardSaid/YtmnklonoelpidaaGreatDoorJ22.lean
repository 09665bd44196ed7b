/- The root that comes of leaves that are known, and a proof. -/
import Derived.Test.YtmnklonoelpidaaGreatDoorJ21
import Derived.Test.YtmnklonoelpidaaGreatDoorJ8
import Derived.Test.YtmnklonoelpidaaGreatDoorJ20
import Derived.Test.YtmnklonoelpidaaGreatDoorJ10
import Derived.Test.YtmnklonoelpidaaGreatDoorJ1
import Derived.Laws.AppendOwnNone
import Derived.Test.YtmnklonoelpidaaGreatDoorJ9
import Derived.Deep.AppendLies
namespace Go.Proofs.YtmnklonoelpidaaGreatDoor
open Go.RowKit Go.Sort

/-- of a proof, the digest of the needed place x of level i -/
def givenD (M : List (List Nat)) (R : List (List UInt8)) (i x : Nat) : (List UInt8) := (R[pre M i + (M[i]?.getD []).idxOf x]?).getD []
/-- level by level, what is known: f of the leaves LV; R: the proof -/
def knownD (LV : List Nat) (D : Nat) (R : List (List UInt8)) (f : Nat → (List UInt8)) : Nat → Nat → (List UInt8)
  | 0, x => f x
  | i + 1, p => hashL nodeT [if 2 * p ∈ upTo LV i then knownD LV D R f i (2 * p) else givenD (needM LV D) R i (2 * p), if 2 * p + 1 ∈ upTo LV i then knownD LV D R f i (2 * p + 1) else givenD (needM LV D) R i (2 * p + 1)]
/-- the root that comes -/
def comesD (LV : List Nat) (D : Nat) (R : List (List UInt8)) (f : Nat → (List UInt8)) : (List UInt8) := knownD LV D R f D 0
/-- of a pair of which one is known, each is known, or needed -/
theorem pair_known {LV : List Nat} {D i p x : Nat} (hLV : ∀ z ∈ LV, z < 2 ^ D) (hi : i < D) (hp : p ∈ upTo LV (i + 1)) (hx : x / 2 = p) : x ∈ upTo LV i ∨ x ∉ upTo LV i ∧ x ∈ needOf (upTo LV i) (2 ^ (D - i)) := by
  by_cases c : x ∈ upTo LV i
  · exact .inl c
  · obtain ⟨k, hk, hk2⟩ := mem_upTo_succ.1 hp
    have hne : k ≠ x := fun e => c (e ▸ hk)
    have hs : k = sib x := sib_of_half (by omega) hne
    refine .inr ⟨c, ((needs_M hLV).2 i _ (needM_at hi)).2 x |>.2 ⟨hs ▸ hk, c⟩⟩
theorem root_in {LV : List Nat} {D : Nat} (h0 : LV ≠ []) (h : ∀ z ∈ LV, z < 2 ^ D) : 0 ∈ upTo LV D := by
  obtain ⟨k, hk⟩ := List.exists_mem_of_ne_nil LV h0
  exact mem_upTo.2 ⟨k, hk, Nat.div_eq_of_lt (h k hk)⟩
end Go.Proofs.YtmnklonoelpidaaGreatDoor
/- Layer 11's plain facts for the document's own answer: places and their digests in a list. -/
namespace Go.Proofs.YtmnklonoelpidaaGreatDoor
open Go.RowKit Go.Sort

theorem node_len (L : List (List UInt8)) : (hashL nodeT L).length = 32 := by rw [hashL, if_pos (by decide)]; exact shaL_length _
theorem node_ne (L : List (List UInt8)) : hashL nodeT L ≠ [] := fun h => by have := node_len L; rw [h] at this; simp at this
/-- the digest of the first place that is x -/
def findP : List (Nat × (List UInt8)) → Nat → (List UInt8)
  | [], _ => []
  | a :: A, x => if a.1 = x then a.2 else findP A x
theorem find_not : ∀ {A : List (Nat × (List UInt8))} {x : Nat}, x ∉ A.map Prod.fst → findP A x = []
  | [], _, _ => rfl
  | a :: A, x, h => by
    simp only [List.map_cons, List.mem_cons, not_or] at h
    rw [findP, if_neg (fun e => h.1 e.symm)]
    exact find_not h.2
theorem find_app : ∀ {A C : List (Nat × (List UInt8))} {x : Nat}, findP (A ++ C) x = if x ∈ A.map Prod.fst then findP A x else findP C x
  | [], C, x => by simp
  | a :: A, C, x => by
    rw [List.cons_append, findP, findP]
    by_cases e : a.1 = x
    · simp [e]
    · rw [if_neg e, if_neg e, find_app]
      have : x ∈ (a :: A).map Prod.fst ↔ x ∈ A.map Prod.fst := by rw [List.map_cons, List.mem_cons]; exact or_iff_right fun c => e c.symm
      by_cases c : x ∈ A.map Prod.fst
      · rw [if_pos c, if_pos (this.2 c)]
      · rw [if_neg c, if_neg (fun d => c (this.1 d))]
theorem find_snoc {A : List (Nat × (List UInt8))} {p x : Nat} {t : (List UInt8)} (h : p ∉ A.map Prod.fst) : findP (A ++ [(p, t)]) x = if p = x then t else findP A x := by
  rw [find_app]
  by_cases e : p = x
  · subst e; rw [if_neg h, if_pos rfl, findP, if_pos rfl]
  · rw [if_neg e]
    by_cases c : x ∈ A.map Prod.fst
    · rw [if_pos c]
    · rw [if_neg c, find_not c, findP, if_neg e, findP]
theorem find_zip : ∀ {N : List Nat} {D : List (List UInt8)} {x : Nat}, x ∈ N → N.length ≤ D.length → findP (N.zip D) x = (D[N.idxOf x]?).getD []
  | n :: N, [], x, _, h => by simp at h
  | n :: N, d :: D, x, hx, h => by
    rw [List.zip_cons_cons, findP, List.idxOf_cons]
    by_cases e : n = x
    · simp [e]
    · have h1 : x ∈ N := by
        rcases List.mem_cons.1 hx with c | c
        · exact absurd c.symm e
        · exact c
      rw [if_neg e, find_zip h1 (by simpa using h)]
      have : (n == x) = false := by rw [beq_eq_false_iff_ne]; exact e
      simp [this]
/-- one place's parent is reckoned, if it is none of those that are -/
def overStep (A B : List (Nat × (List UInt8))) (k : Nat) : List (Nat × (List UInt8)) := if findP B (k / 2) = [] then B ++ [(k / 2, hashL nodeT [findP A (2 * (k / 2)), findP A (2 * (k / 2) + 1)])] else B
/-- the parents of the first j of them -/
def overP (A : List (Nat × (List UInt8))) : Nat → List (Nat × (List UInt8))
  | 0 => []
  | j + 1 => match A[j]? with
    | some a => overStep A (overP A j) a.1
    | none => overP A j
theorem over_len (A : List (Nat × (List UInt8))) : ∀ j, (overP A j).length ≤ j
  | 0 => by simp [overP]
  | j + 1 => by
    have := over_len A j
    rw [overP]
    split
    · unfold overStep
      split
      · simp; omega
      · omega
    · omega
/-- what is found among the parents: of those that have been met, the digest of the pair -/
theorem over_spec {A : List (Nat × (List UInt8))} : ∀ j, j ≤ A.length →
    (∀ x, x ∈ (overP A j).map Prod.fst ↔ ∃ a ∈ A.take j, a.1 / 2 = x) ∧ ∀ x, findP (overP A j) x = if x ∈ (overP A j).map Prod.fst then hashL nodeT [findP A (2 * x), findP A (2 * x + 1)] else []
  | 0, _ => ⟨fun x => by simp [overP], fun x => by simp [overP, findP]⟩
  | j + 1, hj => by
    obtain ⟨h1, h2⟩ := over_spec (A := A) j (by omega)
    have hjl : j < A.length := hj
    have htk : A.take (j + 1) = A.take j ++ [A[j]] := (List.take_append_getElem hjl).symm
    have e : overP A (j + 1) = overStep A (overP A j) (A[j]).1 := by rw [overP, List.getElem?_eq_getElem hjl]
    rw [e]
    obtain ⟨p, hp⟩ : ∃ p, p = (A[j]).1 / 2 := ⟨_, rfl⟩
    by_cases c : p ∈ (overP A j).map Prod.fst
    · have hs : overStep A (overP A j) (A[j]).1 = overP A j := by
        unfold overStep
        rw [if_neg (by rw [← hp, h2 p, if_pos c]; exact node_ne _)]
      rw [hs]
      refine ⟨fun x => ?_, h2⟩
      rw [h1 x, htk]
      constructor
      · rintro ⟨a, ha, rfl⟩; exact ⟨a, List.mem_append_left _ ha, rfl⟩
      · rintro ⟨a, ha, rfl⟩
        rcases List.mem_append.1 ha with ha | ha
        · exact ⟨a, ha, rfl⟩
        · simp at ha; subst ha; rw [hp] at c; exact (h1 _).1 c
    · have hs : overStep A (overP A j) (A[j]).1 = overP A j ++ [(p, hashL nodeT [findP A (2 * p), findP A (2 * p + 1)])] := by
        unfold overStep
        rw [← hp, if_pos (by rw [h2 p, if_neg c])]
      rw [hs]
      have hm : ∀ x, x ∈ (overP A j ++ [(p, hashL nodeT [findP A (2 * p), findP A (2 * p + 1)])]).map Prod.fst ↔ x ∈ (overP A j).map Prod.fst ∨ x = p := fun x => by simp
      refine ⟨fun x => ?_, fun x => ?_⟩
      · rw [hm x, h1 x, htk]
        constructor
        · rintro (⟨a, ha, rfl⟩ | rfl)
          · exact ⟨a, List.mem_append_left _ ha, rfl⟩
          · exact ⟨A[j], List.mem_append_right _ (by simp), hp.symm⟩
        · rintro ⟨a, ha, rfl⟩
          rcases List.mem_append.1 ha with ha | ha
          · exact .inl ⟨a, ha, rfl⟩
          · simp at ha; subst ha; exact .inr hp.symm
      · rw [find_snoc c]
        by_cases ex : p = x
        · subst ex
          rw [if_pos rfl, if_pos ((hm p).2 (.inr rfl))]
        · rw [if_neg ex, h2 x]
          by_cases cx : x ∈ (overP A j).map Prod.fst
          · rw [if_pos cx, if_pos ((hm x).2 (.inl cx))]
          · rw [if_neg cx, if_neg (fun d => by rcases (hm x).1 d with d | d; exact cx d; exact ex d.symm)]
/-- a level's list: those that are known, each with its digest -/
structure Lev (LV : List Nat) (D : Nat) (R : List (List UInt8)) (f : Nat → (List UInt8)) (i : Nat) (A : List (Nat × (List UInt8))) : Prop where
  key : ∀ x, x ∈ A.map Prod.fst ↔ x ∈ upTo LV i
  dig : ∀ x ∈ upTo LV i, findP A x = knownD LV D R f i x
/-- with the proof's digests behind, and over to the parents: the next level's list -/
theorem Lev.up {LV : List Nat} {D : Nat} {R : List (List UInt8)} {f : Nat → (List UInt8)} {i : Nat} {A C : List (Nat × (List UInt8))} (hLV : ∀ z ∈ LV, z < 2 ^ D) (hi : i < D) (h : Lev LV D R f i A)
    (hC : C = (needOf (upTo LV i) (2 ^ (D - i))).zip (R.drop (pre (needM LV D) i))) (hR : pre (needM LV D) i + (needOf (upTo LV i) (2 ^ (D - i))).length ≤ R.length) :
    Lev LV D R f (i + 1) (overP (A ++ C) (A ++ C).length) := by
  obtain ⟨N, hN⟩ : ∃ N, N = needOf (upTo LV i) (2 ^ (D - i)) := ⟨_, rfl⟩
  rw [← hN] at hC hR
  have hneed : Need (upTo LV i) N := by rw [hN]; exact (needs_M hLV).2 i _ (needM_at hi)
  have hCk : C.map Prod.fst = N := by
    rw [hC, List.map_fst_zip]
    rw [List.length_drop]; omega
  have hval : ∀ x, x ∈ upTo LV i ∨ x ∈ N → findP (A ++ C) x = if x ∈ upTo LV i then knownD LV D R f i x else givenD (needM LV D) R i x := by
    intro x hx
    rw [find_app]
    by_cases c : x ∈ upTo LV i
    · rw [if_pos ((h.key x).2 c), if_pos c, h.dig x c]
    · rw [if_neg (fun d => c ((h.key x).1 d)), if_neg c]
      have hxN : x ∈ N := hx.resolve_left c
      rw [hC, find_zip hxN (by rw [List.length_drop]; omega), givenD, needM_at hi, ← hN, List.getElem?_drop]
      rfl
  obtain ⟨s1, s2⟩ := over_spec (A := A ++ C) _ (Nat.le_refl _)
  have hkey : ∀ x, x ∈ (overP (A ++ C) (A ++ C).length).map Prod.fst ↔ x ∈ upTo LV (i + 1) := by
    intro x
    rw [s1 x, List.take_length, mem_upTo_succ]
    constructor
    · rintro ⟨a, ha, rfl⟩
      rcases List.mem_append.1 ha with ha | ha
      · exact ⟨a.1, (h.key a.1).1 (List.mem_map_of_mem ha), rfl⟩
      · have ha2 : a.1 ∈ N := by rw [← hCk]; exact List.mem_map_of_mem ha
        exact ⟨sib a.1, ((hneed.2 a.1).1 ha2).1, sib_half a.1⟩
    · rintro ⟨k, hk, rfl⟩
      obtain ⟨a, ha, rfl⟩ := List.mem_map.1 ((h.key k).2 hk)
      exact ⟨a, List.mem_append_left _ ha, rfl⟩
  refine ⟨hkey, fun x hx => ?_⟩
  rw [s2 x, if_pos ((hkey x).2 hx), knownD]
  have hv : ∀ y, y / 2 = x → findP (A ++ C) y = if y ∈ upTo LV i then knownD LV D R f i y else givenD (needM LV D) R i y := fun y hy => hval y (by
    rcases pair_known hLV hi hx hy with c | c
    · exact .inl c
    · exact .inr (hN ▸ c.2))
  rw [hv (2 * x) (by omega), hv (2 * x + 1) (by omega)]
/-- at the leaves -/
theorem Lev.start {LV : List Nat} {D : Nat} {R : List (List UInt8)} {f : Nat → (List UInt8)} {A : List (Nat × (List UInt8))} (hA : A = LV.map fun x => (x, f x)) : Lev LV D R f 0 A := by
  subst hA
  refine ⟨fun x => by rw [upTo_zero]; simp, fun x hx => ?_⟩
  rw [upTo_zero] at hx
  rw [knownD]
  clear R D
  induction LV with
  | nil => simp at hx
  | cons a LV ih =>
    rw [List.map_cons, findP]
    by_cases e : a = x
    · rw [if_pos e]; exact congrArg f e
    · rw [if_neg e]
      exact ih (by rcases List.mem_cons.1 hx with c | c; exact absurd c.symm e; exact c)
/-- at the root -/
theorem Lev.root {LV : List Nat} {D : Nat} {R : List (List UInt8)} {f : Nat → (List UInt8)} {A : List (Nat × (List UInt8))} (h : Lev LV D R f D A) (h0 : LV ≠ []) (hLV : ∀ z ∈ LV, z < 2 ^ D) : findP A 0 = comesD LV D R f := by
  obtain ⟨k, hk⟩ := List.exists_mem_of_ne_nil LV h0
  exact h.dig 0 (mem_upTo.2 ⟨k, hk, Nat.div_eq_of_lt (hLV k hk)⟩)
end Go.Proofs.YtmnklonoelpidaaGreatDoor
/- Layer 11's answers, plainly. -/
namespace Go.Proofs.YtmnklonoelpidaaGreatDoor
open Go.RowKit Go.Sort

/-- have all of them 32 bytes? -/
def all32 (L : List (List UInt8)) : Bool := decide (∀ x ∈ L, x.length = 32)
/-- what is wrong with so many digests, where t are needed -/
def sizeE (z t : Nat) : Int := if z < t then 4 else if t < z then 3 else 0
/-- may positions be, of so many elements? -/
def mayP (n : Int) (P : List Nat) : Bool := decide (0 ≤ n ∧ n ≤ 65536) && standsP P n.toNat
theorem may_parts {n : Int} {P : List Nat} (h : mayP n P = true) : ∃ k : Nat, n = (k : Int) ∧ k ≤ 65536 ∧ standsP P k = true := by
  unfold mayP at h
  rw [Bool.and_eq_true, decide_eq_true_eq] at h
  exact ⟨n.toNat, by omega, by omega, h.2⟩
/-- the digest of what stands at a leaf -/
def leafF (P : List Nat) (E : List (List UInt8)) (D x : Nat) : (List UInt8) := hashL leafT [E[P.idxOf (turnB x (D : Int))]?.getD []]
theorem leafF_at {P : List Nat} {E : List (List UInt8)} {n : Nat} (hs : standsP P n = true) (hn : n ≤ 65536) (i : Nat) (h : i < P.length) (h' : i < E.length) : leafF P E (dep n) (turnB P[i] (dep n : Int)) = hashL leafT [E[i]] := by
  have hp := stands_parts hs
  have hd : P.Nodup := hp.2.1.imp fun h => Nat.ne_of_lt h
  rw [leafF, turnB_turnB (dep_le n hn) (Nat.lt_of_lt_of_le (hp.2.2 _ (List.getElem_mem h)) (dep_spec n hn).1), hd.idxOf_getElem i h, List.getElem?_eq_getElem h']
  rfl
theorem lvs_lt {P : List Nat} {n : Nat} (hs : standsP P n = true) (hn : n ≤ 65536) : ∀ x ∈ lvs P (dep n), x < 2 ^ dep n := by
  intro x hx
  obtain ⟨y, hy, rfl⟩ := List.mem_map.1 hx
  exact turnB_lt (dep_le n hn) (Nat.lt_of_lt_of_le ((stands_parts hs).2.2 y hy) (dep_spec n hn).1)
/-- the root that comes, or nothing; and what is wrong -/
def rootV (n : Int) (P : List Nat) (E R : List (List UInt8)) : (List UInt8) × Int :=
  if mayP n P = false ∨ E.length ≠ P.length then ([], 2)
  else if all32 R = false then ([], 5)
  else if sizeE R.length (sizeD P n.toNat) ≠ 0 then ([], sizeE R.length (sizeD P n.toNat))
  else (comesD (lvs P (dep n.toNat)) (dep n.toNat) R (leafF P E (dep n.toNat)), 0)
/-- what Check answers -/
def checkV (root : (List UInt8)) (n : Int) (P : List Nat) (E R : List (List UInt8)) : Int := if (rootV n P E R).2 ≠ 0 then (rootV n P E R).2 else if (rootV n P E R).1 = root then 0 else 20
theorem sizeE_zero {z t : Nat} : sizeE z t = 0 ↔ z = t := by
  unfold sizeE
  split
  · constructor <;> intro h <;> omega
  · split
    · constructor <;> intro h <;> omega
    · constructor <;> intro h <;> omega
theorem all32_at {R : List (List UInt8)} (h : all32 R = true) : ∀ x ∈ R, x.length = 32 := of_decide_eq_true h
/-- the digests beside -/
theorem given_len {M : List (List Nat)} {R : List (List UInt8)} (h : all32 R = true) (i x : Nat) : (givenD M R i x).length ≤ 32 := by
  unfold givenD
  cases hx : R[pre M i + (M[i]?.getD []).idxOf x]? with
  | none => simp
  | some t => rw [Option.getD_some, all32_at h t (List.mem_of_getElem? hx)]; exact Nat.le_refl _
theorem leafF_len (P : List Nat) (E : List (List UInt8)) (D x : Nat) : (leafF P E D x).length ≤ 32 := hashL_len _ _
theorem known_len {LV : List Nat} {D : Nat} {R : List (List UInt8)} {f : Nat → (List UInt8)} (hf : ∀ x, (f x).length ≤ 32) : ∀ i x, (knownD LV D R f i x).length ≤ 32
  | 0, x => hf x
  | _ + 1, _ => hashL_len _ _
theorem drop_cons {R : List (List UInt8)} {k : Nat} (h : k < R.length) : ∃ X, R.drop k = X :: R.drop (k + 1) ∧ R[k]? = some X := ⟨R[k], List.drop_eq_getElem_cons h, List.getElem?_eq_getElem h⟩
theorem zip_take {N : List Nat} {Q : List (List UInt8)} {j x : Nat} {X : (List UInt8)} (h1 : N[j]? = some x) (h2 : Q[j]? = some X) : (N.zip Q).take j ++ [(x, X)] = (N.zip Q).take (j + 1) := by
  obtain ⟨a1, rfl⟩ := List.getElem?_eq_some_iff.1 h1
  obtain ⟨a2, rfl⟩ := List.getElem?_eq_some_iff.1 h2
  have h : j < (N.zip Q).length := by rw [List.length_zip]; omega
  rw [← List.take_append_getElem h, List.getElem_zip]
/-- small places, short digests -/
def GoodP (A : List (Nat × (List UInt8))) : Prop := ∀ a ∈ A, a.1 < 131072 ∧ a.2.length ≤ 32
theorem find_len {A : List (Nat × (List UInt8))} (h : GoodP A) (x : Nat) : (findP A x).length ≤ 32 := by
  induction A with
  | nil => simp [findP]
  | cons a A ih =>
    rw [findP]
    split
    · exact (h a (by simp)).2
    · exact ih fun b hb => h b (by simp [hb])
theorem good_over {A : List (Nat × (List UInt8))} (h : GoodP A) : ∀ j, GoodP (overP A j)
  | 0 => fun a ha => by simp [overP] at ha
  | j + 1 => by
    have ih := good_over h j
    rw [overP]
    cases hj : A[j]? with
    | none => exact ih
    | some a =>
      simp only [overStep]
      split
      · intro b hb
        rcases List.mem_append.1 hb with hb | hb
        · exact ih b hb
        · simp at hb
          subst hb
          have := (h a (List.mem_of_getElem? hj)).1
          exact ⟨by show a.1 / 2 < _; omega, by show (hashL nodeT _).length ≤ 32; exact hashL_len _ _⟩
      · exact ih
theorem good_zip {A : List (Nat × (List UInt8))} {N : List Nat} {Q : List (List UInt8)} (h : GoodP A) (hN : ∀ x ∈ N, x < 131072) (hQ : ∀ x ∈ Q, x.length = 32) : GoodP (A ++ N.zip Q) := by
  intro a ha
  rcases List.mem_append.1 ha with ha | ha
  · exact h a ha
  · obtain ⟨h1, h2⟩ := List.of_mem_zip (show (a.1, a.2) ∈ N.zip Q from ha)
    exact ⟨hN _ h1, Nat.le_of_eq (hQ _ h2)⟩
theorem over_hit {A : List (Nat × (List UInt8))} {t : Nat} (h : t < A.length) (hf : findP (overP A t) (A[t].1 / 2) = []) : overP A (t + 1) = overP A t ++ [(A[t].1 / 2, hashL nodeT [findP A (2 * (A[t].1 / 2)), findP A (2 * (A[t].1 / 2) + 1)])] := by
  rw [overP, List.getElem?_eq_getElem h]
  exact if_pos hf
theorem over_miss {A : List (Nat × (List UInt8))} {t : Nat} (h : t < A.length) (hf : findP (overP A t) (A[t].1 / 2) ≠ []) : overP A (t + 1) = overP A t := by
  rw [overP, List.getElem?_eq_getElem h]
  exact if_neg hf
end Go.Proofs.YtmnklonoelpidaaGreatDoor
/- Layer 11's document: may positions be; places in a row; find; append of a place. -/
namespace Go.Proofs.YtmnklonoelpidaaGreatDoor
open Go.RowKit Go.Sort

set_option maxRecDepth 100000 in
set_option maxHeartbeats 1000000 in
theorem may11_in (ao : Option Addr) (cap : Nat) (P : List Nat) (n : Nat) (w : World) (hN : Nums ao P w) (hn : P.length ≤ 100000) (hnn : n ≤ 65536) :
    Calls Tryz.prog 91 #[.int .i64 (n : Int), .slice ao P.length cap] w fun e w' => e = .returned (.bool (standsP P n)) ∧ Below w.heap.size w w' := by
  have hwn : IntKind.u64.wrap (n : Int) = (n : Int) := by rw [IntKind.wrap_u64]; omega
  have HN := Lib.hid hN
  have n1 : (P.length : Int) ≤ 100000 := by omega
  have m0 : ¬ (n : Int) < 0 := by omega
  have m1 : ¬ (n : Int) > 65536 := by omega
  clear hN hnn
  go_enter Tryz.func91, Tryz.ntmps91
  go_wp2
  clear m0 m1
  go_loopw [5] (fun vi wr => ∃ i : Nat, vi = .int .i64 (i : Int) ∧ i ≤ P.length ∧ Hid (∀ t (h : t < P.length), t < i → P[t] < n) ∧ Hid (∀ t (h : t + 1 < P.length), t + 1 < i → P[t] < P[t + 1]) ∧ Hid (Below w.heap.size w wr)) (fun vi _ => P.length - (intOf vi).toNat)
  case atStart => exact ⟨0, rfl, Nat.zero_le _, Lib.hid (fun t _ h => by omega), Lib.hid (fun t _ h => by omega), Lib.hid (Below.refl _ _)⟩
  case round =>
    obtain ⟨i, rfl, hi, HA, HR, HB⟩ := hrel
    by_cases hie : i < P.length
    · have hl : (i : Int) < (P.length : Int) := by omega
      have i0 : (0 : Int) ≤ (i : Int) := by omega
      have HN2 := nums_next HN.out HB.out
      obtain ⟨b, off, rfl, hc⟩ := nums_at HN2 i hie
      obtain ⟨x, hx⟩ : ∃ x, x = P[i] := ⟨_, rfl⟩
      rw [← hx] at hc
      by_cases hge : n ≤ x
      · have hg : (x : Int) ≥ (n : Int) := by omega
        have q1 : decide (n ≤ x) = true := decide_eq_true hge
        have HS := Lib.hid (show standsP P n = false from decide_eq_false fun h => by have := h.2.2 x (by rw [hx]; exact List.getElem_mem hie); omega)
        clear hx hge HN2
        go_wp2
        go_quiet (fail)
        go_wp2
        go_ret
        exact ⟨by rw [HS.out]; trivial, HB.out.trans ⟨rfl, rfl, rfl, Nat.le_refl _, fun _ _ => rfl⟩⟩
      · have hg : ¬ (x : Int) ≥ (n : Int) := by omega
        have q1 : decide (n ≤ x) = false := decide_eq_false hge
        have HA2 := Lib.hid (show ∀ t (h : t < P.length), t < i + 1 → P[t] < n from fun t h ht => by
          by_cases c : t = i
          · subst c; rw [← hx]; omega
          · exact HA.out t h (by omega))
        by_cases hz : i = 0
        · have hp : ¬ (i : Int) > 0 := by omega
          have q2 : decide (0 < i) = false := decide_eq_false (by omega)
          have HR2 := Lib.hid (show ∀ t (h : t + 1 < P.length), t + 1 < i + 1 → P[t] < P[t + 1] from fun t _ h => by omega)
          clear hx hge hz HN2
          go_wp2
          go_quiet (fail)
          go_wp2
          go_roundw
          case rel => exact ⟨i + 1, by go_num, hie, HA2, HR2, Lib.hid (HB.out.trans ⟨rfl, rfl, rfl, Nat.le_refl _, fun _ _ => rfl⟩)⟩
          case measure => simp [intOf] <;> omega
        · have hp : (i : Int) > 0 := by omega
          have q2 : decide (0 < i) = true := decide_eq_true (by omega)
          obtain ⟨j, hj⟩ : ∃ j, j + 1 = i := ⟨i - 1, by omega⟩
          have hsub : (i : Int) - 1 = (j : Int) := by omega
          have hl2 : (j : Int) < (P.length : Int) := by omega
          have j0 : (0 : Int) ≤ (j : Int) := by omega
          have hjl : j < P.length := by omega
          obtain ⟨b', off', e, hc'⟩ := nums_at HN2 j hjl
          cases e
          obtain ⟨y, hy⟩ : ∃ y, y = P[j] := ⟨_, rfl⟩
          rw [← hy] at hc'
          have HQ := Lib.hid (show (y < x → ∀ t (h : t + 1 < P.length), t + 1 < i + 1 → P[t] < P[t + 1]) ∧ (¬ y < x → standsP P n = false) from ⟨fun h t ht hti => by
            by_cases c : t = j
            · subst c; subst hj; rw [← hx, ← hy]; exact h
            · exact HR.out t ht (by omega), fun h => decide_eq_false fun hp => h (by have := lt_adj hp.2.1 j (by omega); subst hj; rw [hx, hy]; exact this)⟩)
          by_cases hxy : y < x
          · have hle : ¬ (x : Int) ≤ (y : Int) := by omega
            have q3 : decide (x ≤ y) = false := decide_eq_false (by omega)
            have HR2 := Lib.hid (HQ.out.1 hxy)
            clear hx hy hge hz hj HN2 hxy HQ
            go_wp2
            go_quiet (fail)
            go_wp2
            go_roundw
            case rel => exact ⟨i + 1, by go_num, hie, HA2, HR2, Lib.hid (HB.out.trans ⟨rfl, rfl, rfl, Nat.le_refl _, fun _ _ => rfl⟩)⟩
            case measure => simp [intOf] <;> omega
          · have hle : (x : Int) ≤ (y : Int) := by omega
            have q3 : decide (x ≤ y) = true := decide_eq_true (by omega)
            have HS := Lib.hid (HQ.out.2 hxy)
            clear hx hy hge hz hj HN2 hxy HQ
            go_wp2
            go_quiet (fail)
            go_wp2
            go_ret
            exact ⟨by rw [HS.out]; trivial, HB.out.trans ⟨rfl, rfl, rfl, Nat.le_refl _, fun _ _ => rfl⟩⟩
    · have hl : ¬ (i : Int) < (P.length : Int) := by omega
      have HS := Lib.hid (show standsP P n = decide (0 < P.length) from decide_eq_decide.2 ⟨fun h => List.length_pos_iff.2 h.1, fun h => ⟨List.length_pos_iff.1 h, adj_lt fun t ht => HR.out t ht (by omega), fun x hx => by
        obtain ⟨t, ht, rfl⟩ := List.getElem_of_mem hx
        exact HA.out t ht (by omega)⟩⟩)
      go_wp2
      go_ret
      exact ⟨by rw [HS.out]; rfl, HB.out⟩
theorem may11_any (n : Int) (ao : Option Addr) (cap : Nat) (P : List Nat) (w : World) (hN : Nums ao P w) (hn : P.length ≤ 100000) :
    Calls Tryz.prog 91 #[.int .i64 n, .slice ao P.length cap] w fun e w' => e = .returned (.bool (mayP n P)) ∧ Below w.heap.size w w' := by
  by_cases h1 : n < 0
  · have HS := Lib.hid (show mayP n P = false by rw [mayP, decide_eq_false (by omega)]; rfl)
    go_enter Tryz.func91, Tryz.ntmps91
    go_wp2
    go_ret
    exact ⟨by rw [HS.out]; rfl, Below.refl _ _⟩
  · by_cases h2 : n > 65536
    · have HS := Lib.hid (show mayP n P = false by rw [mayP, decide_eq_false (by omega)]; rfl)
      go_enter Tryz.func91, Tryz.ntmps91
      go_wp2
      go_ret
      exact ⟨by rw [HS.out]; rfl, Below.refl _ _⟩
    · obtain ⟨k, rfl⟩ : ∃ k : Nat, n = (k : Int) := ⟨n.toNat, by omega⟩
      rw [mayP, decide_eq_true (by omega), Bool.true_and, Int.toNat_natCast]
      exact may11_in ao cap P k w hN hn (by omega)
/-- places, each with its digest, as cells -/
def plcC (A : List (Nat × (List UInt8))) : List Value := A.flatMap fun p => [.int .u64 (p.1 : Int), .string ⟨p.2.toArray⟩]
theorem plcC_app (A B : List (Nat × (List UInt8))) : plcC (A ++ B) = plcC A ++ plcC B := by simp [plcC]
theorem plcC_at : ∀ (A : List (Nat × (List UInt8))) (i : Nat) (h : i < A.length), (plcC A)[i * 2]? = some (.int .u64 ((A[i]).1 : Int)) ∧ (plcC A)[i * 2 + 1]? = some (.string ⟨(A[i]).2.toArray⟩)
  | a :: A, 0, _ => ⟨rfl, rfl⟩
  | a :: A, i + 1, h => by
    have := plcC_at A i (by simpa using h)
    rw [plcC, List.flatMap_cons, ← plcC, Nat.succ_mul]
    exact this
abbrev PlcRow (B : Nat) (A : List (Nat × (List UInt8))) (v : Value) (w : World) : Prop := w.ownsRow B 131 2 v A.length (plcC A)
theorem PlcRow.at_ {B : Nat} {A : List (Nat × (List UInt8))} {v : Value} {w : World} (h : PlcRow B A v w) : ∃ ao cp, v = .slice ao A.length cp ∧ ∀ i (hi : i < A.length), ∃ g, ao = some ⟨g, 0, none⟩ ∧ w.cell? ⟨g, i * 2, none⟩ = some (.int .u64 ((A[i]).1 : Int)) ∧ w.cell? ⟨g, i * 2 + 1, none⟩ = some (.string ⟨(A[i]).2.toArray⟩) := by
  have h0 := h
  rcases h.2 with ⟨rfl, hz⟩ | ⟨g, cp, cur, rfl, _⟩
  · exact ⟨none, 0, by rw [hz], fun i hi => by omega⟩
  · exact ⟨_, cp, rfl, fun i hi => ⟨g, rfl, (h0.cellAt (i * 2) (by omega)).trans (plcC_at A i hi).1, (h0.cellAt (i * 2 + 1) (by omega)).trans (plcC_at A i hi).2⟩⟩
set_option maxRecDepth 100000 in
set_option maxHeartbeats 1000000 in
theorem find_any (B : Nat) (A : List (Nat × (List UInt8))) (v : Value) (x : Nat) (w : World) (h : PlcRow B A v w) (hn : A.length ≤ 1000000) :
    Calls Tryz.prog 93 #[v, .int .u64 (x : Int)] w fun e w' => e = .returned (.string ⟨(findP A x).toArray⟩) ∧ w = w' := by
  obtain ⟨ao, cp, rfl, hc⟩ := h.at_
  have HC := Lib.hid hc
  have n1 : (A.length : Int) ≤ 1000000 := by omega
  clear h hc
  go_enter Tryz.func93, Tryz.ntmps93
  go_wp2
  go_loopw [5] (fun vi wr => ∃ i : Nat, vi = .int .i64 (i : Int) ∧ i ≤ A.length ∧ Hid (findP A x = findP (A.drop i) x) ∧ w = wr) (fun vi _ => A.length - (intOf vi).toNat)
  case atStart => exact ⟨0, rfl, Nat.zero_le _, Lib.hid rfl, rfl⟩
  case round =>
    obtain ⟨i, rfl, hi, HF, rfl⟩ := hrel
    by_cases hie : i < A.length
    · have hl : (i : Int) < (A.length : Int) := by omega
      have i0 : (0 : Int) ≤ (i : Int) := by omega
      obtain ⟨g, rfl, c1, c2⟩ := HC.out i hie
      have hd := List.drop_eq_getElem_cons hie
      obtain ⟨a, ha⟩ : ∃ a, a = A[i] := ⟨_, rfl⟩
      rw [← ha] at c1 c2 hd
      obtain ⟨k, t⟩ := a
      simp only at c1 c2
      by_cases he : k = x
      · subst he
        have HE := Lib.hid (show findP A k = t by rw [HF.out, hd, findP, if_pos rfl])
        have hq : ((k : Int) == (k : Int)) = true := by simp
        clear ha hd
        go_wp2
        go_ret
        exact ⟨by rw [HE.out]; rfl, rfl⟩
      · have HE := Lib.hid (show findP A x = findP (A.drop (i + 1)) x by rw [HF.out, hd, findP, if_neg he])
        have hq : ((k : Int) == (x : Int)) = false := by rw [beq_eq_false_iff_ne]; omega
        clear ha hd he
        go_wp2
        go_roundw
        case rel => exact ⟨i + 1, by go_num, hie, HE, trivial⟩
        case measure => simp [intOf] <;> omega
    · have hl : ¬ (i : Int) < (A.length : Int) := by omega
      have HE := Lib.hid (show findP A x = [] by rw [HF.out, List.drop_eq_nil_of_le (by omega)]; rfl)
      go_wp2
      go_ret
      exact ⟨by rw [HE.out]; rfl, rfl⟩
theorem infoPl : (Tryz.prog.info? 131).map (fun i => (i.zero, i.size, i.bytes)) = some (some (.agg #[.int .u64 0, .string ⟨#[]⟩]), 2, 24) := by kernel_rfl
end Go.Proofs.YtmnklonoelpidaaGreatDoor
/- The document's own depths, turned bits, elements. -/
namespace Go.Proofs.YtmnklonoelpidaaGreatDoor
open Go.RowKit

theorem turn_go (d j o k : Nat) (h : j < d) : turn (d - j) o k = turn (d - (j + 1)) (2 * o + k % 2) (k / 2) := by
  obtain ⟨m, hm⟩ : ∃ m, d - j = m + 1 := ⟨d - j - 1, by omega⟩
  rw [hm, turn, show d - (j + 1) = m by omega]
set_option maxRecDepth 100000 in
set_option maxHeartbeats 1000000 in
theorem refTurned_any (k : Nat) (d : Int) (w : World) : Calls Tryz.prog 113 #[.int .u64 (k : Int), .int .i64 d] w fun e w' => e = .returned (.int .u64 (turnB k d : Int)) ∧ w = w' := by
  by_cases h0 : d < 0
  · have hT : turnB k d = 0 := if_neg (by simp [standsB]; omega)
    rw [hT]
    go_enter Tryz.func113, Tryz.ntmps113
    go_wp2
    go_ret
    exact ⟨rfl, rfl⟩
  · by_cases h1 : 16 < d
    · have hT : turnB k d = 0 := if_neg (by simp [standsB]; omega)
      rw [hT]
      go_enter Tryz.func113, Tryz.ntmps113
      go_wp2
      go_ret
      exact ⟨rfl, rfl⟩
    · obtain ⟨n, rfl⟩ : ∃ n : Nat, d = (n : Int) := ⟨d.toNat, by omega⟩
      have hn : n ≤ 16 := by omega
      have hp : 2 ^ n ≤ 2 ^ 16 := Nat.pow_le_pow_right (by decide) hn
      have hc : ((2 : Int) ^ n) = ((2 ^ n : Nat) : Int) := by simp
      have hw : IntKind.u64.wrap ((2 : Int) ^ n) = (2 : Int) ^ n := by
        rw [IntKind.wrap_u64, hc]
        generalize 2 ^ n = p at hp ⊢
        omega
      by_cases hkn : k < 2 ^ n
      · have hT : turnB k (n : Int) = turn n 0 k := if_pos (by simp [standsB, hkn]; omega)
        have hge : ¬ ((2 : Int) ^ n ≤ (k : Int)) := by rw [hc]; omega
        have hk16 : k < 65536 := Nat.lt_of_lt_of_le hkn hp
        rw [hT]
        clear hT hc hp
        go_enter Tryz.func113, Tryz.ntmps113
        go_wp2
        clear hw hge
        go_loopw [0, 5, 6] (fun vk vo vj wr => ∃ (kk o j : Nat), vk = .int .u64 (kk : Int) ∧ vo = .int .u64 (o : Int) ∧ vj = .int .i64 (j : Int) ∧ j ≤ n ∧ o < 2 ^ j ∧ kk < 65536 ∧ Hid (turn (n - j) o kk = turn n 0 k) ∧ w = wr) (fun _ _ vj _ => n - (intOf vj).toNat)
        case atStart => exact ⟨k, 0, 0, rfl, rfl, rfl, Nat.zero_le _, by simp, hk16, Lib.hid rfl, rfl⟩
        case round =>
          obtain ⟨kk, o, j, rfl, rfl, rfl, hj, ho, hkk, HT, rfl⟩ := hrel
          have hp : 2 ^ j ≤ 2 ^ 16 := Nat.pow_le_pow_right (by decide) (by omega)
          have HO := Lib.hid ho
          have ho16 : o < 65536 := Nat.lt_of_lt_of_le ho hp
          clear ho hp
          by_cases hlt : j < n
          · have hl : (j : Int) < (n : Int) := by omega
            have hw1 : IntKind.u64.wrap (2 * (o : Int)) = 2 * (o : Int) := by rw [IntKind.wrap_u64]; omega
            have hw2 : IntKind.u64.wrap (2 * (o : Int) + (kk : Int) % 2) = ((2 * o + kk % 2 : Nat) : Int) := by rw [IntKind.wrap_u64]; omega
            have hq : IntKind.u64.wrap ((kk : Int).tdiv 2) = ((kk / 2 : Nat) : Int) := by rw [IntKind.wrap_u64, Int.tdiv_eq_ediv_of_nonneg (by omega)]; omega
            have hlt2 : kk / 2 < 65536 := by omega
            have HN := Lib.hid (turn_go n j o kk hlt)
            have hb : 2 * o + kk % 2 < 2 ^ (j + 1) := by have := HO.out; rw [Nat.pow_succ]; omega
            go_wp2
            go_roundw
            case rel => exact ⟨kk / 2, 2 * o + kk % 2, j + 1, rfl, rfl, by go_num, hlt, hb, hlt2, Lib.hid (HN.out.symm.trans HT.out), trivial⟩
            case measure => simp [intOf] <;> omega
          · have hl : ¬ (j : Int) < (n : Int) := by omega
            have HE := Lib.hid (show o = turn n 0 k by have := HT.out; rw [show n - j = 0 by omega, turn] at this; exact this)
            go_wp2
            go_ret
            exact ⟨by rw [← HE.out]; rfl, rfl⟩
      · have hT : turnB k (n : Int) = 0 := if_neg (by simp [standsB, hkn])
        have hge : (2 : Int) ^ n ≤ (k : Int) := by rw [hc]; omega
        rw [hT]
        clear hT hc hp
        go_enter Tryz.func113, Tryz.ntmps113
        go_wp2
        go_ret
        exact ⟨rfl, rfl⟩
set_option maxRecDepth 100000 in
set_option maxHeartbeats 1000000 in
theorem refDepth_any (n : Int) (w : World) : Calls Tryz.prog 44 #[.int .i64 n] w fun e w' => e = .returned (.int .i64 (depthV n)) ∧ w = w' := by
  by_cases h1 : n < 0
  · have hd : depthV n = -1 := if_pos (.inl h1)
    rw [hd]
    clear hd
    go_enter Tryz.func44, Tryz.ntmps44
    go_wp2
    go_ret
    exact ⟨rfl, rfl⟩
  · by_cases h2 : 65536 < n
    · have hd : depthV n = -1 := if_pos (.inr h2)
      rw [hd]
      clear hd
      go_enter Tryz.func44, Tryz.ntmps44
      go_wp2
      go_ret
      exact ⟨rfl, rfl⟩
    · obtain ⟨m, rfl⟩ : ∃ m : Nat, n = (m : Int) := ⟨n.toNat, by omega⟩
      have hd : depthV (m : Int) = (dep m : Int) := by rw [depthV, if_neg (by omega)]; rfl
      have HS := Lib.hid (dep_spec m (by omega))
      have hle := dep_le m (by omega)
      rw [hd]
      clear hd
      generalize dep m = D at *
      go_enter Tryz.func44, Tryz.ntmps44
      go_wp2
      go_loopw [3] (fun v wr => ∃ j : Nat, v = .int .i64 (j : Int) ∧ j ≤ D ∧ w = wr) (fun v _ => D - (intOf v).toNat)
      case atStart => exact ⟨0, rfl, Nat.zero_le _, rfl⟩
      case round =>
        obtain ⟨j, rfl, hj, rfl⟩ := hrel
        have hp : 2 ^ j ≤ 2 ^ 16 := Nat.pow_le_pow_right (by decide) (by omega)
        have hc : ((2 : Int) ^ j) = ((2 ^ j : Nat) : Int) := by simp
        have hw : IntKind.i64.wrap ((2 : Int) ^ j) = (2 : Int) ^ j := by
          rw [hc]
          generalize 2 ^ j = p at hp ⊢
          have e : (p : Int) % 2 ^ 64 = (p : Int) := by omega
          simp only [IntKind.wrap, IntKind.bits, IntKind.signed, e]
          rw [if_neg (by simp; omega)]
        by_cases hlt : j < D
        · have hl : (2 : Int) ^ j < (m : Int) := by have := HS.out.2 j hlt; rw [hc]; omega
          clear hc hp
          go_wp2
          go_roundw
          case rel => exact ⟨j + 1, by go_num, hlt, trivial⟩
          case measure => simp [intOf] <;> omega
        · have hjd : j = D := by omega
          subst hjd
          have hl : ¬ (2 : Int) ^ j < (m : Int) := by have := HS.out.1; rw [hc]; omega
          clear hc hp
          go_wp2
          go_ret
          exact ⟨rfl, rfl⟩
end Go.Proofs.YtmnklonoelpidaaGreatDoor
/- The document's own depths, turned bits, siblings. -/
namespace Go.Proofs.YtmnklonoelpidaaGreatDoor
open Go.RowKit Go.Sort

theorem refSib_any (k : Nat) (hk : k < 18446744073709551616) (w : World) : Calls Tryz.prog 122 #[.int .u64 (k : Int)] w fun e w' => e = .returned (.int .u64 (sib k : Int)) ∧ w = w' := by
  rcases Nat.mod_two_eq_zero_or_one k with h | h
  · have hs : sib k = k + 1 := if_pos h
    have h1 : ((k : Int) % 2 == 0) = true := by simp; omega
    have h2 : IntKind.u64.wrap ((k : Int) + 1) = ((k + 1 : Nat) : Int) := by rw [IntKind.wrap_u64]; omega
    rw [hs]
    go_enter Tryz.func122, Tryz.ntmps122
    go_wp2
    go_ret
    exact ⟨by simp, rfl⟩
  · have hs : sib k = k - 1 := if_neg (by omega)
    have h1 : ((k : Int) % 2 == 0) = false := by rw [beq_eq_false_iff_ne]; omega
    have h2 : IntKind.u64.wrap ((k : Int) - 1) = ((k - 1 : Nat) : Int) := by rw [IntKind.wrap_u64]; omega
    rw [hs]
    go_enter Tryz.func122, Tryz.ntmps122
    go_wp2
    go_ret
    exact ⟨by simp <;> omega, rfl⟩
theorem refLeaf_any (k : Nat) (d : Int) (w : World) : Calls Tryz.prog 92 #[.int .u64 (k : Int), .int .i64 d] w fun e w' => e = .returned (.int .u64 (turnB k d : Int)) ∧ w = w' := by
  have HC := Lib.hid (refTurned_any k d w)
  go_enter Tryz.func92, Tryz.ntmps92
  go_wp2_with (go_at_call 113; refine HC.out.mono ?_; rintro e w' ⟨rfl, rfl⟩)
  go_ret
  exact ⟨rfl, rfl⟩
end Go.Proofs.YtmnklonoelpidaaGreatDoor
/- The document's own lists: is a number in one; put into a rising one. -/
namespace Go.Proofs.YtmnklonoelpidaaGreatDoor
open Go.RowKit Go.Sort

/-- v is the list L -/
def Ls (v : Value) (L : List Nat) (w : World) : Prop :=
  (v = .slice none 0 0 ∧ L = []) ∨ ∃ g cap, v = .slice (some ⟨g, 0, none⟩) L.length cap ∧ L.length ≤ cap ∧ g < w.heap.size ∧ ∀ i (h : i < L.length), w.cell? ⟨g, i, none⟩ = some (.int .u64 (L[i] : Int))
theorem Ls.next {v : Value} {L : List Nat} {w w' : World} (h : Ls v L w) (hb : Below w.heap.size w w') : Ls v L w' := by
  rcases h with h | ⟨g, cap, h1, h2, h3, h4⟩
  · exact .inl h
  · exact .inr ⟨g, cap, h1, h2, by have := hb.size; omega, fun i hi => (hb.cell (p := ⟨g, i, none⟩) h3).trans (h4 i hi)⟩
theorem Ls.of_own {base : Nat} {v : Value} {L : List Nat} {w : World} (h : w.ownsRow base 22 1 v L.length (L.map encU)) : Ls v L w := by
  have h0 := h
  rcases h.2 with ⟨rfl, hl⟩ | ⟨g, cap, cur, rfl, h1, h2, h3, h4, h5, h6⟩
  · exact .inl ⟨rfl, List.length_eq_zero_iff.1 hl⟩
  · refine .inr ⟨g, cap, rfl, h3, (Array.getElem?_eq_some_iff.1 h2).1, fun i hi => ?_⟩
    have := h0.cellAt i (by simpa using hi)
    refine this.trans ?_
    simp [encU, hi]
set_option maxRecDepth 100000 in
theorem refHas_any (ao : Option Addr) (cap : Nat) (L : List Nat) (k : Nat) (w : World) (hN : Nums ao L w) (hn : L.length ≤ 1000) : Calls Tryz.prog 123 #[.slice ao L.length cap, .int .u64 (k : Int)] w fun e w' => e = .returned (.bool (decide (k ∈ L))) ∧ w = w' := by
  have HN := Lib.hid hN
  have n1 : (L.length : Int) ≤ 1000 := by omega
  clear hN hn
  go_enter Tryz.func123, Tryz.ntmps123
  go_wp2
  go_loopw [5] (fun vi wr => ∃ i : Nat, vi = .int .i64 (i : Int) ∧ i ≤ L.length ∧ Hid (∀ t, t < i → L[t]? ≠ some k) ∧ w = wr) (fun vi _ => (L.length : Int).toNat - (intOf vi).toNat)
  case atStart => exact ⟨0, rfl, Nat.zero_le _, Lib.hid (fun t h => by omega), rfl⟩
  case round =>
    obtain ⟨i, rfl, hi, HT, rfl⟩ := hrel
    by_cases hie : i = L.length
    · have hl : ¬ (i : Int) < (L.length : Int) := by omega
      have HE := Lib.hid (show k ∉ L from fun h => by
        obtain ⟨t, ht⟩ := List.getElem?_of_mem h
        exact HT.out t (by rw [hie]; exact (List.getElem?_eq_some_iff.1 ht).1) ht)
      clear hie
      go_wp2
      go_ret
      exact ⟨by rw [decide_eq_false HE.out]; rfl, rfl⟩
    · have hil : i < L.length := by omega
      have hl : (i : Int) < (L.length : Int) := by omega
      have i0 : (0 : Int) ≤ (i : Int) := by omega
      obtain ⟨b, off, rfl, hc⟩ := nums_at HN.out i hil
      obtain ⟨x, hx⟩ : ∃ x, x = L[i] := ⟨_, rfl⟩
      rw [← hx] at hc
      by_cases hk : x = k
      · have he : ((x : Int) == (k : Int)) = true := by rw [hk]; simp
        have HE := Lib.hid (show k ∈ L by rw [← hk, hx]; exact List.getElem_mem hil)
        clear hk hx
        go_wp2
        go_ret
        exact ⟨by rw [decide_eq_true HE.out]; rfl, rfl⟩
      · have he : ((x : Int) == (k : Int)) = false := by rw [beq_eq_false_iff_ne]; omega
        have HX := Lib.hid (show ∀ t, t < i + 1 → L[t]? ≠ some k from fun t ht => by
          by_cases c : t = i
          · subst c; rw [List.getElem?_eq_getElem hil, ← hx]; intro h; cases h; exact hk rfl
          · exact HT.out t (by omega))
        clear hk hx
        go_wp2
        go_roundw
        case rel => exact ⟨i + 1, by go_num, hil, HX, trivial⟩
        case measure => simp [intOf] <;> omega
/-- append of numbers that lie somewhere -/
theorem append_nums {ops : Array Oper} {rest : List Oper} {o : Oper} {a : Act} {Q : Exit → Act → World → Prop} {wr : World} {base g off c : Nat} {X Y : List Nat} {v : Value} (hgd : o.guard = none) (s x : Operand)
    (ho : o.op = .call { callee := .builtin .append, args := #[s, x], argTypes := #[44, 44] })
    (hs : a.eval s = v) (hx : a.eval x = .slice (some ⟨g, off, none⟩) Y.length c) (hY : ∀ i (h : i < Y.length), wr.cell? ⟨g, off + i, none⟩ = some (.int .u64 (Y[i] : Int))) (hown : wr.ownsRow base 22 1 v X.length (X.map encU)) (hn : X.length + Y.length ≤ 100000) (h0 : base ≤ wr.heap.size)
    (h : ∀ v' w', w'.ownsRow base 22 1 v' (X ++ Y).length ((X ++ Y).map encU) → wr.grownBy w' v.ownBlock → wpList Tryz.prog ops Q rest (a.put o.dst v') w') :
    wpList Tryz.prog ops Q (o :: rest) a wr := by
  obtain ⟨i0, hi, hz0, hz1, hz2⟩ := info_parts infoU
  refine wpList_append_own _ hgd s x 44 ho base 22 i0 (.int .u64 0) 1 8 Tryz.underlying44 hi hz0 hz1 hz2 rfl (by decide) v X.length _ hs hown ⟨g, off, none⟩ Y.length c (Y.map encU) hx (by simp) ?_ ?_ (by unfold maxLen; omega) (by omega) h0 ?_
  · intro j u hj
    have hjl : j < Y.length := by
      rcases Nat.lt_or_ge j Y.length with h | h
      · exact h
      · rw [List.getElem?_eq_none (by simpa using h)] at hj; cases hj
    rw [List.getElem?_map, List.getElem?_eq_getElem hjl] at hj
    cases hj
    rw [Addr.add_mid]
    exact hY j hjl
  · intro u hu
    obtain ⟨y, _, rfl⟩ := List.mem_map.1 hu
    rfl
  · intro v' w' hown' hg _
    refine h v' w' ?_ hg
    rw [List.length_append, List.map_append]
    exact hown'
end Go.Proofs.YtmnklonoelpidaaGreatDoor
/- The document's put: into a rising list, once. -/
namespace Go.Proofs.YtmnklonoelpidaaGreatDoor
open Go.RowKit Go.Sort

/-- L' is L and k, rising -/
def Ins (L : List Nat) (k : Nat) (L' : List Nat) : Prop := L'.Pairwise (· < ·) ∧ (∀ x, x ∈ L' ↔ x = k ∨ x ∈ L) ∧ L'.length ≤ L.length + 1
theorem ins_mid {L : List Nat} {k a : Nat} (hL : L.Pairwise (· < ·)) (h1 : ∀ i (h : i < L.length), i < a → L[i] < k) (h2 : ∀ i (h : i < L.length), a ≤ i → k < L[i]) : Ins L k (L.take a ++ [k] ++ L.drop a) := by
  have t1 : ∀ x ∈ L.take a, x < k := by
    intro x hx
    obtain ⟨i, hi, rfl⟩ := List.mem_iff_getElem.1 hx
    have hi2 : i < a ∧ i < L.length := by have h := hi; rw [List.length_take] at h; omega
    rw [List.getElem_take]
    exact h1 i hi2.2 hi2.1
  have t2 : ∀ x ∈ L.drop a, k < x := by
    intro x hx
    obtain ⟨i, hi, rfl⟩ := List.mem_iff_getElem.1 hx
    rw [List.getElem_drop]
    have hi2 : i < L.length - a := by simpa using hi
    exact h2 (a + i) (by omega) (by omega)
  refine ⟨?_, fun x => ?_, by simp; omega⟩
  · rw [List.append_assoc, List.pairwise_append]
    refine ⟨hL.sublist (List.take_sublist _ _), ?_, fun x hx y hy => ?_⟩
    · rw [List.singleton_append, List.pairwise_cons]
      exact ⟨t2, hL.sublist (List.drop_sublist _ _)⟩
    · rcases List.mem_append.1 hy with h | h
      · simp at h; subst h; exact t1 x hx
      · have := t1 x hx; have := t2 y h; omega
  · simp only [List.mem_append, List.mem_singleton]
    have e : x ∈ L ↔ x ∈ L.take a ∨ x ∈ L.drop a := by
      conv => lhs; rw [← List.take_append_drop a L]
      exact List.mem_append
    rw [e]
    constructor
    · rintro ((h | h) | h)
      · exact .inr (.inl h)
      · exact .inl h
      · exact .inr (.inr h)
    · rintro (h | h | h)
      · exact .inl (.inr h)
      · exact .inl (.inl h)
      · exact .inr h
theorem ins_same {L : List Nat} {k : Nat} (hL : L.Pairwise (· < ·)) (h : k ∈ L) : Ins L k L := ⟨hL, fun x => ⟨.inr, fun h' => h'.elim (fun e => e ▸ h) id⟩, by omega⟩
set_option maxRecDepth 100000 in
set_option maxHeartbeats 2000000 in
theorem putNil_any (k : Nat) (w : World) : Calls Tryz.prog 121 #[.slice none 0 0, .int .u64 (k : Int)] w fun e w' => ∃ v' L', e = .returned v' ∧ w'.ownsRow w.heap.size 22 1 v' L'.length (L'.map encU) ∧ Ins [] k L' ∧ Below w.heap.size w w' := by
  obtain ⟨i0, hi, hz0, hz1, hz2⟩ := info_parts infoU
  have HI := Lib.hid hi
  have HO0 := Lib.hid (show w.ownsRow w.heap.size 22 1 (.slice none 0 0) ([] : List Nat).length (([] : List Nat).map encU) from World.ownsRow_nil w w.heap.size 22 1)
  clear hi hz0 hz1 hz2
  go_enter Tryz.func121, Tryz.ntmps121
  go_wp2
  refine wp_loop_rounds 1 ?_
  rw [rounds_succ]
  go_wp2_with (first
    | (at_builtin; (refine wpList_append_own_none rfl _ _ 44 rfl w.heap.size 22 i0 1 Tryz.underlying44 HI.out _ _ _ rfl HO0.out rfl ?_))
    | (at_builtin; (refine append_num rfl _ _ rfl rfl rfl HO0.out (by simp) (Nat.le_refl _) ?_); intro v3 w3 ho3 hg3; have HO3 := Lib.hid ho3; have HB3 := Lib.hid ((Below.refl w.heap.size w).grown hg3 (Nat.le_refl _) (fun k e => by cases e)); clear ho3 hg3)
    | (at_builtin; (refine wpList_append_own_none rfl _ _ 44 rfl w.heap.size 22 i0 1 Tryz.underlying44 HI.out _ _ _ rfl HO3.out rfl ?_)))
  go_ret
  exact ⟨_, [k], rfl, HO3.out, ins_mid (L := []) (k := k) (a := 0) List.Pairwise.nil (fun i h => by simp at h) (fun i h => by simp at h), HB3.out⟩
set_option maxRecDepth 100000 in
set_option maxHeartbeats 4000000 in
theorem putSome_any (k : Nat) (g cap : Nat) (L : List Nat) (w : World) (hcp : L.length ≤ cap) (hg : g < w.heap.size) (hc : ∀ i (h : i < L.length), w.cell? ⟨g, i, none⟩ = some (.int .u64 (L[i] : Int))) (hn : L.length ≤ 2000) (hL : L.Pairwise (· < ·)) :
    Calls Tryz.prog 121 #[.slice (some ⟨g, 0, none⟩) L.length cap, .int .u64 (k : Int)] w fun e w' => ∃ v' L', e = .returned v' ∧ ((v' = .slice (some ⟨g, 0, none⟩) L.length cap ∧ L' = L) ∨ w'.ownsRow w.heap.size 22 1 v' L'.length (L'.map encU)) ∧ Ins L k L' ∧ Below w.heap.size w w' := by
  obtain ⟨i0, hi, hz0, hz1, hz2⟩ := info_parts infoU
  have HI := Lib.hid hi
  have HO0 := Lib.hid (show w.ownsRow w.heap.size 22 1 (.slice none 0 0) ([] : List Nat).length (([] : List Nat).map encU) from World.ownsRow_nil w w.heap.size 22 1)
  have HC := Lib.hid hc
  have HL := Lib.hid hL
  have n1 : (L.length : Int) ≤ 2000 := by omega
  clear hi hz0 hz1 hz2 hc hL
  go_enter Tryz.func121, Tryz.ntmps121
  go_wp2
  go_loopw [5] (fun v wr => ∃ i : Nat, v = .int .i64 (i : Int) ∧ i ≤ L.length ∧ Hid (∀ t (h : t < L.length), t < i → L[t] < k) ∧ w = wr) (fun v _ => (L.length : Int).toNat - (intOf v).toNat)
  case atStart => exact ⟨0, rfl, Nat.zero_le _, Lib.hid (fun t h h2 => by omega), rfl⟩
  case round =>
    obtain ⟨i, rfl, hil, HT, rfl⟩ := hrel
    have i0' : (0 : Int) ≤ (i : Int) := by omega
    by_cases hie : i < L.length
    · have hl : decide (i < L.length) = true := by rw [decide_eq_true_iff]; exact hie
      obtain ⟨x, hx⟩ : ∃ x, x = L[i] := ⟨_, rfl⟩
      have fx : w.cell? ⟨g, i, none⟩ = some (.int .u64 (x : Int)) := by rw [hx]; exact HC.out i hie
      have hiI : (i : Int) < (L.length : Int) := by omega
      have HX := Lib.hid hx
      clear hx
      by_cases hlt : x < k
      · go_wp2
        go_roundw
        case rel => exact ⟨i + 1, by go_num, hie, Lib.hid (fun t h h2 => by
          by_cases c : t = i
          · subst c; rw [← HX.out]; exact hlt
          · exact HT.out t h (by omega)), trivial⟩
        case measure => simp [intOf] <;> omega
      · by_cases heq : x = k
        · have he : ((x : Int) == (k : Int)) = true := by rw [heq]; simp
          have HM := Lib.hid (show k ∈ L by rw [← heq, HX.out]; exact List.getElem_mem hie)
          clear heq
          go_wp2
          go_ret
          exact ⟨_, L, rfl, .inl ⟨rfl, rfl⟩, ins_same HL.out HM.out, Below.refl _ _⟩
        · have he : ((x : Int) == (k : Int)) = false := by rw [beq_eq_false_iff_ne]; omega
          have HG := Lib.hid (show ∀ t (h : t < L.length), i ≤ t → k < L[t] from fun t h h2 => by
            have hk : k < L[i] := by rw [← HX.out]; omega
            by_cases c : t = i
            · subst c; exact hk
            · have := List.pairwise_iff_getElem.1 HL.out i t hie h (by omega)
              omega)
          clear heq
          have hic : (i : Int) ≤ (cap : Int) := by omega
          have hne : ¬ cap = i := by omega
          have htl : (L.take i).length = i := by rw [List.length_take]; omega
          have hdl : (L.drop i).length = L.length - i := List.length_drop
          have HTK := Lib.hid (show ∀ t (h : t < (L.take i).length), w.cell? ⟨g, 0 + t, none⟩ = some (.int .u64 ((L.take i)[t] : Int)) from fun t h => by
            rw [List.getElem_take, Nat.zero_add]; exact HC.out t (by rw [htl] at h; omega))
          have HTL := Lib.hid htl
          have HDL := Lib.hid hdl
          clear htl hdl
          have HDR := Lib.hid (show ∀ t (h : t < (L.drop i).length), w.cell? ⟨g, i + t, none⟩ = some (.int .u64 ((L.drop i)[t] : Int)) from fun t h => by
            rw [List.getElem_drop]; exact HC.out (i + t) (by rw [HDL.out] at h; omega))
          have HIN := Lib.hid (show Ins L k ([] ++ L.take i ++ [k] ++ L.drop i) by rw [List.nil_append]; exact ins_mid HL.out HT.out HG.out)
          go_wp2_with (first
            | (at_builtin; (refine append_nums (X := []) (Y := L.take i) (g := g) (off := 0) (c := cap) rfl _ _ rfl rfl (by rw [HTL.out]; rfl) HTK.out HO0.out (by rw [HTL.out]; simp; omega) (Nat.le_refl _) ?_); intro v3 w3 ho3 hg3; have HO3 := Lib.hid ho3; have HB3 := Lib.hid ((Below.refl w.heap.size w).grown hg3 (Nat.le_refl _) (fun k e => by cases e)); clear ho3 hg3)
            | (at_builtin; (refine append_num (X := [] ++ L.take i) (c := k) rfl _ _ rfl rfl rfl HO3.out (by rw [List.nil_append, HTL.out]; omega) HB3.out.size ?_); intro v4 w4 ho4 hg4; have HO4 := Lib.hid ho4; have HB4 := Lib.hid (HB3.out.grown hg4 HB3.out.size (fun j e => row_low HO3.out (Nat.le_refl _) j e)); clear ho4 hg4)
            | (at_builtin; (refine append_nums (X := [] ++ L.take i ++ [k]) (Y := L.drop i) (g := g) (off := i) (c := cap - i) rfl _ _ rfl rfl (by rw [HDL.out]; rfl) (fun t h => (HB4.out.cell (p := ⟨g, i + t, none⟩) hg).trans (HDR.out t h)) HO4.out (by simp; omega) HB4.out.size ?_); intro v5 w5 ho5 hg5; have HO5 := Lib.hid ho5; have HB5 := Lib.hid (HB4.out.grown hg5 HB4.out.size (fun j e => row_low HO4.out (Nat.le_refl _) j e)); clear ho5 hg5))
          go_ret
          exact ⟨_, _, rfl, .inr HO5.out, HIN.out, HB5.out⟩
    · have hie' : i = L.length := by omega
      have hl : decide (i < L.length) = false := by rw [decide_eq_false_iff_not]; exact hie
      have HIN := Lib.hid (show Ins L k ([] ++ L.take i ++ [k] ++ L.drop i) by
        rw [List.nil_append]; exact ins_mid HL.out HT.out (fun t h h2 => by omega))
      have htl : (L.take i).length = i := by rw [List.length_take]; omega
      have hdl : (L.drop i).length = L.length - i := List.length_drop
      have HTK := Lib.hid (show ∀ t (h : t < (L.take i).length), w.cell? ⟨g, 0 + t, none⟩ = some (.int .u64 ((L.take i)[t] : Int)) from fun t h => by
        rw [List.getElem_take, Nat.zero_add]; exact HC.out t (by rw [htl] at h; omega))
      have HTL := Lib.hid htl
      have HDL := Lib.hid hdl
      have HIE := Lib.hid hie'
      have hic : (i : Int) ≤ (cap : Int) := by omega
      have hil2 : (i : Int) ≤ (L.length : Int) := by omega
      clear htl hdl hie'
      by_cases hci : cap = i
      · skip
        go_wp2_with (first
          | (at_builtin; (refine append_nums (X := []) (Y := L.take i) (g := g) (off := 0) (c := i) rfl _ _ rfl rfl (by rw [HTL.out]; rfl) HTK.out HO0.out (by rw [HTL.out]; simp; omega) (Nat.le_refl _) ?_); intro v3 w3 ho3 hg3; have HO3 := Lib.hid ho3; have HB3 := Lib.hid ((Below.refl w.heap.size w).grown hg3 (Nat.le_refl _) (fun k e => by cases e)); clear ho3 hg3)
          | (at_builtin; (refine append_num (X := [] ++ L.take i) (c := k) rfl _ _ rfl rfl rfl HO3.out (by rw [List.nil_append, HTL.out]; omega) HB3.out.size ?_); intro v4 w4 ho4 hg4; have HO4 := Lib.hid ho4; have HB4 := Lib.hid (HB3.out.grown hg4 HB3.out.size (fun j e => row_low HO3.out (Nat.le_refl _) j e)); clear ho4 hg4)
          | (at_builtin; (refine append_nums (X := [] ++ L.take i ++ [k]) (Y := L.drop i) (g := g) (off := 0) (c := 0) rfl _ _ rfl rfl (by rw [HDL.out]; first | rfl | (have := HIE.out; simp [this]; done)) (fun t h => absurd h (by rw [HDL.out]; have := HIE.out; omega)) HO4.out (by simp; omega) HB4.out.size ?_); intro v5 w5 ho5 hg5; have HO5 := Lib.hid ho5; have HB5 := Lib.hid (HB4.out.grown hg5 HB4.out.size (fun j e => row_low HO4.out (Nat.le_refl _) j e)); clear ho5 hg5))
        go_ret
        exact ⟨_, _, rfl, .inr HO5.out, HIN.out, HB5.out⟩
      · skip
        go_wp2_with (first
          | (at_builtin; (refine append_nums (X := []) (Y := L.take i) (g := g) (off := 0) (c := cap) rfl _ _ rfl rfl (by rw [HTL.out]; rfl) HTK.out HO0.out (by rw [HTL.out]; simp; omega) (Nat.le_refl _) ?_); intro v3 w3 ho3 hg3; have HO3 := Lib.hid ho3; have HB3 := Lib.hid ((Below.refl w.heap.size w).grown hg3 (Nat.le_refl _) (fun k e => by cases e)); clear ho3 hg3)
          | (at_builtin; (refine append_num (X := [] ++ L.take i) (c := k) rfl _ _ rfl rfl rfl HO3.out (by rw [List.nil_append, HTL.out]; omega) HB3.out.size ?_); intro v4 w4 ho4 hg4; have HO4 := Lib.hid ho4; have HB4 := Lib.hid (HB3.out.grown hg4 HB3.out.size (fun j e => row_low HO3.out (Nat.le_refl _) j e)); clear ho4 hg4)
          | (at_builtin; (refine append_nums (X := [] ++ L.take i ++ [k]) (Y := L.drop i) (g := g) (off := i) (c := cap - i) rfl _ _ rfl rfl (by rw [HDL.out]; rfl) (fun t h => absurd h (by rw [HDL.out]; have := HIE.out; omega)) HO4.out (by simp; omega) HB4.out.size ?_); intro v5 w5 ho5 hg5; have HO5 := Lib.hid ho5; have HB5 := Lib.hid (HB4.out.grown hg5 HB4.out.size (fun j e => row_low HO4.out (Nat.le_refl _) j e)); clear ho5 hg5))
        go_ret
        exact ⟨_, _, rfl, .inr HO5.out, HIN.out, HB5.out⟩
theorem kept_all {w w' : World} (h : Below w.heap.size w w') : Kept (fun _ => True) w w' := ⟨h.os, h.tape, h.output, h.size, fun j hj _ => h.block j hj⟩
theorem put_any (v : Value) (L : List Nat) (k B : Nat) (w : World) (hB : B ≤ w.heap.size) (ho : w.ownsRow B 22 1 v L.length (L.map encU)) (hn : L.length ≤ 2000) (hL : L.Pairwise (· < ·)) :
    Calls Tryz.prog 121 #[v, .int .u64 (k : Int)] w fun e w' => ∃ v' L', e = .returned v' ∧ w'.ownsRow B 22 1 v' L'.length (L'.map encU) ∧ Ins L k L' ∧ Below w.heap.size w w' := by
  rcases Ls.of_own ho with ⟨rfl, rfl⟩ | ⟨g, cap, rfl, h2, h3, h4⟩
  · refine (putNil_any k w).mono ?_
    rintro e w' ⟨v', L', rfl, h1, h2, h3⟩
    exact ⟨v', L', rfl, row_base h1 hB, h2, h3⟩
  · refine (putSome_any k g cap L w h2 h3 h4 hn hL).mono ?_
    rintro e w' ⟨v', L', rfl, h1, h2, h3⟩
    refine ⟨v', L', rfl, ?_, h2, h3⟩
    rcases h1 with ⟨rfl, rfl⟩ | h1
    · exact own_kept ho (kept_all h3) (fun _ _ => trivial)
    · exact row_base h1 hB
end Go.Proofs.YtmnklonoelpidaaGreatDoor
/- What is needed of some leaves: the document's answer. -/
namespace Go.Proofs.YtmnklonoelpidaaGreatDoor
open Go.RowKit Go.Sort

/-- v is the rows of the first i levels -/
def Outs (B : Nat) (L : List Nat) (v : Value) (i : Nat) (w : World) : Prop :=
  ∃ (vs : List Value) (Ms : List (List Nat)), w.ownsRow B 44 1 v i vs ∧ Ms.length = i ∧ ∀ (j : Nat) (x : Value) (N : List Nat), vs[j]? = some x → Ms[j]? = some N → w.ownsRow B 22 1 x N.length (N.map encU) ∧ Need (upTo L j) N ∧ N.length ≤ 1000
theorem Outs.next {B : Nat} {L : List Nat} {v : Value} {i : Nat} {w w' : World} (h : Outs B L v i w) (hb : Below w.heap.size w w') : Outs B L v i w' := by
  obtain ⟨vs, Ms, h1, h2, h3⟩ := h
  exact ⟨vs, Ms, own_kept h1 (kept_all hb) (fun _ _ => trivial), h2, fun j x N hx hN => ⟨own_kept (h3 j x N hx hN).1 (kept_all hb) (fun _ _ => trivial), (h3 j x N hx hN).2⟩⟩
theorem Outs.size {B : Nat} {L : List Nat} {v : Value} {i : Nat} {w : World} (h : Outs B L v i w) : ∀ j, v.ownBlock = some j → B ≤ j := by
  obtain ⟨vs, Ms, h1, _⟩ := h
  exact row_low h1 (Nat.le_refl _)
/-- append of one row -/
theorem append_row {ops : Array Oper} {rest : List Oper} {o : Oper} {a : Act} {Q : Exit → Act → World → Prop} {wr : World} {base k : Nat} {L N : List Nat} {v x : Value} (hgd : o.guard = none) (s y : Operand)
    (ho : o.op = .call { callee := .builtin .append, args := #[s, y], argTypes := #[125, 125] })
    (hs : a.eval s = v) (hy : a.eval y = .slice (some ⟨wr.heap.size, 0, none⟩) 1 1) (hown : Outs base L v k wr) (hx : wr.ownsRow base 22 1 x N.length (N.map encU)) (hN : Need (upTo L k) N) (hN49 : N.length ≤ 1000) (hk : k ≤ 2000) (h0 : base ≤ wr.heap.size)
    (h : ∀ v' w', Outs base L v' (k + 1) w' → wr.grownBy w' v.ownBlock → wpList Tryz.prog ops Q rest (a.put o.dst v') w') :
    wpList Tryz.prog ops Q (o :: rest) a (wr.alloc (.cells #[x] 44)) := by
  obtain ⟨i0, hi, hz0, hz1, hz2⟩ := info_parts infoW
  obtain ⟨vs, Ms, h1, h2, h3⟩ := hown
  refine wpList_append_own _ hgd s y 125 ho base 44 i0 (.slice none 0 0) 1 24 Tryz.underlying125 hi hz0 hz1 hz2 rfl (by decide) v k vs hs (h1.alloc _) ⟨wr.heap.size, 0, none⟩ 1 1 [x] hy rfl ?_ ?_ (by unfold maxLen; omega) (by omega) (by rw [World.size_alloc]; omega) ?_
  · exact cell_one_new _ _ _
  · intro u hu; simp at hu; subst hu; exact own_one hx
  · intro v' w' hown' hg _
    refine h v' w' ⟨vs ++ [x], Ms ++ [N], hown', by simp [h2], ?_⟩ (((World.grownBy_alloc wr _ none).but v.ownBlock).andThen hg fun j e => .inr e)
    have hvl : vs.length = k := by simpa using h1.1
    have keep : ∀ (z : Value) (M : List Nat), wr.ownsRow base 22 1 z M.length (M.map encU) → w'.ownsRow base 22 1 z M.length (M.map encU) := fun z M hz =>
      (hz.alloc (.cells #[x] 44)).kept hg (own_apart (w := wr.alloc (.cells #[x] 44)) (h1.alloc _) (hz.alloc _) (by decide))
    intro j z M hz hM
    by_cases hjk : j < k
    · rw [List.getElem?_append_left (by omega)] at hz hM
      exact ⟨keep _ _ (h3 j z M hz hM).1, (h3 j z M hz hM).2⟩
    · have hj : j = k := by
        have h := (List.getElem?_eq_some_iff.1 hz).1
        simp at h; omega
      subst hj
      rw [← hvl, List.getElem?_concat_length] at hz
      rw [← h2, List.getElem?_concat_length] at hM
      cases hz
      cases hM
      exact ⟨keep _ _ hx, hN, hN49⟩
/-- rising, and just those of f of the first i of K -/
def Ris (v : Value) (B : Nat) (S : List Nat) (m : Nat) (w : World) : Prop :=
  ∃ N : List Nat, w.ownsRow B 22 1 v N.length (N.map encU) ∧ N.Pairwise (· < ·) ∧ (∀ x, x ∈ N ↔ x ∈ S) ∧ N.length ≤ m
theorem Ris.nil (B : Nat) (w : World) : Ris (.slice none 0 0) B [] 0 w := ⟨[], World.ownsRow_nil _ _ _ _, List.Pairwise.nil, fun _ => Iff.rfl, Nat.le_refl _⟩
theorem Ris.next {v : Value} {B m : Nat} {S : List Nat} {w w' : World} (h : Ris v B S m w) (hb : Below w.heap.size w w') : Ris v B S m w' := by
  obtain ⟨N, h1, h2⟩ := h
  exact ⟨N, own_kept h1 (kept_all hb) (fun _ _ => trivial), h2⟩
theorem Ris.of {v : Value} {B m m' : Nat} {S S' : List Nat} {w : World} (h : Ris v B S m w) (e : ∀ x, x ∈ S ↔ x ∈ S') (hm : m ≤ m') : Ris v B S' m' w := by
  obtain ⟨N, h1, h2, h3, h4⟩ := h
  exact ⟨N, h1, h2, fun x => (h3 x).trans (e x), by omega⟩
theorem Ris.grown5 {x : Value} {B m k : Nat} {S L : List Nat} {v : Value} {w w' : World} (h : Ris x B S m w) (hg : w.grownBy w' v.ownBlock) (ho : Outs B L v k w) : Ris x B S m w' := by
  obtain ⟨N, h1, h2⟩ := h
  obtain ⟨vs, Ms, g1, _⟩ := ho
  exact ⟨N, h1.kept hg (own_apart g1 h1 (by decide)), h2⟩
theorem putR_any (v : Value) (B m k : Nat) (S : List Nat) (w : World) (hB : B ≤ w.heap.size) (h : Ris v B S m w) (hm : m ≤ 2000) :
    Calls Tryz.prog 121 #[v, .int .u64 (k : Int)] w fun e w' => ∃ v', e = .returned v' ∧ Ris v' B (S ++ [k]) (m + 1) w' ∧ Below w.heap.size w w' := by
  obtain ⟨N, h1, h2, h3, h4⟩ := h
  refine (put_any v N k B w hB h1 (by omega) h2).mono ?_
  rintro e w' ⟨v', L', rfl, g1, g2, g3⟩
  refine ⟨v', rfl, ⟨L', g1, g2.1, fun x => ?_, by have := g2.2.2; omega⟩, g3⟩
  rw [g2.2.1 x, List.mem_append, h3 x]
  simp only [List.mem_singleton]
  exact or_comm
set_option maxRecDepth 100000 in
set_option maxHeartbeats 4000000 in
theorem refNeeds_any (ao : Option Addr) (cap : Nat) (L : List Nat) (d : Nat) (w : World) (hN : Nums ao L w) (hn : L.length ≤ 1000) (h0 : L ≠ []) (hd : d ≤ 16) (hs : ∀ x ∈ L, x < 2 ^ d) :
    Calls Tryz.prog 87 #[.slice ao L.length cap, .int .i64 (d : Int)] w fun e w' => ∃ v, e = .returned v ∧ Outs w.heap.size L v d w' ∧ Below w.heap.size w w' := by
  have hp : 2 ^ d ≤ 2 ^ 16 := Nat.pow_le_pow_right (by decide) hd
  obtain ⟨D, hD⟩ : ∃ D, D = 2 ^ d := ⟨_, rfl⟩
  have hw : IntKind.u64.wrap ((2 : Int) ^ d) = (D : Int) := by
    rw [show ((2 : Int) ^ d) = ((2 ^ d : Nat) : Int) by simp, ← hD, IntKind.wrap_u64]
    omega
  have HNn := Lib.hid hN
  have HS := Lib.hid hs
  have HD := Lib.hid hD
  have hl0 : 0 < L.length := List.length_pos_iff.2 h0
  have hlz : ((L.length : Int) == 0) = false := by rw [beq_eq_false_iff_ne]; omega
  have n1 : (L.length : Int) ≤ 1000 := by omega
  have d16 : (d : Int) ≤ 16 := by omega
  have d0 : (0 : Int) ≤ (d : Int) := by omega
  have HR0 := Lib.hid (Ris.nil w.heap.size w)
  have HO0 := Lib.hid (show Outs w.heap.size L (.slice none 0 0) 0 w from ⟨[], [], World.ownsRow_nil _ _ _ _, rfl, fun j x N h => by simp at h⟩)
  clear hN hs hD hp h0
  go_enter Tryz.func87, Tryz.ntmps87
  go_wp2
  go_loopw [5, 6] (fun v vi wr => ∃ i : Nat, vi = .int .i64 (i : Int) ∧ i ≤ L.length ∧ Hid (Ris v w.heap.size (L.take i) i wr) ∧ Hid (Below w.heap.size w wr)) (fun _ vi _ => (L.length : Int).toNat - (intOf vi).toNat)
  case atStart => exact ⟨0, rfl, Nat.zero_le _, HR0, Lib.hid (Below.refl _ _)⟩
  case round =>
    obtain ⟨i, rfl, hi, HR, HB⟩ := hrel
    by_cases hie : i = L.length
    · have hl : ¬ (i : Int) < (L.length : Int) := by omega
      have HRL := Lib.hid (show Ris u5 w.heap.size (upTo L 0) 1000 wr from (HR.out.of (S' := upTo L 0) (fun x => by rw [hie, List.take_length, upTo_zero]) (by omega)))
      clear hie HR
      go_wp2
      clear hl
      go_loopw [5, 7, 8] (fun vk vo vl wr => ∃ lv : Nat, vl = .int .i64 (lv : Int) ∧ lv ≤ d ∧ Hid (Ris vk w.heap.size (upTo L lv) 1000 wr) ∧ Hid (Outs w.heap.size L vo lv wr) ∧ Hid (Below w.heap.size w wr)) (fun _ _ vl _ => d - (intOf vl).toNat)
      case atStart => exact ⟨0, rfl, Nat.zero_le _, HRL, Lib.hid (HO0.out.next HB.out), HB⟩
      case round =>
        obtain ⟨lv, rfl, hlv, HR, HO, HB⟩ := hrel
        by_cases hld : lv = d
        · have hl : ¬ (lv : Int) < (d : Int) := by omega
          have HE := Lib.hid (show Outs w.heap.size L u7 d wr from hld ▸ HO.out)
          clear hld
          go_wp2
          go_ret
          exact ⟨u7, rfl, HE.out, HB.out⟩
        · have hl : (lv : Int) < (d : Int) := by omega
          obtain ⟨K, hK1, hK2, hK3, hK4⟩ := HR.out
          have HK := Lib.hid (show ∀ y ∈ K, y < 18446744073709551616 from fun y hy => by
            have h1 := upTo_lt HS.out (by omega) ((hK3 y).1 hy)
            have h2 : 2 ^ (d - lv) ≤ 2 ^ 16 := Nat.pow_le_pow_right (by decide) (by omega)
            omega)
          have HK3 := Lib.hid hK3
          obtain ⟨ak, ck, rfl, hKn, _⟩ := nums_of_row hK1
          have HKo := Lib.hid hKn
          have k49 : (K.length : Int) ≤ 1000 := by omega
          have HR1 := Lib.hid (Ris.nil w.heap.size wr)
          clear hK1 hK2 hK3 hKn
          go_wp2
          generalize wr = wa at *
          go_loopw [9, 10, 11] (fun vn vx vi wr => ∃ i : Nat, vi = .int .i64 (i : Int) ∧ i ≤ K.length ∧ Hid (Ris vn w.heap.size (lacks K (K.take i)) i wr) ∧ Hid (Ris vx w.heap.size ((K.take i).map (· / 2)) i wr) ∧ Hid (Below wa.heap.size wa wr)) (fun _ _ vi _ => (K.length : Int).toNat - (intOf vi).toNat)
          case atStart => exact ⟨0, rfl, Nat.zero_le _, HR1, HR1, Lib.hid (Below.refl _ _)⟩
          case round =>
            obtain ⟨i, rfl, hi, HN, HX, HW⟩ := hrel
            by_cases hie : i = K.length
            · have hli : ¬ (i : Int) < (K.length : Int) := by omega
              have HBw := Lib.hid (HB.out.trans (HW.out.mono HB.out.size))
              have HOw := Lib.hid (HO.out.next HW.out)
              obtain ⟨N, hN1, hN2, hN3, hN4⟩ := HN.out
              have HNd := Lib.hid (show Need (upTo L lv) N from (show Need K N from ⟨hN2, fun x => by
                rw [hN3 x, hie, List.take_length]; exact lacks_mem K K (fun _ => Iff.rfl) x⟩).of HK3.out)
              obtain ⟨an, cn, rfl, _, _⟩ := nums_of_row hN1
              have HNo := Lib.hid hN1
              have HXn := Lib.hid (HX.out.of (S' := upTo L (lv + 1)) (m' := 1000) (fun x => by
                rw [hie, List.take_length, mem_upTo_succ]
                simp only [List.mem_map]
                constructor
                · rintro ⟨k, hk, rfl⟩; exact ⟨k, (HK3.out k).1 hk, rfl⟩
                · rintro ⟨k, hk, rfl⟩; exact ⟨k, (HK3.out k).2 hk, rfl⟩) (by omega))
              clear hN1 hN2 hN3 hie
              go_wp2_with (at_builtin; (refine append_row rfl _ _ rfl rfl rfl HOw.out HNo.out HNd.out (by omega) (by omega) HBw.out.size ?_); intro v5 w5 ho5 hg5; have HO5 := Lib.hid ho5; have HB5 := Lib.hid (HBw.out.grown hg5 HBw.out.size (fun j e => HOw.out.size j e)); have HG5 := Lib.hid hg5; clear ho5 hg5)
              have HX5 := Lib.hid (HXn.out.grown5 HG5.out HOw.out)
              go_wp2
              go_roundw
              case rel => exact ⟨lv + 1, by go_num, by omega, HX5, HO5, HB5⟩
              case measure => simp [intOf] <;> omega
            · have hil : i < K.length := by omega
              have hli : (i : Int) < (K.length : Int) := by omega
              have i0 : (0 : Int) ≤ (i : Int) := by omega
              have HBw := Lib.hid (HB.out.trans (HW.out.mono HB.out.size))
              obtain ⟨b, off, rfl, hc⟩ := nums_at (nums_next HKo.out HW.out) i hil
              obtain ⟨y, hy⟩ : ∃ y, y = K[i] := ⟨_, rfl⟩
              rw [← hy] at hc
              have hy64 : y < 18446744073709551616 := by rw [hy]; exact HK.out _ (List.getElem_mem hil)
              have HY := Lib.hid (show K.take (i + 1) = K.take i ++ [y] by rw [hy, List.take_append_getElem hil])
              have HCs := Lib.hid (fun w => refSib_any y hy64 w)
              have HCh := Lib.hid (refHas_any (some ⟨b, off, none⟩) ck K (sib y) wr (nums_next HKo.out HW.out) (by omega))
              have HLS := Lib.hid (lacks_snoc K (K.take i) y)
              have hyh : (y : Int) / 2 = ((y / 2 : Nat) : Int) := by omega
              have HX2 := Lib.hid (show ∀ z, z ∈ (K.take i).map (· / 2) ++ [y / 2] ↔ z ∈ (K.take (i + 1)).map (· / 2) from fun z => by rw [HY.out]; simp)
              clear hy
              generalize sib y = sy at *
              generalize y / 2 = hf at *
              by_cases hm : sy ∈ K
              · rw [decide_eq_true hm] at HCh
                have HL2 := Lib.hid (show ∀ z, z ∈ lacks K (K.take i) ↔ z ∈ lacks K (K.take (i + 1)) from fun z => by rw [HY.out, HLS.out, if_pos hm])
                have HCp := Lib.hid (putR_any u10 w.heap.size i hf _ wr HBw.out.size HX.out (by omega))
                clear hm
                go_wp2_with (first
                  | (go_at_call 122; refine (HCs.out _).mono ?_; rintro e w2 ⟨rfl, rfl⟩)
                  | (go_at_call 123; refine HCh.out.mono ?_; rintro e w2 ⟨rfl, rfl⟩)
                  | (go_at_call 121; refine HCp.out.mono ?_; rintro e w3 ⟨v', rfl, h1, h2⟩; have HX3 := Lib.hid h1; have HW3 := Lib.hid h2; clear h1 h2))
                go_roundw
                case rel => exact ⟨i + 1, by go_num, hil, Lib.hid ((HN.out.next HW3.out).of HL2.out (by omega)), Lib.hid (HX3.out.of HX2.out (Nat.le_refl _)), Lib.hid (HW.out.trans (HW3.out.mono HW.out.size))⟩
                case measure => simp [intOf] <;> omega
              · rw [decide_eq_false hm] at HCh
                have HL2 := Lib.hid (show ∀ z, z ∈ lacks K (K.take i) ++ [sy] ↔ z ∈ lacks K (K.take (i + 1)) from fun z => by rw [HY.out, HLS.out, if_neg hm])
                have HCn := Lib.hid (putR_any u9 w.heap.size i sy _ wr HBw.out.size HN.out (by omega))
                have HCp := Lib.hid (fun w2 (hb : Below wr.heap.size wr w2) => putR_any u10 w.heap.size i hf _ w2 (Nat.le_trans HBw.out.size hb.size) (HX.out.next hb) (by omega))
                clear hm
                go_wp2_with fail
                refine (HCs.out _).mono ?_
                rintro e w2 ⟨rfl, rfl⟩
                go_wp2_with fail
                refine HCh.out.mono ?_
                rintro e w2 ⟨rfl, rfl⟩
                go_wp2_with fail
                refine HCn.out.mono ?_
                rintro e w3 ⟨v', rfl, h1, h2⟩
                have HN3 := Lib.hid h1
                have HW3 := Lib.hid h2
                have hc3 : w3.cell? ⟨b, off + i, none⟩ = some (.int .u64 (y : Int)) := (h2.cell (p := ⟨b, off + i, none⟩) (World.block_lt_of_cell? _ _ hc)).trans hc
                clear h1 h2
                go_wp2_with fail
                refine (HCp.out _ HW3.out).mono ?_
                rintro e w4 ⟨v2, rfl, h1, h2⟩
                have HX4 := Lib.hid h1
                have HW4 := Lib.hid h2
                clear h1 h2
                go_wp2
                go_roundw
                case rel => exact ⟨i + 1, by go_num, hil, Lib.hid ((HN3.out.next HW4.out).of HL2.out (Nat.le_refl _)), Lib.hid (HX4.out.of HX2.out (Nat.le_refl _)), Lib.hid ((HW.out.trans (HW3.out.mono HW.out.size)).trans (HW4.out.mono (Nat.le_trans HW.out.size HW3.out.size)))⟩
                case measure => simp [intOf] <;> omega
    · have hil : i < L.length := by omega
      have hl : (i : Int) < (L.length : Int) := by omega
      have i0 : (0 : Int) ≤ (i : Int) := by omega
      obtain ⟨b, off, rfl, hc⟩ := nums_at (nums_next HNn.out HB.out) i hil
      obtain ⟨x, hx⟩ : ∃ x, x = L[i] := ⟨_, rfl⟩
      rw [← hx] at hc
      have hxD : x < D := by rw [HD.out, hx]; exact HS.out _ (List.getElem_mem hil)
      have hge : ¬ (x : Int) ≥ (D : Int) := by omega
      have HX := Lib.hid hx
      clear hx
      go_wp2
      go_quiet (fail)
      have HR2 := Lib.hid (HR.out.next (w' := wr.drewN nq) ⟨rfl, rfl, rfl, Nat.le_refl _, fun _ _ => rfl⟩)
      have HB2 := Lib.hid (HB.out.trans (show Below w.heap.size wr (wr.drewN nq) from ⟨rfl, rfl, rfl, Nat.le_refl _, fun _ _ => rfl⟩))
      have hc2 : (wr.drewN nq).cell? ⟨b, off + i, none⟩ = some (.int .u64 (x : Int)) := hc
      generalize wr.drewN nq = v1 at *
      have HC := Lib.hid (putR_any u5 w.heap.size i x (L.take i) v1 HB2.out.size HR2.out (by omega))
      go_wp2_with (go_at_call 121; refine HC.out.mono ?_; rintro e w3 ⟨v', rfl, h1, h2⟩; have HR3 := Lib.hid h1; have HB3 := Lib.hid (HB2.out.trans (h2.mono HB2.out.size)); clear h1 h2)
      go_roundw
      case rel => exact ⟨i + 1, by go_num, hil, Lib.hid (HR3.out.of (fun y => by rw [HX.out, List.take_append_getElem hil]) (Nat.le_refl _)), HB3⟩
      case measure => simp [intOf] <;> omega
end Go.Proofs.YtmnklonoelpidaaGreatDoor
/- Hashes of one text, of two; what a walk keeps. -/
namespace Go.Proofs.YtmnklonoelpidaaGreatDoor
open Go.RowKit

theorem hash_at (wz : World) (A B : (List UInt8)) (sz : Nat) (hg : Glob wz) (hz : sz = wz.heap.size) (hA : A.length ≤ 32) (hB : B.length ≤ 32) : Calls Tryz.prog 41 #[.string ⟨#[110, 111, 100, 101]⟩, .slice (some ⟨sz, 0, none⟩) 2 2] (wz.alloc (.cells #[.string ⟨A.toArray⟩, .string ⟨B.toArray⟩] 9)) fun e w' => e = .returned (.string ⟨(hashL nodeT [A, B]).toArray⟩) ∧ Below wz.heap.size wz w' := by
  subst hz
  exact hash2_any nodeT A B wz hg (by decide) (by omega) (by omega)
end Go.Proofs.YtmnklonoelpidaaGreatDoor
/- Layer 11's document: rows that grow beside one another; what comes of a proof. -/
namespace Go.Proofs.YtmnklonoelpidaaGreatDoor
open Go.RowKit Go.Sort

theorem own_apart2 {w : World} {b1 b2 e1 e2 s1 s2 n m : Nat} {v x : Value} {xs ys : List Value} (h : w.ownsRow b1 e1 s1 v n xs) (k : w.ownsRow b2 e2 s2 x m ys) (hne : e1 ≠ e2) : x.ownBlock = none ∨ x.ownBlock ≠ v.ownBlock := by
  rcases k.2 with ⟨rfl, _⟩ | ⟨g, cap, cur, rfl, _, hg, _⟩
  · exact .inl rfl
  · refine .inr fun e => ?_
    rcases h.2 with ⟨rfl, _⟩ | ⟨g2, cap2, cur2, rfl, _, hg2, _⟩
    · cases e
    · cases e
      rw [hg] at hg2
      cases hg2
      exact hne rfl
theorem plc_next {B : Nat} {A : List (Nat × (List UInt8))} {v : Value} {w w' : World} (h : PlcRow B A v w) (hb : Below w.heap.size w w') : PlcRow B A v w' := by
  refine ⟨h.1, ?_⟩
  rcases h.2 with h | ⟨g, cap, cur, h0, h1, h2, h3⟩
  · exact .inl h
  · exact .inr ⟨g, cap, cur, h0, h1, (hb.block g (Array.getElem?_eq_some_iff.1 h2).1).trans h2, h3⟩
theorem plc_low {B Z : Nat} {A : List (Nat × (List UInt8))} {v : Value} {w : World} (h : PlcRow Z A v w) (hB : B ≤ Z) : PlcRow B A v w := by
  refine ⟨h.1, ?_⟩
  rcases h.2 with h | ⟨g, cap, cur, h0, h1, h2⟩
  · exact .inl h
  · exact .inr ⟨g, cap, cur, h0, Nat.le_trans hB h1, h2⟩
theorem plc_lt {B : Nat} {A : List (Nat × (List UInt8))} {v : Value} {w : World} (h : PlcRow B A v w) : ∀ b, v.ownBlock = some b → B ≤ b ∧ b < w.heap.size := by
  intro b hb
  rcases h.2 with ⟨rfl, _⟩ | ⟨g, cap, cur, rfl, h1, h2, _⟩
  · cases hb
  · cases hb; exact ⟨h1, (Array.getElem?_eq_some_iff.1 h2).1⟩
theorem plc_nil (B : Nat) (w : World) : PlcRow B [] (.slice none 0 0) w := World.ownsRow_nil _ _ _ _
/-- append of one place -/
theorem append_plc {ops : Array Oper} {rest : List Oper} {o : Oper} {a : Act} {Q : Exit → Act → World → Prop} {wr : World} {base : Nat} {A : List (Nat × (List UInt8))} {v : Value} {k : Nat} {t : (List UInt8)} (hgd : o.guard = none) (s x : Operand)
    (ho : o.op = .call { callee := .builtin .append, args := #[s, x], argTypes := #[129, 129] })
    (hs : a.eval s = v) (hx : a.eval x = .slice (some ⟨wr.heap.size, 0, none⟩) 1 1) (hown : PlcRow base A v wr) (hn : A.length ≤ 1000000) (h0 : base ≤ wr.heap.size)
    (h : ∀ v' w', PlcRow base (A ++ [(k, t)]) v' w' → wr.grownBy w' v.ownBlock → wpList Tryz.prog ops Q rest (a.put o.dst v') w') :
    wpList Tryz.prog ops Q (o :: rest) a (wr.alloc (.cells #[.int .u64 (k : Int), .string ⟨t.toArray⟩] 131)) := by
  obtain ⟨i0, hi, hz0, hz1, hz2⟩ := info_parts infoPl
  refine wpList_append_own _ hgd s x 129 ho base 131 i0 (.agg #[.int .u64 0, .string ⟨#[]⟩]) 2 24 Tryz.underlying129 hi hz0 hz1 hz2 rfl (by decide) v A.length _ hs (hown.alloc _) ⟨wr.heap.size, 0, none⟩ 1 1 [.int .u64 (k : Int), .string ⟨t.toArray⟩] hx rfl ?_ ?_ (by unfold maxLen; omega) (by omega) (by rw [World.size_alloc]; omega) ?_
  · intro j u hu
    match j, hu with
    | 0, hu => cases hu; simp [Addr.add]
    | 1, hu => cases hu; simp [Addr.add]
    | j + 2, hu => simp at hu
  · intro u hu
    simp at hu
    rcases hu with rfl | rfl <;> rfl
  · intro v' w' hown' hg _
    refine h v' w' (by rw [PlcRow, plcC_app, List.length_append]; exact hown') ?_
    exact ((World.grownBy_alloc wr _ none).but v.ownBlock).andThen hg fun j e => .inr e
theorem leaf_rat (X : (List UInt8)) (wz : World) (sz : Nat) (hz : sz = wz.heap.size) (hX : X.length ≤ 10000000) : Calls Tryz.prog 76 #[.string ⟨#[108, 101, 97, 102]⟩, .slice (some ⟨sz, 0, none⟩) 1 1] (wz.alloc (.cells #[.string ⟨X.toArray⟩] 9)) fun e w' => e = .returned (.string ⟨(hashL leafT [X]).toArray⟩) ∧ Below wz.heap.size wz w' := by
  subst hz
  refine (refHash_any leafT (some ⟨wz.heap.size, 0, none⟩) 1 [X] _ (strs_new wz [X] _ rfl) (by decide) (Nat.lt_of_lt_of_le (framed_short leafT [X] (by decide) (by simpa using hX) (by simp)) (by decide))).mono ?_
  rintro e w' ⟨h1, h2⟩
  exact ⟨h1, below_next (by0 wz _) h2⟩
theorem node_rat (wz : World) (A B : (List UInt8)) (sz : Nat) (hz : sz = wz.heap.size) (hA : A.length ≤ 32) (hB : B.length ≤ 32) : Calls Tryz.prog 76 #[.string ⟨#[110, 111, 100, 101]⟩, .slice (some ⟨sz, 0, none⟩) 2 2] (wz.alloc (.cells #[.string ⟨A.toArray⟩, .string ⟨B.toArray⟩] 9)) fun e w' => e = .returned (.string ⟨(hashL nodeT [A, B]).toArray⟩) ∧ Below wz.heap.size wz w' := by
  subst hz
  refine (refHash_any nodeT (some ⟨wz.heap.size, 0, none⟩) 2 [A, B] _ (strs_new wz [A, B] _ rfl) (by decide) (Nat.lt_of_lt_of_le (framed_short nodeT [A, B] (by decide) (by intro z hz; simp at hz; rcases hz with rfl | rfl <;> omega) (by simp)) (by decide))).mono ?_
  rintro e w' ⟨h1, h2⟩
  exact ⟨h1, below_next (by0 wz _) h2⟩
/-- the rows of what is needed, read -/
theorem Outs.rows {B d : Nat} {L : List Nat} {v : Value} {w : World} (h : Outs B L v d w) (hL : ∀ x ∈ L, x < 2 ^ d) : ∃ ao cp, v = .slice ao d cp ∧ Rows2 ao (needM L d) w := by
  obtain ⟨vs, Ms, h1, h2, h3⟩ := h
  have hvl : vs.length = d := by simpa using h1.1
  have hNd : Needs L d Ms := ⟨h2, fun i N hN => by
    have hi := (List.getElem?_eq_some_iff.1 hN).1
    obtain ⟨x, hx⟩ : ∃ x, vs[i]? = some x := ⟨_, List.getElem?_eq_getElem (by omega)⟩
    exact (h3 i x N hx hN).2.1⟩
  obtain rfl := hNd.eq (needs_M hL)
  have h0 := h1
  rcases h1.2 with ⟨rfl, hd0⟩ | ⟨g, cp, cur, rfl, _⟩
  · exact ⟨none, 0, by rw [hd0], .inl (List.length_eq_zero_iff.1 (by omega))⟩
  · refine ⟨_, cp, rfl, .inr ⟨g, 0, rfl, fun i hi => ?_⟩⟩
    obtain ⟨x, hx⟩ : ∃ x, vs[i]? = some x := ⟨_, List.getElem?_eq_getElem (by omega)⟩
    obtain ⟨ai, ci, rfl, hn, _⟩ := nums_of_row (h3 i x _ hx (List.getElem?_eq_getElem hi)).1
    exact ⟨ai, ci, by rw [Nat.zero_add]; exact (h0.cellAt i (by omega)).trans hx, hn⟩
theorem Outs.rows_at {B d : Nat} {L : List Nat} {ao : Option Addr} {cp : Nat} {w : World} (h : Outs B L (.slice ao d cp) d w) (hL : ∀ x ∈ L, x < 2 ^ d) : Rows2 ao (needM L d) w := by
  obtain ⟨a, c, e, hr⟩ := h.rows hL
  cases e
  exact hr
theorem Outs.low {B Z i : Nat} {L : List Nat} {v : Value} {w : World} (h : Outs Z L v i w) (hB : B ≤ Z) : Outs B L v i w := by
  obtain ⟨vs, Ms, h1, h2, h3⟩ := h
  exact ⟨vs, Ms, row_base h1 hB, h2, fun j x N hx hN => ⟨row_base (h3 j x N hx hN).1 hB, (h3 j x N hx hN).2⟩⟩
theorem Outs.beside {B B' i : Nat} {L : List Nat} {v x : Value} {A : List (Nat × (List UInt8))} {w w' : World} (h : Outs B L v i w) (k : PlcRow B' A x w) (hg : w.grownBy w' x.ownBlock) : Outs B L v i w' := by
  obtain ⟨vs, Ms, h1, h2, h3⟩ := h
  exact ⟨vs, Ms, h1.kept hg (own_apart2 k h1 (by decide)), h2, fun j z N hz hN => ⟨(h3 j z N hz hN).1.kept hg (own_apart2 k (h3 j z N hz hN).1 (by decide)), (h3 j z N hz hN).2⟩⟩
end Go.Proofs.YtmnklonoelpidaaGreatDoor
