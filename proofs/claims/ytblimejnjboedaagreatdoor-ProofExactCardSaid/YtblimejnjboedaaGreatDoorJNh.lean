/- ProofBack's plain facts: elements, others in their places, the list with those. -/
import Derived.Test.YtblimejnjboedaaGreatDoorJNc
import Derived.Test.YtblimejnjboedaaGreatDoorJ33
namespace Go.Proofs.YtblimejnjboedaaGreatDoor
open Go.RowKit Go.Sort

/-- the i-th of the positions' elements -/
def elemAt (L : List (List UInt8)) (P : List Nat) (i : Nat) : (List UInt8) := (L[(P[i]?).getD 0]?).getD []
/-- the i-th of the others, or the element itself -/
def turnAt (L : List (List UInt8)) (P : List Nat) (O : List (List UInt8)) (i : Nat) : (List UInt8) := if i < O.length then (O[i]?).getD [] else elemAt L P i
def elemsTo (L : List (List UInt8)) (P : List Nat) (k : Nat) : List (List UInt8) := (List.range k).map (elemAt L P)
def turnsTo (L : List (List UInt8)) (P : List Nat) (O : List (List UInt8)) (k : Nat) : List (List UInt8) := (List.range k).map (turnAt L P O)
/-- the list with the first k of those -/
def ownTo (L : List (List UInt8)) (P : List Nat) (O : List (List UInt8)) : Nat → List (List UInt8)
  | 0 => L
  | k + 1 => (ownTo L P O k).set ((P[k]?).getD 0) (turnAt L P O k)
theorem elemsTo_len (L : List (List UInt8)) (P : List Nat) (k : Nat) : (elemsTo L P k).length = k := by simp [elemsTo]
theorem turnsTo_len (L : List (List UInt8)) (P : List Nat) (O : List (List UInt8)) (k : Nat) : (turnsTo L P O k).length = k := by simp [turnsTo]
theorem elemsTo_succ (L : List (List UInt8)) (P : List Nat) (k : Nat) : elemsTo L P (k + 1) = elemsTo L P k ++ [elemAt L P k] := by simp [elemsTo, List.range_succ]
theorem turnsTo_succ (L : List (List UInt8)) (P : List Nat) (O : List (List UInt8)) (k : Nat) : turnsTo L P O (k + 1) = turnsTo L P O k ++ [turnAt L P O k] := by simp [turnsTo, List.range_succ]
theorem ownTo_len (L : List (List UInt8)) (P : List Nat) (O : List (List UInt8)) : ∀ k, (ownTo L P O k).length = L.length
  | 0 => rfl
  | k + 1 => by rw [ownTo, List.length_set, ownTo_len L P O k]
theorem ownTo_off {L : List (List UInt8)} {P : List Nat} {O : List (List UInt8)} {j : Nat} (hj : j ∉ P) : ∀ k, k ≤ P.length → (ownTo L P O k)[j]? = L[j]?
  | 0, _ => rfl
  | k + 1, hk => by
    have hne : P[k] ≠ j := fun e => hj (e ▸ List.getElem_mem _)
    rw [ownTo, List.getElem?_eq_getElem (show k < P.length by omega), Option.getD_some, List.getElem?_set_ne hne, ownTo_off hj k (by omega)]
theorem ownTo_at {L : List (List UInt8)} {P : List Nat} {O : List (List UInt8)} (hd : P.Nodup) (hP : ∀ x ∈ P, x < L.length) {i : Nat} (hi : i < P.length) : ∀ k, i < k → k ≤ P.length → (ownTo L P O k)[P[i]]? = some (turnAt L P O i)
  | k + 1, hik, hk => by
    rw [ownTo, List.getElem?_eq_getElem (show k < P.length by omega), Option.getD_some]
    by_cases e : i = k
    · subst e
      rw [List.getElem?_set_self (by rw [ownTo_len]; exact hP _ (List.getElem_mem _))]
    · have hne : P[k] ≠ P[i] := fun h => e (((List.getElem_inj hd).1 h).symm)
      rw [List.getElem?_set_ne hne, ownTo_at hd hP hi k (by omega) (by omega)]
theorem elemAt_get {L : List (List UInt8)} {P : List Nat} (hP : ∀ x ∈ P, x < L.length) {i : Nat} (hi : i < P.length) : L[P[i]]? = some (elemAt L P i) := by
  have := hP _ (List.getElem_mem hi)
  rw [elemAt, List.getElem?_eq_getElem hi, Option.getD_some, List.getElem?_eq_getElem this]
  rfl
theorem gl_32 (L : List (List UInt8)) (d k : Nat) : (gl L d k).length = 32 := by
  unfold gl
  split
  · exact hlen32 _ _ (by decide)
  · exact hlen32 _ _ (by decide)
theorem dg_32 {g : Nat → (List UInt8)} (h : ∀ k, (g k).length = 32) (l k : Nat) : (dg g l k).length = 32 := by
  cases l with
  | zero => exact h k
  | succ l => exact hlen32 _ _ (by decide)
theorem proofD_32 (L : List (List UInt8)) (P : List Nat) : ∀ x ∈ proofD L P, x.length = 32 := by
  intro x hx
  obtain ⟨p, _, rfl⟩ := List.mem_map.1 hx
  exact dg_32 (gl_32 L _) _ _
theorem may_of {n : Nat} {P : List Nat} (hn : n ≤ 65536) (hs : standsP P n = true) : mayP n P = true := by
  rw [mayP, decide_eq_true (by omega), Bool.true_and, Int.toNat_natCast]
  exact hs
/-- what comes of a list's own proof, and elements E at the positions: the root of the list L' with those -/
theorem root_back {L L' : List (List UInt8)} {P : List Nat} {E : List (List UInt8)} (hL : L.length ≤ 65536) (hs : standsP P L.length = true) (hlen : L'.length = L.length) (hoff : ∀ i, i ∉ P → L'[i]? = L[i]?) (hE : E.length = P.length) (hat : ∀ i (h : i < P.length) (h' : i < E.length), L'[P[i]]? = some E[i]) :
    rootV (L.length : Nat) P E (proofD L P) = (rootD L', 0) := by
  have hpp := stands_parts hs
  have hd : P.Nodup := hpp.2.1.imp fun h => Nat.ne_of_lt h
  rw [root_good (may_of hL hs) hE (all32_mk (proofD_32 L P)) (sizeD_eq L P), comes_back hL hs hlen hoff fun p hp => ?_]
  obtain ⟨i, hi, rfl⟩ := List.getElem_of_mem hp
  rw [leafF_at hs hL i hi (by omega), hat i hi (by omega)]
  rfl
theorem root_elems {L : List (List UInt8)} {P : List Nat} (hL : L.length ≤ 65536) (hs : standsP P L.length = true) : rootV (L.length : Nat) P (elemsTo L P P.length) (proofD L P) = (rootD L, 0) :=
  root_back hL hs rfl (fun _ _ => rfl) (elemsTo_len L P _) fun i h h' => by
    rw [elemAt_get (stands_parts hs).2.2 h]
    simp [elemsTo]
theorem root_turns {L : List (List UInt8)} {P : List Nat} (O : List (List UInt8)) (hL : L.length ≤ 65536) (hs : standsP P L.length = true) : rootV (L.length : Nat) P (turnsTo L P O P.length) (proofD L P) = (rootD (ownTo L P O P.length), 0) := by
  have hpp := stands_parts hs
  have hd : P.Nodup := hpp.2.1.imp fun h => Nat.ne_of_lt h
  exact root_back hL hs (ownTo_len L P O _) (fun i hi => ownTo_off hi _ (Nat.le_refl _)) (turnsTo_len L P O _) fun i h h' => by
    rw [ownTo_at hd hpp.2.2 h _ h (Nat.le_refl _)]
    simp [turnsTo]
theorem ownTo_short {L : List (List UInt8)} {P : List Nat} {O : List (List UInt8)} {m : Nat} (h1 : ∀ x ∈ L, x.length ≤ m) (h2 : ∀ x ∈ O, x.length ≤ m) : ∀ k, ∀ x ∈ ownTo L P O k, x.length ≤ m
  | 0, x, hx => h1 x hx
  | k + 1, x, hx => by
    rw [ownTo] at hx
    rcases List.mem_or_eq_of_mem_set hx with h | h
    · exact ownTo_short h1 h2 k x h
    · subst h
      unfold turnAt elemAt
      split
      · cases hO : O[k]? with
        | none => simp
        | some t => exact h2 t (List.mem_of_getElem? hO)
      · cases hO : L[(P[k]?).getD 0]? with
        | none => simp
        | some t => exact h1 t (List.mem_of_getElem? hO)
end Go.Proofs.YtblimejnjboedaaGreatDoor
