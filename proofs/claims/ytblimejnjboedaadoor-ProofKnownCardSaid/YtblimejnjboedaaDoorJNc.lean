/- Layer 11's examples: what comes. -/
import Derived.Test.YtblimejnjboedaaDoorJNb
import Derived.Test.YtblimejnjboedaaDoorJ20
namespace Go.Proofs.YtblimejnjboedaaDoor
open Go.RowKit Go.Sort

theorem hlen32 (tag : (List UInt8)) (L : List (List UInt8)) (h : Tag tag) : (hashL tag L).length = 32 := by rw [hashL, if_pos h]; exact shaL_length _
theorem root_good {n : Nat} {P : List Nat} {E R : List (List UInt8)} (hm : mayP n P = true) (he : E.length = P.length) (h32 : all32 R = true) (hz : R.length = sizeD P n) : rootV n P E R = (comesD (lvs P (dep n)) (dep n) R (leafF P E (dep n)), 0) := by
  rw [rootV, if_neg (by rw [hm]; simp [he]), if_neg (by rw [h32]; decide), Int.toNat_natCast, if_neg (fun h => h (sizeE_zero.2 hz))]
theorem root_bad {n : Int} {P : List Nat} {E R : List (List UInt8)} (h : mayP n P = false ∨ E.length ≠ P.length) : rootV n P E R = ([], 2) := if_pos h
theorem root_form {n : Nat} {P : List Nat} {E R : List (List UInt8)} (hm : mayP n P = true) (he : E.length = P.length) (h32 : all32 R = false) : rootV n P E R = ([], 5) := by
  rw [rootV, if_neg (by rw [hm]; simp [he]), if_pos h32]
theorem root_size {n : Nat} {P : List Nat} {E R : List (List UInt8)} (hm : mayP n P = true) (he : E.length = P.length) (h32 : all32 R = true) (hz : R.length ≠ sizeD P n) : rootV n P E R = ([], sizeE R.length (sizeD P n)) := by
  rw [rootV, if_neg (by rw [hm]; simp [he]), if_neg (by rw [h32]; decide), Int.toNat_natCast, if_pos (fun h => hz (sizeE_zero.1 h))]
theorem all32_mk {R : List (List UInt8)} (h : ∀ x ∈ R, x.length = 32) : all32 R = true := decide_eq_true h
theorem all32_no {R : List (List UInt8)} {x : (List UInt8)} (hx : x ∈ R) (h : x.length ≠ 32) : all32 R = false := decide_eq_false fun g => h (g x hx)
theorem may_1of3 : mayP (3 : Nat) [1] = true := by decide +kernel
theorem may_0of1 : mayP (1 : Nat) [0] = true := by decide +kernel
theorem may_3of3 : mayP (3 : Nat) [0, 1, 2] = true := by decide +kernel
theorem dep_3 : dep 3 = 2 := by decide +kernel
theorem dep_1 : dep 1 = 0 := by decide +kernel
theorem size_1of3 : sizeD [1] 3 = 2 := by decide +kernel
theorem size_0of1 : sizeD [0] 1 = 0 := by decide +kernel
theorem size_3of3 : sizeD [0, 1, 2] 3 = 1 := by decide +kernel
theorem leafF_of {P : List Nat} {E : List (List UInt8)} {D x i : Nat} {X : (List UInt8)} (h : P.idxOf (turnB x (D : Int)) = i) (hX : E[i]? = some X) : leafF P E D x = hashL leafT [X] := by
  rw [leafF, h, hX]
  rfl
theorem root_1of3 (b N A : (List UInt8)) (hN : N.length = 32) (hA : A.length = 32) : rootV (3 : Nat) [1] [b] [N, A] = (hashL nodeT [A, hashL nodeT [hashL leafT [b], N]], 0) := by
  rw [root_good may_1of3 rfl (all32_mk (by simp [hN, hA])) (by rw [size_1of3]; rfl), dep_3, lvs_1of3, comes_1of3, leafF_of (x := 2) (i := 0) (X := b) (by decide +kernel) rfl]
theorem root_0of1 (a : (List UInt8)) : rootV (1 : Nat) [0] [a] [] = (hashL leafT [a], 0) := by
  rw [root_good may_0of1 rfl (all32_mk (by simp)) (by rw [size_0of1]; rfl), dep_1, show lvs [0] 0 = [0] by decide +kernel, comes_one, leafF_of (x := 0) (i := 0) (X := a) (by decide +kernel) rfl]
theorem root_3of3 (a b c N : (List UInt8)) (hN : N.length = 32) : rootV (3 : Nat) [0, 1, 2] [a, b, c] [N] = (hashL nodeT [hashL nodeT [hashL leafT [a], hashL leafT [c]], hashL nodeT [hashL leafT [b], N]], 0) := by
  rw [root_good may_3of3 rfl (all32_mk (by simp [hN])) (by rw [size_3of3]; rfl), dep_3, lvs_all3, comes_all3, leafF_of (x := 0) (i := 0) (X := a) (by decide +kernel) rfl, leafF_of (x := 1) (i := 2) (X := c) (by decide +kernel) rfl, leafF_of (x := 2) (i := 1) (X := b) (by decide +kernel) rfl]
theorem root_short (b N : (List UInt8)) (hN : N.length = 32) : rootV (3 : Nat) [1] [b] [N] = ([], 4) := by
  rw [root_size may_1of3 rfl (all32_mk (by simp [hN])) (by rw [size_1of3]; simp), size_1of3]
  rfl
theorem root_long (b N A : (List UInt8)) (hN : N.length = 32) (hA : A.length = 32) : rootV (3 : Nat) [1] [b] [N, A, A] = ([], 3) := by
  rw [root_size may_1of3 rfl (all32_mk (by simp [hN, hA])) (by rw [size_1of3]; simp), size_1of3]
  rfl
theorem bad_11 (b N A : (List UInt8)) : rootV (3 : Nat) [1, 1] [b, b] [N, A] = ([], 2) := root_bad (.inl (by decide +kernel))
theorem bad_3 (b N A : (List UInt8)) : rootV (3 : Nat) [3] [b] [N, A] = ([], 2) := root_bad (.inl (by decide +kernel))
theorem root_no (N A : (List UInt8)) : rootV (3 : Nat) [1] [] [N, A] = ([], 2) := root_bad (.inr (by decide))
theorem root_31 (b N A : (List UInt8)) (hN : N.length = 31) : rootV (3 : Nat) [1] [b] [N, A] = ([], 5) := root_form may_1of3 rfl (all32_no (x := N) (by simp) (by omega))
/-- asked of a few texts -/
theorem is_lit (want : (List UInt8)) (n : Int) (P : List Nat) (E R : List (List UInt8)) (ao bo po : Option Addr) (wz wa : World) (hg : Glob wz) (hb : Below wz.heap.size wz wa) (hP : Nums ao P wa) (hE : Strs bo E wa) (hR : Strs po R wa) (hn : -100000 ≤ n ∧ n ≤ 100000) (hl : P.length ≤ 100 ∧ E.length ≤ 100 ∧ R.length ≤ 100) (he : ∀ x ∈ E, x.length ≤ 100) (hr : ∀ x ∈ R, x.length ≤ 100) (hV : rootV n P E R = (want, 0)) :
    Calls Tryd.prog 11 #[.string ⟨want.toArray⟩, .int .i64 n, .slice ao P.length P.length, .slice bo E.length E.length, .slice po R.length R.length] wa fun e w' => e = .returned (.bool true) ∧ Below wz.heap.size wz w' := by
  have h := is_any want n (by omega) P E R ao bo po P.length E.length R.length wa (hg.below hg.size hb) hP hE hR (by omega) (by omega) (Nat.le_refl _) (by omega) (fun i h => by have := he _ (List.getElem_mem h); omega) (fun i h => by have := hr _ (List.getElem_mem h); omega)
  rw [decide_eq_true hV] at h
  exact h.mono fun e w' ⟨h1, h2⟩ => ⟨h1, below_next hb h2⟩
theorem fails_lit (want n : Int) (P : List Nat) (E R : List (List UInt8)) (ao bo po : Option Addr) (wz wa : World) (hg : Glob wz) (hb : Below wz.heap.size wz wa) (hP : Nums ao P wa) (hE : Strs bo E wa) (hR : Strs po R wa) (hn : -100000 ≤ n ∧ n ≤ 100000) (hl : P.length ≤ 100 ∧ E.length ≤ 100 ∧ R.length ≤ 100) (he : ∀ x ∈ E, x.length ≤ 100) (hr : ∀ x ∈ R, x.length ≤ 100) (hV : rootV n P E R = ([], want)) :
    Calls Tryd.prog 10 #[.int .i64 want, .int .i64 n, .slice ao P.length P.length, .slice bo E.length E.length, .slice po R.length R.length] wa fun e w' => e = .returned (.bool true) ∧ Below wz.heap.size wz w' :=
  (fails_any want n (by omega) P E R ao bo po P.length E.length R.length wa (hg.below hg.size hb) hP hE hR (by omega) (by omega) (Nat.le_refl _) (by omega) (fun i h => by have := he _ (List.getElem_mem h); omega) (fun i h => by have := hr _ (List.getElem_mem h); omega) hV).mono fun e w' ⟨h1, h2⟩ => ⟨h1, below_next hb h2⟩
end Go.Proofs.YtblimejnjboedaaDoor
