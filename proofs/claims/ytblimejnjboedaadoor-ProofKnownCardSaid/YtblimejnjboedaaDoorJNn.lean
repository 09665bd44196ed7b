/- ProofKnown's plain facts. -/
import Derived.Test.YtblimejnjboedaaDoorJNc
namespace Go.Proofs.YtblimejnjboedaaDoor
open Go.RowKit Go.Sort

/-- the digest at the first leaf's place, with the same one beside it on each level -/
def upD (a d : (List UInt8)) : Nat → (List UInt8)
  | 0 => a
  | i + 1 => hashL nodeT [upD a d i, d]
theorem upD_rec (a d : (List UInt8)) : ∀ i, (Nat.rec a (fun _ t => hashL nodeT [t, d]) i : (List UInt8)) = upD a d i
  | 0 => rfl
  | i + 1 => by
    show hashL nodeT [(Nat.rec a (fun _ t => hashL nodeT [t, d]) i : (List UInt8)), d] = _
    rw [upD_rec a d i]
    rfl
theorem upD_32 {a d : (List UInt8)} (h : a.length = 32) : ∀ i, (upD a d i).length = 32
  | 0 => h
  | _ + 1 => hlen32 _ _ (by decide)
theorem dep_2 : dep 2 = 1 := by decide +kernel
theorem dep_max : dep 65536 = 16 := by decide +kernel
theorem may_0of2 : mayP (2 : Nat) [0] = true := by decide +kernel
theorem may_0max : mayP (65536 : Nat) [0] = true := by decide +kernel
theorem lvs_0 (D : Nat) (h : D = 1 ∨ D = 16) : lvs [0] D = [0] := by rcases h with rfl | rfl <;> decide +kernel
theorem size_first {n D : Nat} (hD : dep n = D) (hl : lvs [0] D = [0]) : sizeD [0] n = D := by
  rw [sizeD, hD, hl]
  exact pre_first D (Nat.le_refl _)
theorem leafF_0 (a : (List UInt8)) (D : Nat) (h : turnB 0 (D : Int) = 0) : leafF [0] [a] D 0 = hashL leafT [a] := leafF_of (i := 0) (by rw [h]; rfl) rfl
theorem root_deep (a d : (List UInt8)) (hd : d.length = 32) : rootV (65536 : Nat) [0] [a] (List.replicate 16 d) = (upD (hashL leafT [a]) d 16, 0) := by
  have hl := lvs_0 16 (.inr rfl)
  rw [root_good may_0max rfl (all32_mk fun x hx => by rw [List.eq_of_mem_replicate hx]; exact hd) (by rw [size_first dep_max hl, List.length_replicate]), dep_max, hl, comesD]
  rw [show knownD [0] 16 (List.replicate 16 d) (leafF [0] [a] 16) 16 0 = _ from known_first (n := 16) d (leafF [0] [a] 16) (Nat.le_refl _) 16 (Nat.le_refl _), leafF_0 a 16 (by decide +kernel), upD_rec]
theorem root_0of2 (a d : (List UInt8)) (hd : d.length = 32) : rootV (2 : Nat) [0] [a] [d] = (hashL nodeT [hashL leafT [a], d], 0) := by
  have hl := lvs_0 1 (.inl rfl)
  rw [root_good may_0of2 rfl (all32_mk (by simp [hd])) (by rw [size_first dep_2 hl]; rfl), dep_2, hl, comesD]
  rw [show knownD [0] 1 [d] (leafF [0] [a] 1) 1 0 = _ from known_first (n := 1) d (leafF [0] [a] 1) (Nat.le_refl _) 1 (Nat.le_refl _), leafF_0 a 1 (by decide +kernel), upD_rec]
  rfl
theorem root_2s (a : (List UInt8)) : rootV (2 : Nat) [0] [a] [] = ([], 4) := by
  have hz : sizeD [0] 2 = 1 := size_first dep_2 (lvs_0 1 (.inl rfl))
  rw [root_size may_0of2 rfl (all32_mk (by simp)) (by rw [hz]; simp), hz]
  rfl
theorem root_2f (a d : (List UInt8)) : rootV (2 : Nat) [0] [a] [d, d, [120]] = ([], 5) := root_form may_0of2 rfl (all32_no (x := [120]) (by simp) (by decide))
theorem bad_m (P : List Nat) (E R : List (List UInt8)) (n : Int) (h : mayP n P = false) : rootV n P E R = ([], 2) := root_bad (.inl h)
theorem check_of {root : (List UInt8)} {n : Int} {P : List Nat} {E R : List (List UInt8)} {Z : (List UInt8)} {z : Int} (h : rootV n P E R = (Z, z)) : checkV root n P E R = if z ≠ 0 then z else if Z = root then 0 else 20 := by rw [checkV, h]
end Go.Proofs.YtblimejnjboedaaDoor
