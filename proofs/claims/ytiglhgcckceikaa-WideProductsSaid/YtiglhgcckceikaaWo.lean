/- The product of two numbers of four limbs, by the program. -/
import Derived.Test.YtiglhgcckceikaaWn
namespace Go.Proofs.Ytiglhgcckceikaa
open Go.RowKit

/-- four blocks: the two numbers, the result, the product -/
structure M4 (N : Nat) (A B R : Array Value) (w : World) : Prop where
  ha : w.heap[N]? = some (.cells A 24 (0, 0))
  hb : w.heap[N + 1]? = some (.cells B 24 (0, 0))
  ho : ∃ Z : Array Value, Z.size = 8 ∧ w.heap[N + 1 + 1]? = some (.cells Z 26 (0, 0))
  hr : w.heap[N + 1 + 1 + 1]? = some (.cells R 26 (0, 0))
theorem M4.start (w : World) (A B Z R : Array Value) (hZ : Z.size = 8) : M4 w.heap.size A B R ((((w.alloc (.cells A 24)).alloc (.cells B 24)).alloc (.cells Z 26)).alloc (.cells R 26)) := by
  refine ⟨arow_alloc _ (arow_alloc _ (arow_alloc _ (heap_alloc_new w _))), arow_alloc _ (arow_alloc _ ?_), ⟨Z, hZ, arow_alloc _ ?_⟩, ?_⟩
  · have := heap_alloc_new (w.alloc (.cells A 24)) (.cells B 24)
    rwa [World.size_alloc] at this
  · have := heap_alloc_new ((w.alloc (.cells A 24)).alloc (.cells B 24)) (.cells Z 26)
    rwa [World.size_alloc, World.size_alloc] at this
  · have := heap_alloc_new (((w.alloc (.cells A 24)).alloc (.cells B 24)).alloc (.cells Z 26)) (.cells R 26)
    rwa [World.size_alloc, World.size_alloc, World.size_alloc] at this
theorem M4.store {N : Nat} {A B R : Array Value} {w : World} (h : M4 N A B R w) (k : Nat) (v : Value) : M4 N A B (R.setIfInBounds k v) (w.setCell ⟨N + 1 + 1 + 1, k, none⟩ v) := by
  obtain ⟨ha, hb, ⟨Z, hZ, ho⟩, hr⟩ := h
  exact ⟨arow_far _ (by omega) ha, arow_far _ (by omega) hb, ⟨Z, hZ, arow_far _ (by omega) ho⟩, arow_set _ hr⟩
theorem M4.drew {N : Nat} {A B R : Array Value} {w : World} (h : M4 N A B R w) : M4 N A B R w.drew := ⟨h.ha, h.hb, h.ho, h.hr⟩
theorem M4.below {N B' : Nat} {A B R : Array Value} {w w' : World} (h : M4 N A B R w) (hb : Below B' w w') (hB : N + 3 < B') : M4 N A B R w' := by
  obtain ⟨h1, h2, ⟨Z, hZ, h3⟩, h4⟩ := h
  exact ⟨arow_below h1 hb (by omega), arow_below h2 hb (by omega), ⟨Z, hZ, arow_below h3 hb (by omega)⟩, arow_below h4 hb (by omega)⟩
theorem M4.alloc {N : Nat} {A B R : Array Value} {w : World} (h : M4 N A B R w) (o : Obj) : M4 N A B R (w.alloc o) := by
  obtain ⟨h1, h2, ⟨Z, hZ, h3⟩, h4⟩ := h
  exact ⟨arow_alloc _ h1, arow_alloc _ h2, ⟨Z, hZ, arow_alloc _ h3⟩, arow_alloc _ h4⟩
theorem M4.lt {N : Nat} {A B R : Array Value} {w : World} (h : M4 N A B R w) : N + 3 < w.heap.size := arow_lt h.hr
theorem M4.farSet {N : Nat} {A B R : Array Value} {w : World} (h : M4 N A B R w) (b k : Nat) (v : Value) (hb : N + 3 < b) : M4 N A B R (w.setCell ⟨b, k, none⟩ v) := by
  obtain ⟨h1, h2, ⟨Z, hZ, h3⟩, h4⟩ := h
  exact ⟨arow_far _ (by omega) h1, arow_far _ (by omega) h2, ⟨Z, hZ, arow_far _ (by omega) h3⟩, arow_far _ (by omega) h4⟩

/-- where the inner loop stands: limbs f and a carry c -/
structure Part (x y : Int) (i j : Nat) (f : Nat → Int) (c : Int) : Prop where
  limbs : ∀ k, Limb (f k)
  carry : Limb c
  high : ∀ k, i + 4 ≤ k → f k = 0
  sum : sm f 8 + c * pw (i + j) = (x % pw i) * y + d x i * (y % pw j) * pw i
/-- where the outer loop stands -/
structure Parts (x y : Int) (i : Nat) (f : Nat → Int) : Prop where
  limbs : ∀ k, Limb (f k)
  high : ∀ k, i + 4 ≤ k → f k = 0
  sum : sm f 8 = (x % pw i) * y
theorem mod_next (x : Int) (i : Nat) : x % pw (i + 1) = x % pw i + pw i * d x i := by
  rw [← sm_d, ← sm_d, sm]
theorem Parts.begin {x y : Int} {i : Nat} {f : Nat → Int} (h : Parts x y i f) : Part x y i 0 f 0 :=
  ⟨h.limbs, ⟨by decide, by decide⟩, h.high, by rw [h.sum, pw_zero, Int.emod_one]; simp⟩
theorem step_sum (x y c : Int) (i j : Nat) (f : Nat → Int) (h : Part x y i j f c) : 0 ≤ d x i * d y j + f (i + j) ∧ d x i * d y j + f (i + j) < pw 2 ∧ 0 ≤ d x i * d y j + f (i + j) + c ∧ d x i * d y j + f (i + j) + c < pw 2 := by
  obtain ⟨h1, h2⟩ := mul_limbs (Limb.d x i) (Limb.d y j)
  obtain ⟨h3, h4⟩ := h.limbs (i + j)
  obtain ⟨h5, h6⟩ := h.carry
  rw [pw_2]
  refine ⟨by omega, by omega, by omega, by omega⟩
theorem Part.next {x y c : Int} {i j : Nat} {f : Nat → Int} (h : Part x y i j f c) (hi : i < 4) (hj : j < 4) (t : Int) (ht : d x i * d y j + f (i + j) + c = t) : Part x y i (j + 1) (upd f (i + j) (d t 0)) (d t 1) := by
  obtain ⟨_, _, s1, s2⟩ := step_sum x y c i j f h
  rw [ht] at s1 s2
  obtain ⟨e0, e1⟩ := d_two t s1 s2
  refine ⟨fun k => ?_, Limb.d t 1, fun k hk => ?_, ?_⟩
  · unfold upd; split
    · exact Limb.d t 0
    · exact h.limbs k
  · rw [upd, if_neg (by omega)]; exact h.high k hk
  · have hs := h.sum
    have em := Int.emod_add_mul_ediv t 18446744073709551616
    rw [sm_upd, if_pos (by omega), mod_next y j, ← Nat.add_assoc, pw_succ, e0, e1]
    have l : sm f 8 = (x % pw i) * y + d x i * (y % pw j) * pw i - c * pw (i + j) := by omega
    have e2 : t % 18446744073709551616 = t - 18446744073709551616 * (t / 18446744073709551616) := by omega
    rw [l, e2, ← ht]
    generalize (d x i * d y j + f (i + j) + c) / 18446744073709551616 = q
    rw [pw_add]
    simp only [Int.mul_add, Int.add_mul, Int.mul_sub]
    have a1 : q * (pw i * pw j * 18446744073709551616) = pw i * pw j * (18446744073709551616 * q) := by
      ac_rfl
    have a2 : pw i * pw j * (d x i * d y j) = d x i * (pw j * d y j) * pw i := by
      ac_rfl
    have a3 : c * (pw i * pw j) = pw i * pw j * c := Int.mul_comm _ _
    omega
theorem Part.done {x y c : Int} {i : Nat} {f : Nat → Int} (h : Part x y i 4 f c) (hi : i < 4) (hy : In 4 y) : Parts x y (i + 1) (upd f (i + 4) c) := by
  refine ⟨fun k => ?_, fun k hk => ?_, ?_⟩
  · unfold upd; split
    · exact h.carry
    · exact h.limbs k
  · rw [upd, if_neg (by omega)]; exact h.high k (by omega)
  · have hs := h.sum
    rw [Int.emod_eq_of_lt hy.1 hy.2] at hs
    rw [sm_upd, if_pos (by omega), h.high (i + 4) (by omega), mod_next x i, Int.sub_zero, Int.add_mul, Int.mul_comm _ c, hs]
    congr 1
    rw [Int.mul_comm (pw i), Int.mul_assoc, Int.mul_assoc, Int.mul_comm y]
end Go.Proofs.Ytiglhgcckceikaa
