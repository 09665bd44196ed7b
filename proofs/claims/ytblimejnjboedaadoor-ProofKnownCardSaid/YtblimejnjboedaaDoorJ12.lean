/- Parting a row by a pivot: the numbers. -/
import Derived.Test.YtblimejnjboedaaDoorJ11
namespace Go.Proofs.YtblimejnjboedaaDoor
open Go.RowKit Go.Sort

/-- between lo and hi, the pivot p at lo: those ahead of i are left ones, those behind j are right ones -/
structure Prt (f : Nat → Bool) (lo hi p : Nat) (d0 : Array Nat) (i j : Nat) (dk : Array Nat) : Prop where
  size : dk.size = d0.size
  hs : hi ≤ d0.size
  perm : PermIn lo hi d0 dk
  piv : dk[lo]! = p
  left : ∀ t, lo < t → t < i → f dk[t]! = true
  right : ∀ t, j < t → t < hi → f dk[t]! = false
  li : lo < i
  ij : i ≤ j + 1
  jh : j < hi
theorem Prt.up {f : Nat → Bool} {lo hi p i j : Nat} {d0 dk : Array Nat} (h : Prt f lo hi p d0 i j dk) (hij : i ≤ j) (hl : f dk[i]! = true) : Prt f lo hi p d0 (i + 1) j dk :=
  ⟨h.size, h.hs, h.perm, h.piv, fun t h1 h2 => (Nat.lt_or_ge t i).elim (fun e => h.left t h1 e) (fun e => by rw [show t = i by omega]; exact hl), h.right, by have := h.li; omega, by omega, h.jh⟩
theorem Prt.down {f : Nat → Bool} {lo hi p i j : Nat} {d0 dk : Array Nat} (h : Prt f lo hi p d0 i j dk) (hij : i ≤ j) (hl : f dk[j]! = false) : Prt f lo hi p d0 i (j - 1) dk :=
  ⟨h.size, h.hs, h.perm, h.piv, h.left, fun t h1 h2 => (Nat.lt_or_ge j t).elim (fun e => h.right t e h2) (fun e => by rw [show t = j by omega]; exact hl), h.li, by have := h.li; omega, by have := h.jh; omega⟩
theorem Prt.swap {f : Nat → Bool} {lo hi p i j : Nat} {d0 dk : Array Nat} (h : Prt f lo hi p d0 i j dk) (hij : i ≤ j) (h1 : f dk[i]! = false) (h2 : f dk[j]! = true) : i < j ∧ Prt f lo hi p d0 (i + 1) (j - 1) (swp dk i j) := by
  have hne : i ≠ j := fun e => by rw [e, h2] at h1; cases h1
  have hl := h.li
  have hj := h.jh
  have hs := h.hs
  have hz := h.size
  have hg := fun k => swp_get dk (i := i) (j := j) (by omega) (by omega) k
  refine ⟨by omega, by rw [swp_size]; exact h.size, hs, permIn_trans _ _ _ _ _ h.perm (swp_permIn _ _ _ _ _ (by omega) (by omega) (by omega) (by omega) (by omega)), ?_, fun t t1 t2 => ?_, fun t t1 t2 => ?_, by omega, by omega, by omega⟩
  · rw [hg, if_neg (by omega), if_neg (by omega)]; exact h.piv
  · rw [hg, if_neg (by omega)]
    by_cases e : t = i
    · rw [if_pos e]; exact h2
    · rw [if_neg e]; exact h.left t t1 (by omega)
  · rw [hg]
    by_cases e : t = j
    · rw [if_pos e]; exact h1
    · rw [if_neg e, if_neg (by omega)]; exact h.right t (by omega) t2
/-- the pivot, brought between both -/
theorem Prt.last {f : Nat → Bool} {lo hi p i j : Nat} {d0 dk : Array Nat} (h : Prt f lo hi p d0 i j dk) (hij : j < i) :
    lo ≤ j ∧ PermIn lo hi d0 (swp dk j lo) ∧ (swp dk j lo)[j]! = p ∧ (∀ t, lo ≤ t → t < j → f (swp dk j lo)[t]! = true) ∧ (∀ t, j < t → t < hi → f (swp dk j lo)[t]! = false) := by
  have hl := h.li
  have hj := h.jh
  have hs := h.hs
  have hz := h.size
  have hq := h.ij
  have hg := fun k => swp_get dk (i := j) (j := lo) (by omega) (by omega) k
  refine ⟨by omega, permIn_trans _ _ _ _ _ h.perm (swp_permIn _ _ _ _ _ (by omega) (by omega) (by omega) (by omega) (by omega)), ?_, fun t t1 t2 => ?_, fun t t1 t2 => ?_⟩
  · rw [hg]
    by_cases e : j = lo
    · rw [if_pos e, e]; exact h.piv
    · rw [if_neg e, if_pos rfl]; exact h.piv
  · rw [hg]
    by_cases e : t = lo
    · rw [if_pos e]; exact h.left j (by omega) (by omega)
    · rw [if_neg e, if_neg (by omega)]; exact h.left t (by omega) (by omega)
  · rw [hg, if_neg (by omega), if_neg (by omega)]; exact h.right t t1 t2
/-- the beginning: the pivot is brought to lo -/
theorem Prt.start {f : Nat → Bool} {lo hi pv : Nat} {d : Array Nat} (h1 : lo ≤ pv) (h2 : pv < hi) (hs : hi ≤ d.size) : Prt f lo hi d[pv]! d (lo + 1) (hi - 1) (swp d lo pv) := by
  refine ⟨swp_size _ _ _, hs, swp_permIn _ _ _ _ _ (Nat.le_refl _) (by omega) h1 h2 hs, ?_, fun t t1 t2 => by omega, fun t t1 t2 => by omega, by omega, by omega, by omega⟩
  rw [swp_get d (by omega) (by omega)]
  by_cases e : lo = pv
  · rw [if_pos e, e]
  · rw [if_neg e, if_pos rfl]
theorem Srt.one (lo : Nat) (d : Array Nat) : Srt lo (lo + 1) d := fun p q h1 h2 h3 => by omega
theorem Srt.snoc {lo i : Nat} {d : Array Nat} (h : Srt lo i d) (hi : lo < i) (hl : d[i - 1]! ≤ d[i]!) : Srt lo (i + 1) d := fun p q h1 h2 h3 => by
  by_cases e : q = i
  · subst e
    by_cases e2 : p = q - 1
    · subst e2; exact hl
    · exact Nat.le_trans (h p (q - 1) h1 (by omega) (by omega)) hl
  · exact h p q h1 h2 (by omega)
end Go.Proofs.YtblimejnjboedaaDoor
