/- Sorting by insertion: what a row is between two rounds. -/
import Derived.Test.YtcobflhnphikaaaHb
import Derived.Sort.Row
namespace Go.Proofs.Ytcobflhnphikaaa
open Go.RowKit Go.Sort

def encU (k : Nat) : Value := .int .u64 (k : Int)
/-- the first i are in order -/
def Up (d : Array Nat) (i : Nat) : Prop := ∀ p q, p < q → q < i → d[p]! ≤ d[q]!
/-- those up to i are in order, but for the one at j, that is on its way down -/
def UpBut (d : Array Nat) (i j : Nat) : Prop := ∀ p q, p < q → q ≤ i → q ≠ j → d[p]! ≤ d[q]!
theorem Up.start {d : Array Nat} {i : Nat} (h : Up d i) : UpBut d i i := fun p q hpq hq hne => h p q hpq (by omega)
theorem UpBut.step {d : Array Nat} {i j : Nat} (h : UpBut d i (j + 1)) (hj : j + 1 ≤ i) (hi : i < d.size) (hl : d[j + 1]! < d[j]!) : UpBut (swp d (j + 1) j) i j := by
  have e1 : (swp d (j + 1) j)[j + 1]! = d[j]! := swp_left d (j + 1) j (by omega) (by omega)
  have e2 : (swp d (j + 1) j)[j]! = d[j + 1]! := swp_right d (j + 1) j (by omega)
  have e3 : ∀ k, k ≠ j + 1 → k ≠ j → (swp d (j + 1) j)[k]! = d[k]! := fun k h1 h2 => swp_other d (j + 1) j k h1 h2
  intro p q hpq hq hne
  by_cases q1 : q = j + 1
  · subst q1
    rw [e1]
    by_cases p1 : p = j
    · subst p1; rw [e2]; omega
    · rw [e3 p (by omega) p1]; exact h p j (by omega) (by omega) (by omega)
  · rw [e3 q q1 hne]
    by_cases p1 : p = j + 1
    · subst p1; rw [e1]; exact h j q (by omega) hq q1
    · by_cases p2 : p = j
      · subst p2; rw [e2]; exact h (p + 1) q (by omega) hq q1
      · rw [e3 p p1 p2]; exact h p q hpq hq q1
theorem UpBut.stop {d : Array Nat} {i j : Nat} (h : UpBut d i j) (hs : j = 0 ∨ d[j - 1]! ≤ d[j]!) : Up d (i + 1) := by
  intro p q hpq hq
  by_cases e : q = j
  · subst e
    rcases hs with h0 | h0
    · omega
    · by_cases p1 : p = q - 1
      · subst p1; exact h0
      · exact Nat.le_trans (h p (q - 1) (by omega) (by omega) (by omega)) h0
  · exact h p q hpq (by omega) e
theorem Up.pairwise {d : Array Nat} (h : Up d d.size) : d.toList.Pairwise (· ≤ ·) := by
  rw [List.pairwise_iff_getElem]
  intro p q hp hq hpq
  have := h p q hpq (by simpa using hq)
  rw [getElem!_pos d p (by simpa using hp), getElem!_pos d q (by simpa using hq)] at this
  simpa using this
theorem permIn_list {d d' : Array Nat} (h : PermIn 0 d.size d d') : d'.toList.Perm d.toList := by
  have := h.2.2
  rw [Array.extract_eq_self_of_le (Nat.le_of_eq h.1), Array.extract_size] at this
  exact this
end Go.Proofs.Ytcobflhnphikaaa
