/- math/bits.Add64 and Sub64 at this program; what is said of a step at each limb; blocks of limbs. -/
import Derived.Test.YtiglhgcckceikaaWm
import Derived.Laws.Externs
import Derived.StillTailTactics
import Derived.Deep.QuietTactic
import Derived.BigQuiet
import Derived.Deep.RegionHeld3
import Derived.Lib.Hide
namespace Go.Proofs.Ytiglhgcckceikaa
open Go.RowKit

theorem add64 (x y c : Int) (hx : 0 ≤ x) (hy : 0 ≤ y) (hc0 : 0 ≤ c) (hc : c ≤ 1) (w : World) : (callFunc 34 #[.int .u64 x, .int .u64 y, .int .u64 c]).run Try.prog w =
    .ok (.value (.tuple #[.int .u64 ((x + y + c) % 18446744073709551616), .int .u64 ((x + y + c) / 18446744073709551616)])) w := by
  obtain ⟨x, rfl⟩ := Int.eq_ofNat_of_zero_le hx
  obtain ⟨y, rfl⟩ := Int.eq_ofNat_of_zero_le hy
  obtain ⟨c, rfl⟩ := Int.eq_ofNat_of_zero_le hc0
  rw [run_callFunc_extern Try.func34 (by kernel_rfl) (by kernel_rfl) (by kernel_rfl) (e := add64Entry) (by kernel_rfl), run_add64 x y c (by omega) (by omega) (by omega) (by omega)]
  rfl
/-- the entry that the model names for math/bits.Sub64 -/
def sub64E : Array Value → Sem Value := (Extern.MathBitsCarry.rows[1]'(by decide)).2
theorem run_sub64E {P : Program} (x y b : Nat) (hb : b ≤ 1) (w : World) :
    (sub64E #[.int .u64 x, .int .u64 y, .int .u64 b]).run P w =
      .ok (.tuple #[.int .u64 (((x + 18446744073709551616 - y - b) % 18446744073709551616 : Nat) : Int), .int .u64 ((if x < y + b then 1 else 0 : Nat) : Int)]) w := by
  have : b = 0 ∨ b = 1 := by omega
  rcases this with rfl | rfl <;> rfl
theorem sub64 (x y c : Int) (hx : 0 ≤ x ∧ x < 18446744073709551616) (hy : 0 ≤ y ∧ y < 18446744073709551616) (hc : -1 ≤ c ∧ c ≤ 0) (w : World) : (callFunc 37 #[.int .u64 x, .int .u64 y, .int .u64 (-c)]).run Try.prog w =
    .ok (.value (.tuple #[.int .u64 ((x - y + c) % 18446744073709551616), .int .u64 (-((x - y + c) / 18446744073709551616))])) w := by
  obtain ⟨x, rfl⟩ := Int.eq_ofNat_of_zero_le hx.1
  obtain ⟨y, rfl⟩ := Int.eq_ofNat_of_zero_le hy.1
  obtain ⟨b, hb⟩ := Int.eq_ofNat_of_zero_le (show 0 ≤ -c by omega)
  obtain rfl : c = -(b : Int) := by omega
  have e1 : (((x + 18446744073709551616 - y - b) % 18446744073709551616 : Nat) : Int) = ((x : Int) - y + -b) % 18446744073709551616 := by omega
  have e2 : ((if x < y + b then 1 else 0 : Nat) : Int) = -(((x : Int) - y + -b) / 18446744073709551616) := by split <;> omega
  rw [Int.neg_neg, run_callFunc_extern Try.func37 (by kernel_rfl) (by kernel_rfl) (by kernel_rfl) (e := sub64E) (by kernel_rfl), run_sub64E x y b (by omega), e1, e2]
  rfl

/-- how a carry is handed on: by itself, or as a borrow -/
def sg (neg : Bool) (c : Int) : Int := if neg then -c else c

/-- the step that function g does at each limb -/
def Steps (g : Nat) (neg : Bool) (n : Nat) (a b f : Nat → Int) : Prop :=
  ∀ k, k < n → ∀ w : World, (callFunc g #[.int .u64 (a k), .int .u64 (b k), .int .u64 (sg neg (cy f k))]).run Try.prog w = .ok (.value (.tuple #[.int .u64 (d (sm f n) k), .int .u64 (sg neg (cy f (k + 1)))])) w

theorem steps_add (n : Nat) (a b : Nat → Int) (ha : ∀ i < n, 0 ≤ a i ∧ a i < 18446744073709551616) (hb : ∀ i < n, 0 ≤ b i ∧ b i < 18446744073709551616) :
    Steps 34 false n a b (fun i => a i + b i) := by
  intro k hk w
  obtain ⟨h1, h2⟩ := cy_add a b n ha hb k (by omega)
  rw [d_sm _ k n hk, cy_succ]
  exact add64 _ _ _ (ha k hk).1 (hb k hk).1 h1 h2 w
theorem steps_sub (n : Nat) (a b : Nat → Int) (ha : ∀ i < n, 0 ≤ a i ∧ a i < 18446744073709551616) (hb : ∀ i < n, 0 ≤ b i ∧ b i < 18446744073709551616) :
    Steps 37 true n a b (fun i => a i - b i) := by
  intro k hk w
  rw [d_sm _ k n hk, cy_succ]
  exact sub64 _ _ _ (ha k hk) (hb k hk) (cy_sub a b n ha hb k (by omega)) w

/-- rows of cells in memory -/
theorem arow_cell {w : World} {b : Nat} {L : Array Value} {t : TypeId} (h : w.heap[b]? = some (.cells L t (0, 0))) (i : Nat) : w.cell? ⟨b, i, none⟩ = L[i]? := by
  simp [World.cell?, h]
theorem arow_free {w : World} {b : Nat} {L : Array Value} {t : TypeId} (h : w.heap[b]? = some (.cells L t (0, 0))) (i : Nat) : w.frozen? ⟨b, i, none⟩ = false := by
  simp [World.frozen?, h]
theorem arow_set {w : World} {b k : Nat} {L : Array Value} {t : TypeId} (v : Value) (h : w.heap[b]? = some (.cells L t (0, 0))) : (w.setCell ⟨b, k, none⟩ v).heap[b]? = some (.cells (L.setIfInBounds k v) t (0, 0)) := by
  show (w.heap.modify b _)[b]? = _
  rw [Array.getElem?_modify, if_pos rfl, h]
  rfl
theorem arow_far {w : World} {b c k : Nat} {o : Option Obj} (v : Value) (hne : c ≠ b) (h : w.heap[b]? = o) : (w.setCell ⟨c, k, none⟩ v).heap[b]? = o := by
  rw [Below.heap_setCell _ _ _ _ (by simpa using fun e => hne e.symm)]; exact h
theorem arow_alloc {w : World} {b : Nat} {L : Array Value} {t : TypeId} (o : Obj) (h : w.heap[b]? = some (.cells L t (0, 0))) : (w.alloc o).heap[b]? = some (.cells L t (0, 0)) := by
  rw [Below.heap_alloc _ _ _ (Array.getElem?_eq_some_iff.1 h).1]; exact h
theorem arow_lt {w : World} {b : Nat} {L : Array Value} {t : TypeId} (h : w.heap[b]? = some (.cells L t (0, 0))) : b < w.heap.size := (Array.getElem?_eq_some_iff.1 h).1
theorem arow_below {B b : Nat} {w w' : World} {L : Array Value} {t : TypeId} (h : w.heap[b]? = some (.cells L t (0, 0))) (hb : Below B w w') (hB : b < B) : w'.heap[b]? = some (.cells L t (0, 0)) := (hb.block b hB).trans h
/-- what is laid so far -/
def Upto (z : Int) (k : Nat) (R : Array Value) : Prop := ∀ j, j < k → R[j]? = some (.int .u64 (d z j))
theorem Upto.next {z : Int} {k n : Nat} {R : Array Value} (h : Upto z k R) (hR : R.size = n) (hk : k < n) : Upto z (k + 1) (R.setIfInBounds k (.int .u64 (d z k))) := by
  intro j hj
  by_cases e : j = k
  · subst e; rw [Array.getElem?_setIfInBounds_self_of_lt (by omega)]
  · rw [Array.getElem?_setIfInBounds_ne (by omega)]; exact h j (by omega)
/-- four blocks: two arguments, the result, what is laid -/
structure L4 (N : Nat) (T : TypeId) (A B R : Array Value) (n : Nat) (w : World) : Prop where
  ha : w.heap[N]? = some (.cells A T (0, 0))
  hb : w.heap[N + 1]? = some (.cells B T (0, 0))
  ho : ∃ Z : Array Value, Z.size = n ∧ w.heap[N + 1 + 1]? = some (.cells Z T (0, 0))
  hr : w.heap[N + 1 + 1 + 1]? = some (.cells R T (0, 0))
theorem L4.start (w : World) (T : TypeId) (A B Z R : Array Value) (n : Nat) (hZ : Z.size = n) : L4 w.heap.size T A B R n ((((w.alloc (.cells A T)).alloc (.cells B T)).alloc (.cells Z T)).alloc (.cells R T)) := by
  refine ⟨arow_alloc _ (arow_alloc _ (arow_alloc _ (heap_alloc_new w _))), arow_alloc _ (arow_alloc _ ?_), ⟨Z, hZ, arow_alloc _ ?_⟩, ?_⟩
  · have := heap_alloc_new (w.alloc (.cells A T)) (.cells B T)
    rwa [World.size_alloc] at this
  · have := heap_alloc_new ((w.alloc (.cells A T)).alloc (.cells B T)) (.cells Z T)
    rwa [World.size_alloc, World.size_alloc] at this
  · have := heap_alloc_new (((w.alloc (.cells A T)).alloc (.cells B T)).alloc (.cells Z T)) (.cells R T)
    rwa [World.size_alloc, World.size_alloc, World.size_alloc] at this
theorem L4.store {N : Nat} {T : TypeId} {A B R : Array Value} {n : Nat} {w : World} (h : L4 N T A B R n w) (k : Nat) (v : Value) : L4 N T A B (R.setIfInBounds k v) n (w.setCell ⟨N + 1 + 1 + 1, k, none⟩ v) := by
  obtain ⟨ha, hb, ⟨Z, hZ, ho⟩, hr⟩ := h
  exact ⟨arow_far _ (by omega) ha, arow_far _ (by omega) hb, ⟨Z, hZ, arow_far _ (by omega) ho⟩, arow_set _ hr⟩
theorem L4.drew {N : Nat} {T : TypeId} {A B R : Array Value} {n : Nat} {w : World} (h : L4 N T A B R n w) : L4 N T A B R n w.drew := ⟨h.ha, h.hb, h.ho, h.hr⟩
theorem below4' (w : World) (A B C D : Obj) : Below w.heap.size w ((((w.alloc A).alloc B).alloc C).alloc D) :=
  ((((Below.refl _ _).alloc (Nat.le_refl _) _).alloc (by simp) _).alloc (by simp; omega) _).alloc (by simp; omega) _
theorem L4.out {N : Nat} {T : TypeId} {A B R : Array Value} {n : Nat} {w : World} (h : L4 N T A B R n w) (i : Nat) (hi : i < n) : (∃ z, w.cell? ⟨N + 1 + 1, i, none⟩ = some z) ∧ w.frozen? ⟨N + 1 + 1, i, none⟩ = false := by
  obtain ⟨Z, hZ, ho⟩ := h.ho
  exact ⟨⟨Z[i], by rw [arow_cell ho]; simp [hZ, hi]⟩, arow_free ho i⟩

end Go.Proofs.Ytiglhgcckceikaa
