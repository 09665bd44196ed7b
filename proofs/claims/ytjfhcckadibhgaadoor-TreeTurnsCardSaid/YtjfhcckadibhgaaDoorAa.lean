/- A tree's digests, as functions of what stands at its leaves; a tree in memory. -/
import Derived.Test.YtjfhcckadibhgaaDoorDc
import Derived.Test.YtjfhcckadibhgaaDoorHyb
namespace Go.Proofs.YtjfhcckadibhgaaDoor
open Go.RowKit

def leafT : (List UInt8) := [108, 101, 97, 102]
def nodeT : (List UInt8) := [110, 111, 100, 101]
def noneT : (List UInt8) := [110, 111, 110, 101]
/-- the digest of a place, of what stands at the leaves -/
def dg (g : Nat → (List UInt8)) : Nat → Nat → (List UInt8)
  | 0, k => g k
  | l + 1, k => hashL nodeT [dg g l (2 * k), dg g l (2 * k + 1)]
/-- the digest of a leaf of a list -/
def gl (L : List (List UInt8)) (d k : Nat) : (List UInt8) := if h : turnB k d < L.length then hashL leafT [L[turnB k d]] else hashL noneT []
theorem hashL_len (tag : (List UInt8)) (L : List (List UInt8)) : (hashL tag L).length ≤ 32 := by
  unfold hashL
  split
  · rw [shaL_length]; omega
  · simp
theorem dg_len {g : Nat → (List UInt8)} (h : ∀ k, (g k).length ≤ 32) (l k : Nat) : (dg g l k).length ≤ 32 := by
  cases l with
  | zero => exact h k
  | succ l => exact hashL_len _ _
theorem gl_len (L : List (List UInt8)) (d k : Nat) : (gl L d k).length ≤ 32 := by
  unfold gl
  split <;> exact hashL_len _ _
theorem kid_range (l k : Nat) : k * 2 ^ (l + 1) = 2 * k * 2 ^ l ∧ (k + 1) * 2 ^ (l + 1) = (2 * k + 1 + 1) * 2 ^ l ∧ (2 * k + 1) * 2 ^ l = 2 * k * 2 ^ l + 2 ^ l ∧ (2 * k + 1 + 1) * 2 ^ l = (2 * k + 1) * 2 ^ l + 2 ^ l := by
  have e : (2 : Nat) ^ (l + 1) = 2 * 2 ^ l := by rw [Nat.pow_succ, Nat.mul_comm]
  refine ⟨by rw [e, ← Nat.mul_assoc, Nat.mul_comm k 2], by rw [e, ← Nat.mul_assoc, Nat.mul_comm (k + 1) 2]; rfl, Nat.succ_mul _ _, Nat.succ_mul _ _⟩
theorem dg_congr {g g' : Nat → (List UInt8)} : ∀ (l k : Nat), (∀ j, k * 2 ^ l ≤ j → j < (k + 1) * 2 ^ l → g j = g' j) → dg g l k = dg g' l k
  | 0, k, h => h k (by simp) (by simp)
  | l + 1, k, h => by
    obtain ⟨e1, e2, e3, e4⟩ := kid_range l k
    have hp := Nat.two_pow_pos l
    rw [dg, dg, dg_congr l (2 * k) (fun j h1 h2 => h j (by omega) (by omega)), dg_congr l (2 * k + 1) (fun j h1 h2 => h j (by omega) (by omega))]
theorem framed_short (tag : (List UInt8)) (L : List (List UInt8)) (ht : tag.length ≤ 16) (hl : ∀ x ∈ L, x.length ≤ 10000000) (hn : L.length ≤ 100) : (framed tag L).length < 1100000000 := by
  have h1 : ∀ M : List (List UInt8), (∀ x ∈ M, x.length ≤ 10000000) → (M.flatMap partL).length ≤ 10000008 * M.length := by
    intro M
    induction M with
    | nil => simp
    | cons x M ih =>
      intro h
      have hx := h x (by simp)
      have := ih fun y hy => h y (by simp [hy])
      rw [List.flatMap_cons, List.length_append, List.length_cons]
      have hp : (partL x).length = 8 + x.length := by simp [partL, numL_length]
      omega
  have := h1 L hl
  simp only [framed, List.length_cons, List.length_append]
  omega
/-- a place in memory, and all below it -/
def InT (g : Nat → (List UInt8)) (w : World) : Nat → Nat → Nat → Prop
  | 0, k, b => w.heap[b]? = some (.cells #[.string ⟨(g k).toArray⟩, .pointer none, .pointer none] 61 (0, 0))
  | l + 1, k, b => ∃ x y, w.heap[b]? = some (.cells #[.string ⟨(dg g (l + 1) k).toArray⟩, .pointer (some ⟨x, 0, none⟩), .pointer (some ⟨y, 0, none⟩)] 61 (0, 0)) ∧ InT g w l (2 * k) x ∧ InT g w l (2 * k + 1) y
theorem InT.blk {g : Nat → (List UInt8)} {w : World} {l k b : Nat} (h : InT g w l k b) : ∃ x y, w.heap[b]? = some (.cells #[.string ⟨(dg g l k).toArray⟩, .pointer x, .pointer y] 61 (0, 0)) := by
  cases l with
  | zero => exact ⟨_, _, h⟩
  | succ l => obtain ⟨x, y, h, _, _⟩ := h; exact ⟨_, _, h⟩
theorem InT.lt {g : Nat → (List UInt8)} {w : World} {l k b : Nat} (h : InT g w l k b) : b < w.heap.size := by
  obtain ⟨x, y, h⟩ := h.blk
  exact (Array.getElem?_eq_some_iff.1 h).1
theorem InT.keep {g : Nat → (List UInt8)} {w w' : World} (hk : ∀ (b : Nat) (C : Array Value), w.heap[b]? = some (Obj.cells C 61 (0, 0)) → w'.heap[b]? = w.heap[b]?) : ∀ {l k b : Nat}, InT g w l k b → InT g w' l k b
  | 0, k, b, h => (hk _ _ h).trans h
  | l + 1, k, b, h => by
    obtain ⟨x, y, h, h1, h2⟩ := h
    exact ⟨x, y, (hk _ _ h).trans h, InT.keep hk h1, InT.keep hk h2⟩
theorem InT.below {g : Nat → (List UInt8)} {w w' : World} {l k b : Nat} (h : InT g w l k b) (hb : Below w.heap.size w w') : InT g w' l k b :=
  h.keep fun _ _ e => hb.block _ (Array.getElem?_eq_some_iff.1 e).1
theorem InT.congr {g g' : Nat → (List UInt8)} {w : World} : ∀ {l k b : Nat}, (∀ j, k * 2 ^ l ≤ j → j < (k + 1) * 2 ^ l → g j = g' j) → InT g w l k b → InT g' w l k b
  | 0, k, b, h, hi => by
    have e := h k (by simp) (by simp)
    unfold InT at hi ⊢
    rw [← e]; exact hi
  | l + 1, k, b, h, hi => by
    have e0 := dg_congr (l + 1) k h
    obtain ⟨e1, e2, e3, e4⟩ := kid_range l k
    have hp := Nat.two_pow_pos l
    obtain ⟨x, y, h0, h1, h2⟩ := hi
    refine ⟨x, y, by rw [← e0]; exact h0, InT.congr (fun j a b => h j (by omega) (by omega)) h1, InT.congr (fun j a b => h j (by omega) (by omega)) h2⟩
end Go.Proofs.YtjfhcckadibhgaaDoor
