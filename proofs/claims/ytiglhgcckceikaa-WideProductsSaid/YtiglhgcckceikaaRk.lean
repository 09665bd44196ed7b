/- What is kept in memory while a law is walked: rows that lie in blocks, and lists of bits. -/
import Derived.Test.YtiglhgcckceikaaRd
import Derived.Test.YtiglhgcckceikaaWi
namespace Go.Proofs.Ytiglhgcckceikaa
open Go.RowKit

structure Kp (w : World) (R : List (Nat × Array Value × TypeId)) (B : List (Option Addr × Nat × Nat)) (wz : World) : Prop where
  rows : ∀ b A T, (b, A, T) ∈ R → wz.heap[b]? = some (.cells A T (0, 0))
  bits : ∀ a x n, (a, x, n) ∈ B → Bs a x n wz
  hw : Below w.heap.size w wz
theorem Kp.next {w wz wa : World} {R : List (Nat × Array Value × TypeId)} {B : List (Option Addr × Nat × Nat)} (h : Kp w R B wz) (hb : Below wz.heap.size wz wa) : Kp w R B wa :=
  ⟨fun b A T m => arow_below (h.rows b A T m) hb (arow_lt (h.rows b A T m)), fun a x n m => (h.bits a x n m).below hb (Nat.le_refl _), h.hw.trans (hb.mono h.hw.size)⟩
theorem Kp.drew {w wz : World} {R : List (Nat × Array Value × TypeId)} {B : List (Option Addr × Nat × Nat)} (h : Kp w R B wz) : Kp w R B wz.drew := ⟨h.rows, h.bits, h.hw.drew⟩
theorem Kp.start (w : World) : Kp w [] [] w := ⟨fun _ _ _ m => (List.not_mem_nil m).elim, fun _ _ _ m => (List.not_mem_nil m).elim, Below.refl _ _⟩
theorem Kp.alloc {w wz : World} {R : List (Nat × Array Value × TypeId)} {B : List (Option Addr × Nat × Nat)} (h : Kp w R B wz) (A : Array Value) (T : TypeId) : Kp w ((wz.heap.size, A, T) :: R) B (wz.alloc (.cells A T)) := by
  have k := h.next (below1' wz (.cells A T))
  refine ⟨fun b A' T' m => ?_, k.bits, k.hw⟩
  rcases List.mem_cons.1 m with e | m
  · cases e; exact arow_new _ _ _
  · exact k.rows _ _ _ m
theorem Kp.bit {w wz : World} {R : List (Nat × Array Value × TypeId)} {B : List (Option Addr × Nat × Nat)} {a : Option Addr} {x n : Nat} (h : Kp w R B wz) (hb : Bs a x n wz) : Kp w R ((a, x, n) :: B) wz := by
  refine ⟨h.rows, fun a' x' n' m => ?_, h.hw⟩
  rcases List.mem_cons.1 m with e | m
  · cases e; exact hb
  · exact h.bits _ _ _ m
theorem Kp.hd {w wz : World} {R : List (Nat × Array Value × TypeId)} {B : List (Option Addr × Nat × Nat)} {b : Nat} {A : Array Value} {T : TypeId} (h : Kp w ((b, A, T) :: R) B wz) : wz.heap[b]? = some (.cells A T (0, 0)) := h.rows _ _ _ (.head _)
theorem Kp.tl {w wz : World} {R : List (Nat × Array Value × TypeId)} {B : List (Option Addr × Nat × Nat)} {r : Nat × Array Value × TypeId} (h : Kp w (r :: R) B wz) : Kp w R B wz := ⟨fun b A T m => h.rows b A T (.tail _ m), h.bits, h.hw⟩
theorem cells_in4 {wz : World} {n : Nat} {y : Int} {Y : Nat} (h : wz.heap[n]? = some (.cells #[.int .u64 (d y 0), .int .u64 (d y 1), .int .u64 (d y 2), .int .u64 (d y 3)] 24 (0, 0))) (hy : ∀ j, j < 4 → d y j = d (Y : Int) j) : ∀ j, j < 4 → wz.cell? ⟨n, j, none⟩ = some (.int .u64 (d (Y : Int) j)) := by
  intro j hj
  rw [← hy j hj]
  exact (arow_cell h j).trans (atQ4 y j hj)
theorem cells_in8 {wz : World} {n : Nat} {y : Int} {Y : Nat} (h : wz.heap[n]? = some (.cells #[.int .u64 (d y 0), .int .u64 (d y 1), .int .u64 (d y 2), .int .u64 (d y 3), .int .u64 (d y 4), .int .u64 (d y 5), .int .u64 (d y 6), .int .u64 (d y 7)] 26 (0, 0))) (hy : ∀ j, j < 8 → d y j = d (Y : Int) j) : ∀ j, j < 8 → wz.cell? ⟨n, j, none⟩ = some (.int .u64 (d (Y : Int) j)) := by
  intro j hj
  rw [← hy j hj]
  exact (arow_cell h j).trans (row8 (fun i => d y i) j hj)
theorem pwn (m : Nat) : pw m = ((2 ^ (64 * m) : Nat) : Int) := by
  rw [pw_two, Int.natCast_pow]; rfl
theorem inn {m X : Nat} (h : X < 2 ^ (64 * m)) : In m (X : Int) := ⟨by omega, by rw [pwn]; exact Int.ofNat_lt.2 h⟩
theorem geBn (m X : Nat) : geB (X : Int) (pw m) = decide (2 ^ (64 * m) ≤ X) := by
  rw [geB, pwn]; exact decide_eq_decide.2 Int.ofNat_le
end Go.Proofs.Ytiglhgcckceikaa
