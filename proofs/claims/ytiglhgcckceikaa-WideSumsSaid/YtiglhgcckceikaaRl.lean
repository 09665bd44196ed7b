/- WideSums: the facts for its walk. -/
import Derived.Test.YtiglhgcckceikaaRk
import Derived.Test.YtiglhgcckceikaaRf
import Derived.Test.YtiglhgcckceikaaRg
import Derived.Test.YtiglhgcckceikaaWl
import Derived.Test.YtiglhgcckceikaaWc
namespace Go.Proofs.Ytiglhgcckceikaa
open Go.RowKit

theorem sum4_facts (X Y : Nat) (hX : X < 2 ^ (64 * 4)) (hY : Y < 2 ^ (64 * 4)) : ∃ s : Int, ∃ ov : Bool,
      (∀ w, Calls Try.prog 9 #[.agg #[.int .u64 (d ((X : Int)) 0), .int .u64 (d ((X : Int)) 1), .int .u64 (d ((X : Int)) 2), .int .u64 (d ((X : Int)) 3)], .agg #[.int .u64 (d ((Y : Int)) 0), .int .u64 (d ((Y : Int)) 1), .int .u64 (d ((Y : Int)) 2), .int .u64 (d ((Y : Int)) 3)]] w fun e w' => e = .returned (.tuple #[.agg #[.int .u64 (d s 0), .int .u64 (d s 1), .int .u64 (d s 2), .int .u64 (d s 3)], .bool ov]) ∧ Below w.heap.size w w') ∧
      (∀ j, j < 4 → d s j = d ((X + Y : Nat) : Int) j) ∧ ov = decide (2 ^ (64 * 4) ≤ X + Y) :=
  ⟨(X : Int) + (Y : Int), _, fun w => add4_any _ _ (X : Int) (Y : Int) w rfl rfl (inn hX) (inn hY), fun j _ => by rw [Int.natCast_add], by rw [← Int.natCast_add, geBn]⟩
theorem sum8_facts (X Y : Nat) (hX : X < 2 ^ (64 * 8)) (hY : Y < 2 ^ (64 * 8)) : ∃ s : Int, ∃ ov : Bool,
      (∀ w, Calls Try.prog 14 #[.agg #[.int .u64 (d ((X : Int)) 0), .int .u64 (d ((X : Int)) 1), .int .u64 (d ((X : Int)) 2), .int .u64 (d ((X : Int)) 3), .int .u64 (d ((X : Int)) 4), .int .u64 (d ((X : Int)) 5), .int .u64 (d ((X : Int)) 6), .int .u64 (d ((X : Int)) 7)], .agg #[.int .u64 (d ((Y : Int)) 0), .int .u64 (d ((Y : Int)) 1), .int .u64 (d ((Y : Int)) 2), .int .u64 (d ((Y : Int)) 3), .int .u64 (d ((Y : Int)) 4), .int .u64 (d ((Y : Int)) 5), .int .u64 (d ((Y : Int)) 6), .int .u64 (d ((Y : Int)) 7)]] w fun e w' => e = .returned (.tuple #[.agg #[.int .u64 (d s 0), .int .u64 (d s 1), .int .u64 (d s 2), .int .u64 (d s 3), .int .u64 (d s 4), .int .u64 (d s 5), .int .u64 (d s 6), .int .u64 (d s 7)], .bool ov]) ∧ Below w.heap.size w w') ∧
      (∀ j, j < 8 → d s j = d ((X + Y : Nat) : Int) j) ∧ ov = decide (2 ^ (64 * 8) ≤ X + Y) :=
  ⟨(X : Int) + (Y : Int), _, fun w => add8_any _ _ (X : Int) (Y : Int) w rfl rfl (inn hX) (inn hY), fun j _ => by rw [Int.natCast_add], by rw [← Int.natCast_add, geBn]⟩
theorem diff4_facts (X Y : Nat) (hX : X < 2 ^ (64 * 4)) (hY : Y < 2 ^ (64 * 4)) : ∃ s : Int, ∃ un : Bool, ∃ Z : Nat,
      (∀ w, Calls Try.prog 12 #[.agg #[.int .u64 (d ((X : Int)) 0), .int .u64 (d ((X : Int)) 1), .int .u64 (d ((X : Int)) 2), .int .u64 (d ((X : Int)) 3)], .agg #[.int .u64 (d ((Y : Int)) 0), .int .u64 (d ((Y : Int)) 1), .int .u64 (d ((Y : Int)) 2), .int .u64 (d ((Y : Int)) 3)]] w fun e w' => e = .returned (.tuple #[.agg #[.int .u64 (d s 0), .int .u64 (d s 1), .int .u64 (d s 2), .int .u64 (d s 3)], .bool un]) ∧ Below w.heap.size w w') ∧
      (∀ j, j < 4 → d s j = d (Z : Int) j) ∧ un = decide (X < Y) ∧ Z < 2 ^ (64 * 4) ∧ Z + Y = X + (if X < Y then 2 ^ (64 * 4) else 0) := by
  have hlt : ltB (X : Int) (Y : Int) = decide (X < Y) := decide_eq_decide.2 Int.ofNat_lt
  by_cases h : X < Y
  · refine ⟨(X : Int) - (Y : Int), _, X + 2 ^ (64 * 4) - Y, fun w => sub4_any _ _ (X : Int) (Y : Int) w rfl rfl (inn hX) (inn hY), fun j hj => ?_, hlt, by omega, by rw [if_pos h]; omega⟩
    have e : ((X + 2 ^ (64 * 4) - Y : Nat) : Int) = (X : Int) - (Y : Int) + pw 4 := by rw [pwn]; omega
    rw [e, ← d_mod ((X : Int) - (Y : Int) + pw 4) 4 j hj, Int.add_emod_right, d_mod _ 4 j hj]
  · refine ⟨(X : Int) - (Y : Int), _, X - Y, fun w => sub4_any _ _ (X : Int) (Y : Int) w rfl rfl (inn hX) (inn hY), fun j hj => ?_, hlt, by omega, by rw [if_neg h]; omega⟩
    rw [show ((X - Y : Nat) : Int) = (X : Int) - (Y : Int) by omega]
theorem low8_facts (X : Nat) (hX : X < 2 ^ (64 * 8)) : ∃ hi : Bool,
      (∀ w, Calls Try.prog 15 #[.agg #[.int .u64 (d ((X : Int)) 0), .int .u64 (d ((X : Int)) 1), .int .u64 (d ((X : Int)) 2), .int .u64 (d ((X : Int)) 3), .int .u64 (d ((X : Int)) 4), .int .u64 (d ((X : Int)) 5), .int .u64 (d ((X : Int)) 6), .int .u64 (d ((X : Int)) 7)]] w fun e w' => e = .returned (.tuple #[.agg #[.int .u64 (d ((X : Int)) 0), .int .u64 (d ((X : Int)) 1), .int .u64 (d ((X : Int)) 2), .int .u64 (d ((X : Int)) 3)], .bool hi]) ∧ Below w.heap.size w w') ∧ hi = decide (2 ^ (64 * 4) ≤ X) :=
  ⟨_, fun w => low8_any _ (X : Int) w rfl (inn hX), geBn 4 X⟩
theorem cells_first {wz : World} {n : Nat} {p q : Int} (h : wz.heap[n]? = some (.cells #[.int .u64 (d p 0), .int .u64 (d p 1), .int .u64 (d p 2), .int .u64 (d p 3), .int .u64 (d p 4), .int .u64 (d p 5), .int .u64 (d p 6), .int .u64 (d p 7), .int .u64 (d q 0), .int .u64 (d q 1), .int .u64 (d q 2), .int .u64 (d q 3), .int .u64 (d q 4), .int .u64 (d q 5), .int .u64 (d q 6), .int .u64 (d q 7)] 27 (0, 0))) : ∀ j, j < 8 → wz.cell? ⟨n, 0 + j, none⟩ = some (.int .u64 (d p j)) := by
  intro j hj
  rw [Nat.zero_add]
  match j, hj with
  | 0, _ | 1, _ | 2, _ | 3, _ | 4, _ | 5, _ | 6, _ | 7, _ => exact (arow_cell h _).trans rfl
theorem cells_second {wz : World} {n : Nat} {p q : Int} (h : wz.heap[n]? = some (.cells #[.int .u64 (d p 0), .int .u64 (d p 1), .int .u64 (d p 2), .int .u64 (d p 3), .int .u64 (d p 4), .int .u64 (d p 5), .int .u64 (d p 6), .int .u64 (d p 7), .int .u64 (d q 0), .int .u64 (d q 1), .int .u64 (d q 2), .int .u64 (d q 3), .int .u64 (d q 4), .int .u64 (d q 5), .int .u64 (d q 6), .int .u64 (d q 7)] 27 (0, 0))) : ∀ j, j < 8 → wz.cell? ⟨n, 8 + j, none⟩ = some (.int .u64 (d q j)) := by
  intro j hj
  match j, hj with
  | 0, _ | 1, _ | 2, _ | 3, _ | 4, _ | 5, _ | 6, _ | 7, _ => exact (arow_cell h _).trans rfl
end Go.Proofs.Ytiglhgcckceikaa
