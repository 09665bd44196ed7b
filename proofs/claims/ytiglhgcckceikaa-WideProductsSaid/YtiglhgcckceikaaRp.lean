/- WideProducts: the facts for its walk. -/
import Derived.Test.YtiglhgcckceikaaRk
import Derived.Test.YtiglhgcckceikaaRm
import Derived.Test.YtiglhgcckceikaaRo
import Derived.Test.YtiglhgcckceikaaWp
import Derived.Test.YtiglhgcckceikaaWt
import Derived.Test.YtiglhgcckceikaaWv
import Derived.Test.YtiglhgcckceikaaWz5
namespace Go.Proofs.Ytiglhgcckceikaa
open Go.RowKit

theorem Bs.cut {ao : Option Addr} {x n k : Nat} {w : World} (h : Bs ao x n w) (hk : k ≤ n) : Bs ao (x % 2 ^ k) k w := by
  rcases h with h | ⟨b, h1, h2, h3⟩
  · exact .inl (by omega)
  · refine .inr ⟨b, h1, h2, fun i hi => ?_⟩
    rw [Nat.testBit_mod_two_pow, decide_eq_true hi, Bool.true_and]
    exact h3 i (by omega)
theorem Bs.head {ao : Option Addr} {x n : Nat} {w : World} (h : Bs ao x n w) (hn : 0 < n) : ∃ b, ao = some ⟨b, 0, none⟩ := by
  rcases h with h | ⟨b, h1, _, _⟩
  · omega
  · exact ⟨b, h1⟩
theorem d_low (X : Nat) : d (X : Int) 0 = ((X % 2 ^ 64 : Nat) : Int) := by
  rw [limb_nat, Nat.mul_zero, Nat.pow_zero, Nat.div_one]
theorem d_two_low (X j : Nat) (hj : j < 2) : d ((X % 2 ^ 128 : Nat) : Int) j = d (X : Int) j := by
  rw [← d_mod (X : Int) 2 j hj, pwn]
  rfl
theorem cells_in2 {wz : World} {n : Nat} {y : Int} {Y : Nat} (h : wz.heap[n]? = some (.cells #[.int .u64 (d y 0), .int .u64 (d y 1)] 49 (0, 0))) (hy : ∀ j, j < 2 → d y j = d (Y : Int) j) : ∀ j, j < 2 → wz.cell? ⟨n, j, none⟩ = some (.int .u64 (d (Y : Int) j)) := by
  intro j hj
  rw [← hy j hj]
  match j, hj with
  | 0, _ | 1, _ => exact (arow_cell h _).trans rfl
theorem mul_facts (X Y : Nat) (hX : X < 2 ^ (64 * 4)) (hY : Y < 2 ^ (64 * 4)) : ∃ p : Int,
      (∀ w, Calls Try.prog 23 #[.agg #[.int .u64 (d ((X : Int)) 0), .int .u64 (d ((X : Int)) 1), .int .u64 (d ((X : Int)) 2), .int .u64 (d ((X : Int)) 3)], .agg #[.int .u64 (d ((Y : Int)) 0), .int .u64 (d ((Y : Int)) 1), .int .u64 (d ((Y : Int)) 2), .int .u64 (d ((Y : Int)) 3)]] w fun e w' => e = .returned (.agg #[.int .u64 (d p 0), .int .u64 (d p 1), .int .u64 (d p 2), .int .u64 (d p 3), .int .u64 (d p 4), .int .u64 (d p 5), .int .u64 (d p 6), .int .u64 (d p 7)]) ∧ Below w.heap.size w w') ∧ (∀ j, j < 8 → d p j = d ((X * Y : Nat) : Int) j) :=
  ⟨(X : Int) * (Y : Int), fun w => mul4_any _ _ (X : Int) (Y : Int) w rfl rfl (inn hX) (inn hY), fun j _ => by rw [Int.natCast_mul]⟩
theorem small_facts (X Y : Nat) : ∃ p : Int,
      (∀ w, Calls Try.prog 24 #[.int .u64 (d (X : Int) 0), .int .u64 (d (Y : Int) 0)] w fun e w' => e = .returned (.agg #[.int .u64 (d p 0), .int .u64 (d p 1)]) ∧ Below w.heap.size w w') ∧ (∀ j, j < 2 → d p j = d ((X % 2 ^ 64 * (Y % 2 ^ 64) : Nat) : Int) j) :=
  ⟨d (X : Int) 0 * d (Y : Int) 0, fun w => mul64_any _ _ w ⟨d_lo _ _, d_hi _ _⟩ ⟨d_lo _ _, d_hi _ _⟩, fun j _ => by rw [d_low, d_low, Int.natCast_mul]⟩
theorem dm_facts (X Y : Nat) (hX : X < 2 ^ (64 * 4)) (hY : Y < 2 ^ (64 * 4)) : ∃ q r : Int, ∃ bz : Bool,
      (∀ w, Calls Try.prog 26 #[.agg #[.int .u64 (d ((X : Int)) 0), .int .u64 (d ((X : Int)) 1), .int .u64 (d ((X : Int)) 2), .int .u64 (d ((X : Int)) 3)], .agg #[.int .u64 (d ((Y : Int)) 0), .int .u64 (d ((Y : Int)) 1), .int .u64 (d ((Y : Int)) 2), .int .u64 (d ((Y : Int)) 3)]] w fun e w' => e = .returned (.tuple #[.agg #[.int .u64 (d q 0), .int .u64 (d q 1), .int .u64 (d q 2), .int .u64 (d q 3)], .agg #[.int .u64 (d r 0), .int .u64 (d r 1), .int .u64 (d r 2), .int .u64 (d r 3)], .bool bz]) ∧ Below w.heap.size w w') ∧
      (∀ w : World, (Op.equalIn 10000 24 (.agg #[.int .u64 (d ((Y : Int)) 0), .int .u64 (d ((Y : Int)) 1), .int .u64 (d ((Y : Int)) 2), .int .u64 (d ((Y : Int)) 3)]) (.agg #[.int .u64 0, .int .u64 0, .int .u64 0, .int .u64 0])).run Try.prog w = .ok bz w) ∧
      (bz = true → Y = 0 ∧ (∀ w : World, (Op.equalIn 10000 24 (.agg #[.int .u64 (d q 0), .int .u64 (d q 1), .int .u64 (d q 2), .int .u64 (d q 3)]) (.agg #[.int .u64 (d ((Y : Int)) 0), .int .u64 (d ((Y : Int)) 1), .int .u64 (d ((Y : Int)) 2), .int .u64 (d ((Y : Int)) 3)])).run Try.prog w = .ok true w) ∧ (∀ w : World, (Op.equalIn 10000 24 (.agg #[.int .u64 (d r 0), .int .u64 (d r 1), .int .u64 (d r 2), .int .u64 (d r 3)]) (.agg #[.int .u64 (d ((Y : Int)) 0), .int .u64 (d ((Y : Int)) 1), .int .u64 (d ((Y : Int)) 2), .int .u64 (d ((Y : Int)) 3)])).run Try.prog w = .ok true w)) ∧
      (bz = false → 0 < Y ∧ (∀ j, j < 4 → d q j = d ((X / Y : Nat) : Int) j) ∧ (∀ j, j < 4 → d r j = d ((X % Y : Nat) : Int) j)) := by
  have he : ∀ w : World, (Op.equalIn 10000 24 (.agg #[.int .u64 (d ((Y : Int)) 0), .int .u64 (d ((Y : Int)) 1), .int .u64 (d ((Y : Int)) 2), .int .u64 (d ((Y : Int)) 3)]) (.agg #[.int .u64 0, .int .u64 0, .int .u64 0, .int .u64 0])).run Try.prog w = .ok (eqB (Y : Int) 0) w := fun w => by
    have k := eqQ4 (Y : Int) 0 (inn hY) (zero_in 4) w
    rwa [Q4_zero] at k
  by_cases h : Y = 0
  · subst h
    have hz : ∀ w : World, (Op.equalIn 10000 24 (.agg #[.int .u64 (d ((0 : Int)) 0), .int .u64 (d ((0 : Int)) 1), .int .u64 (d ((0 : Int)) 2), .int .u64 (d ((0 : Int)) 3)]) (.agg #[.int .u64 (d (((0 : Nat) : Int)) 0), .int .u64 (d (((0 : Nat) : Int)) 1), .int .u64 (d (((0 : Nat) : Int)) 2), .int .u64 (d (((0 : Nat) : Int)) 3)])).run Try.prog w = .ok true w := fun w => eqQ4 0 0 (zero_in 4) (zero_in 4) w
    refine ⟨0, 0, true, fun w => ?_, fun w => (he w).trans rfl, fun _ => ⟨rfl, hz, hz⟩, fun c => by cases c⟩
    have k := divmod_zero (X : Int) w
    rw [← Q4_zero] at k
    exact k
  · refine ⟨(X : Int) / (Y : Int), (X : Int) % (Y : Int), false, fun w => divmod_any _ _ (X : Int) (Y : Int) w rfl rfl (inn hX) (inn hY) (by omega), fun w => ?_, (fun c => by cases c), fun _ => ⟨by omega, fun j _ => rfl, fun j _ => rfl⟩⟩
    have k := he w
    rwa [show eqB (Y : Int) 0 = false from decide_eq_false (by omega)] at k
theorem d128_facts (X Y : Nat) : ∃ u v : Int, ∃ zz : Bool,
      (∀ w, Calls Try.prog 27 #[.agg #[.int .u64 (d (X : Int) 0), .int .u64 (d (X : Int) 1)], .int .u64 (d (Y : Int) 0)] w fun e w' => e = .returned (.tuple #[.agg #[.int .u64 (d u 0), .int .u64 (d u 1)], .int .u64 v, .bool zz]) ∧ Below w.heap.size w w') ∧
      (d (Y : Int) 0 == 0) = zz ∧
      (zz = true → v = 0 ∧ (∀ w : World, (Op.equalIn 10000 49 (.agg #[.int .u64 (d u 0), .int .u64 (d u 1)]) (.agg #[.int .u64 0, .int .u64 0])).run Try.prog w = .ok true w)) ∧
      (zz = false → 0 < Y % 2 ^ 64 ∧ (∀ j, j < 2 → d u j = d ((X % 2 ^ 128 / (Y % 2 ^ 64) : Nat) : Int) j) ∧ (∀ j, j < 1 → v = d ((X % 2 ^ 128 % (Y % 2 ^ 64) : Nat) : Int) j)) := by
  have e2 : (#[.int .u64 (d (X : Int) 0), .int .u64 (d (X : Int) 1)] : Array Value) = #[.int .u64 (d (((X % 2 ^ 128 : Nat) : Int)) 0), .int .u64 (d (((X % 2 ^ 128 : Nat) : Int)) 1)] := by
    rw [d_two_low X 0 (by omega), d_two_low X 1 (by omega)]
  rw [e2]
  have hd : ∀ j, d 0 j = 0 := fun j => by simp [d]
  have hin : In 2 ((X % 2 ^ 128 : Nat) : Int) := inn (by exact Nat.mod_lt _ (by decide))
  by_cases h : Y % 2 ^ 64 = 0
  · have h0 : d (Y : Int) 0 = 0 := by rw [d_low, h]; rfl
    rw [h0]
    refine ⟨0, 0, true, fun w => ?_, rfl, fun _ => ⟨rfl, fun w => ?_⟩, fun c => by cases c⟩
    · have k := div128_zero ((X % 2 ^ 128 : Nat) : Int) w
      rw [hd, hd]
      exact k
    · rw [hd, hd]; exact eqlimbs2 0 0 0 0 w
  · have h0 : d (Y : Int) 0 = ((Y % 2 ^ 64 : Nat) : Int) := d_low Y
    rw [h0]
    refine ⟨((X % 2 ^ 128 : Nat) : Int) / ((Y % 2 ^ 64 : Nat) : Int), ((X % 2 ^ 128 : Nat) : Int) % ((Y % 2 ^ 64 : Nat) : Int), false, fun w => div128_any _ _ _ w rfl hin ⟨by omega, by have := Nat.mod_lt Y (show 0 < 2 ^ 64 by decide); omega⟩ (by omega), ?_, (fun c => by cases c), fun _ => ⟨by omega, fun j _ => rfl, fun j hj => ?_⟩⟩
    · rw [beq_eq_false_iff_ne]; omega
    · obtain rfl : j = 0 := by omega
      rw [d_low]
      have h1 := Nat.mod_lt (X % 2 ^ 128) (show 0 < Y % 2 ^ 64 by omega)
      have h2 := Nat.mod_lt Y (show 0 < 2 ^ 64 by decide)
      rw [Nat.mod_eq_of_lt (show X % 2 ^ 128 % (Y % 2 ^ 64) < 2 ^ 64 by omega)]
      rfl
end Go.Proofs.Ytiglhgcckceikaa
