/- Blocks of limbs in memory; how two numbers of limbs are held against each other. -/
import Derived.Test.YtiglhgcckceikaaWf
namespace Go.Proofs.Ytiglhgcckceikaa
open Go.RowKit

theorem upI_nonneg (x : Int) (n : Nat) (h : 0 ≤ x) : 0 ≤ upI x n := Int.mul_nonneg h (Int.le_of_lt (p2_pos n))
/-- moved back it is what it was just if it fits -/
theorem back_up (x : Int) (n : Nat) (hx : In 4 x) : (dnI (upI x n % pw 4) n = x) ↔ upI x n < pw 4 := by
  have hp := p2_pos n
  have h0 := upI_nonneg x n hx.1
  constructor
  · intro h
    refine Int.lt_of_not_ge fun c => ?_
    have h1 : dnI (upI x n % pw 4) n * 2 ^ n ≤ upI x n % pw 4 := Int.ediv_mul_le _ (Int.ne_of_gt hp)
    rw [h] at h1
    have h2 := Int.emod_lt_of_pos (upI x n) (pw_pos 4)
    unfold upI at c h2 h1
    omega
  · intro h
    rw [Int.emod_eq_of_lt h0 h, dnI, upI, Int.mul_ediv_cancel _ (Int.ne_of_gt hp)]
theorem back_down (x : Int) (n : Nat) : (upI (dnI x n) n = x) ↔ x % 2 ^ n = 0 := by
  have h := Int.emod_add_mul_ediv x (2 ^ n)
  unfold upI dnI
  rw [Int.mul_comm]
  omega
/-- limbs tell numbers apart -/
theorem Q4_inj (x y : Int) (hx : In 4 x) (hy : In 4 y) : (d x 0 = d y 0 ∧ d x 1 = d y 1 ∧ d x 2 = d y 2 ∧ d x 3 = d y 3) ↔ x = y := by
  constructor
  · rintro ⟨h0, h1, h2, h3⟩
    rw [← hx.sm, ← hy.sm]
    simp only [sm, h0, h1, h2, h3]
  · rintro rfl; exact ⟨rfl, rfl, rfl, rfl⟩
theorem In.mod (n : Nat) (x : Int) : In n (x % pw n) := ⟨Int.emod_nonneg _ (Int.ne_of_gt (pw_pos n)), Int.emod_lt_of_pos _ (pw_pos n)⟩
theorem Q4_mod (x : Int) : (#[.int .u64 (d x 0), .int .u64 (d x 1), .int .u64 (d x 2), .int .u64 (d x 3)] : Array Value) = #[.int .u64 (d (x % pw 4) 0), .int .u64 (d (x % pw 4) 1), .int .u64 (d (x % pw 4) 2), .int .u64 (d (x % pw 4) 3)] := by
  rw [d_mod x 4 0 (by omega), d_mod x 4 1 (by omega), d_mod x 4 2 (by omega), d_mod x 4 3 (by omega)]

theorem cells4 {w : World} {N : Nat} {T : TypeId} {x : Int} (h : w.heap[N]? = some (.cells #[.int .u64 (d x 0), .int .u64 (d x 1), .int .u64 (d x 2), .int .u64 (d x 3)] T (0, 0))) : w.cell? ⟨N, 0, none⟩ = some (.int .u64 (d x 0)) ∧ w.cell? ⟨N, 1, none⟩ = some (.int .u64 (d x 1)) ∧ w.cell? ⟨N, 2, none⟩ = some (.int .u64 (d x 2)) ∧ w.cell? ⟨N, 3, none⟩ = some (.int .u64 (d x 3)) :=
  ⟨(arow_cell h 0).trans rfl, (arow_cell h 1).trans rfl, (arow_cell h 2).trans rfl, (arow_cell h 3).trans rfl⟩
theorem cells44 {w : World} {N M : Nat} {T : TypeId} {x y : Int} (h : w.heap[N]? = some (.cells #[.int .u64 (d x 0), .int .u64 (d x 1), .int .u64 (d x 2), .int .u64 (d x 3)] T (0, 0))) (k : w.heap[M]? = some (.cells #[.int .u64 (d y 0), .int .u64 (d y 1), .int .u64 (d y 2), .int .u64 (d y 3)] T (0, 0))) :
    w.cell? ⟨N, 0, none⟩ = some (.int .u64 (d x 0)) ∧ w.cell? ⟨N, 1, none⟩ = some (.int .u64 (d x 1)) ∧ w.cell? ⟨N, 2, none⟩ = some (.int .u64 (d x 2)) ∧ w.cell? ⟨N, 3, none⟩ = some (.int .u64 (d x 3)) ∧
    w.cell? ⟨M, 0, none⟩ = some (.int .u64 (d y 0)) ∧ w.cell? ⟨M, 1, none⟩ = some (.int .u64 (d y 1)) ∧ w.cell? ⟨M, 2, none⟩ = some (.int .u64 (d y 2)) ∧ w.cell? ⟨M, 3, none⟩ = some (.int .u64 (d y 3)) := by
  obtain ⟨h0, h1, h2, h3⟩ := cells4 h
  obtain ⟨k0, k1, k2, k3⟩ := cells4 k
  exact ⟨h0, h1, h2, h3, k0, k1, k2, k3⟩
theorem arow_new (w : World) (L : Array Value) (t : TypeId) : (w.alloc (.cells L t)).heap[w.heap.size]? = some (.cells L t (0, 0)) := heap_alloc_new w _
/-- a block that is laid whole -/
theorem out4 {w : World} {N : Nat} {T : TypeId} {R : Array Value} (h : w.heap[N]? = some (.cells R T (0, 0))) (hR : R.size = 4) (i : Nat) (hi : i < 4) : (∃ z, w.cell? ⟨N, i, none⟩ = some z) ∧ w.frozen? ⟨N, i, none⟩ = false :=
  ⟨⟨R[i], by rw [arow_cell h]; simp [hR, hi]⟩, arow_free h i⟩
theorem far4 {w : World} {b c : Nat} {o : Option Obj} {v0 v1 v2 v3 : Value} (hne : c ≠ b) (h : w.heap[b]? = o) :
    ((((w.setCell ⟨c, 0, none⟩ v0).setCell ⟨c, 1, none⟩ v1).setCell ⟨c, 2, none⟩ v2).setCell ⟨c, 3, none⟩ v3).heap[b]? = o := arow_far _ hne (arow_far _ hne (arow_far _ hne (arow_far _ hne h)))


theorem eqlimbs2 (a0 a1 b0 b1 : Int) (w : World) : (Op.equalIn 10000 49 (.agg #[.int .u64 a0, .int .u64 a1]) (.agg #[.int .u64 b0, .int .u64 b1])).run Try.prog w = .ok (a0 == b0 && a1 == b1) w := by
  have tu := Try.underlying22
  have ta := Try.isAgg22
  have tz := Try.sizeOf22
  rw [show (10000 : Nat) = 9999 + 1 from rfl, Op.equalIn]
  simp only [Sem.run_bind, run_underlying Try.underlying49, Result.andThen_ok]
  simp only [Std.Legacy.Range.forIn_eq_forIn_range', Std.Legacy.Range.size, Nat.sub_zero, Nat.add_sub_cancel, Nat.div_one, List.range'_succ, List.range'_zero, List.forIn_cons, List.forIn_nil]
  go_simp
  by_cases h0 : a0 = b0 <;> by_cases h1 : a1 = b1 <;> simp [h0, h1]
theorem eqlimbs4 (a0 a1 a2 a3 b0 b1 b2 b3 : Int) (w : World) : (Op.equalIn 10000 24 (.agg #[.int .u64 a0, .int .u64 a1, .int .u64 a2, .int .u64 a3]) (.agg #[.int .u64 b0, .int .u64 b1, .int .u64 b2, .int .u64 b3])).run Try.prog w = .ok (a0 == b0 && a1 == b1 && a2 == b2 && a3 == b3) w := by
  have tu := Try.underlying22
  have ta := Try.isAgg22
  have tz := Try.sizeOf22
  rw [show (10000 : Nat) = 9999 + 1 from rfl, Op.equalIn]
  simp only [Sem.run_bind, run_underlying Try.underlying24, Result.andThen_ok]
  simp only [Std.Legacy.Range.forIn_eq_forIn_range', Std.Legacy.Range.size, Nat.sub_zero, Nat.add_sub_cancel, Nat.div_one, List.range'_succ, List.range'_zero, List.forIn_cons, List.forIn_nil]
  go_simp
  by_cases h0 : a0 = b0 <;> by_cases h1 : a1 = b1 <;> by_cases h2 : a2 = b2 <;> by_cases h3 : a3 = b3 <;> simp [h0, h1, h2, h3]
/-- are two numbers the same? -/
def eqB (x y : Int) : Bool := decide (x = y)
theorem eqQ4 (x y : Int) (hx : In 4 x) (hy : In 4 y) (w : World) : (Op.equalIn 10000 24 (.agg #[.int .u64 (d x 0), .int .u64 (d x 1), .int .u64 (d x 2), .int .u64 (d x 3)]) (.agg #[.int .u64 (d y 0), .int .u64 (d y 1), .int .u64 (d y 2), .int .u64 (d y 3)])).run Try.prog w = .ok (eqB x y) w := by
  rw [eqlimbs4]
  congr 1
  rw [eqB, Bool.eq_iff_iff]
  simp only [Bool.and_eq_true, beq_iff_eq, decide_eq_true_eq, ← Q4_inj x y hx hy, and_assoc]
end Go.Proofs.Ytiglhgcckceikaa
