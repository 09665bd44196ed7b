/- The chapter's rows: the helper that each statement asks. -/
import Derived.Test.YtiglhgcckceikaaWt
import Derived.Test.YtiglhgcckceikaaWj
import Derived.Test.YtiglhgcckceikaaWl
import Derived.Test.YtiglhgcckceikaaWp
namespace Go.Proofs.Ytiglhgcckceikaa
open Go.RowKit

theorem k_mul (w : World) : Calls Try.prog 24 #[.int .u64 9223372036854775808, .int .u64 6] w fun e w' => e = .returned (.agg #[.int .u64 0, .int .u64 3]) ∧ Below w.heap.size w w' := by
  have h := mul64_any 9223372036854775808 6 w ⟨by decide, by decide⟩ ⟨by decide, by decide⟩
  rw [show d (9223372036854775808 * 6) 0 = 0 by decide +kernel, show d (9223372036854775808 * 6) 1 = 3 by decide +kernel] at h
  exact h
theorem k_div (w : World) : Calls Try.prog 27 #[.agg #[.int .u64 0, .int .u64 3], .int .u64 5] w fun e w' => e = .returned (.tuple #[.agg #[.int .u64 11068046444225730969, .int .u64 0], .int .u64 3, .bool false]) ∧ Below w.heap.size w w' := by
  have h := div128_any _ 55340232221128654848 5 w (show (#[.int .u64 0, .int .u64 3] : Array Value) = #[.int .u64 (d 55340232221128654848 0), .int .u64 (d 55340232221128654848 1)] by rw [show d 55340232221128654848 0 = 0 by decide +kernel, show d 55340232221128654848 1 = 3 by decide +kernel]) ⟨by decide, by decide +kernel⟩ ⟨by decide, by decide⟩ (by decide)
  rw [show d (55340232221128654848 / 5) 0 = 11068046444225730969 by decide +kernel, show d (55340232221128654848 / 5) 1 = 0 by decide +kernel, show (55340232221128654848 : Int) % 5 = 3 by decide +kernel] at h
  exact h
theorem Q4_one : (#[.int .u64 (d 1 0), .int .u64 (d 1 1), .int .u64 (d 1 2), .int .u64 (d 1 3)] : Array Value) = #[.int .u64 1, .int .u64 0, .int .u64 0, .int .u64 0] := by
  rw [show d 1 0 = 1 by decide +kernel, show d 1 1 = 0 by decide +kernel, show d 1 2 = 0 by decide +kernel, show d 1 3 = 0 by decide +kernel]
theorem one_in4 : In 4 1 := ⟨by decide, by decide +kernel⟩
theorem k_sub (w : World) : Calls Try.prog 12 #[.agg #[.int .u64 0, .int .u64 0, .int .u64 0, .int .u64 0], .agg #[.int .u64 1, .int .u64 0, .int .u64 0, .int .u64 0]] w fun e w' =>
    e = .returned (.tuple #[.agg #[.int .u64 18446744073709551615, .int .u64 18446744073709551615, .int .u64 18446744073709551615, .int .u64 18446744073709551615], .bool true]) ∧ Below w.heap.size w w' := by
  have h := sub4_any _ _ 0 1 w Q4_zero.symm Q4_one.symm (zero_in 4) one_in4
  rw [show d (0 - 1) 0 = 18446744073709551615 by decide +kernel, show d (0 - 1) 1 = 18446744073709551615 by decide +kernel, show d (0 - 1) 2 = 18446744073709551615 by decide +kernel, show d (0 - 1) 3 = 18446744073709551615 by decide +kernel, show ltB 0 1 = true by decide] at h
  exact h
theorem k_shl (w : World) : Calls Try.prog 29 #[.agg #[.int .u64 3, .int .u64 0, .int .u64 0, .int .u64 0], .int .u64 255] w fun e w' =>
    e = .returned (.tuple #[.agg #[.int .u64 0, .int .u64 0, .int .u64 0, .int .u64 9223372036854775808], .bool true]) ∧ Below w.heap.size w w' := by
  have h := shl4_any _ 3 255 w (show (#[.int .u64 3, .int .u64 0, .int .u64 0, .int .u64 0] : Array Value) = #[.int .u64 (d 3 0), .int .u64 (d 3 1), .int .u64 (d 3 2), .int .u64 (d 3 3)] by rw [show d 3 0 = 3 by decide +kernel, show d 3 1 = 0 by decide +kernel, show d 3 2 = 0 by decide +kernel, show d 3 3 = 0 by decide +kernel]) ⟨by decide, by decide +kernel⟩ (by decide)
  rw [show d (upI 3 255) 0 = 0 by decide +kernel, show d (upI 3 255) 1 = 0 by decide +kernel, show d (upI 3 255) 2 = 0 by decide +kernel, show d (upI 3 255) 3 = 9223372036854775808 by decide +kernel, show geB (upI 3 255) (pw 4) = true by decide +kernel] at h
  exact h
/-- a block more: it stands, the others stay -/
theorem below_new {w v w1 : World} (hb : Below w.heap.size w v) (h1 : Below v.heap.size v w1) (o : Obj) : Below w.heap.size w (w1.alloc o) :=
  (hb.trans (h1.mono hb.size)).alloc (Nat.le_trans hb.size h1.size) _
theorem arow_keep {v w1 : World} {b : Nat} {L : Array Value} {t : TypeId} (o : Obj) (h : v.heap[b]? = some (.cells L t (0, 0))) (h1 : Below v.heap.size v w1) : (w1.alloc o).heap[b]? = some (.cells L t (0, 0)) :=
  arow_alloc o (arow_below h h1 (arow_lt h))

set_option maxRecDepth 100000 in
set_option maxHeartbeats 1000000 in
theorem works_any (w : World) : Calls Try.prog 22 #[] w fun e w' => e = .returned (.bool true) ∧ Below w.heap.size w w' := by
  go_enter Try.func22, Try.ntmps22
  go_wp2_with fail
  refine (k_mul _).mono ?_
  rintro e w1 ⟨rfl, h1⟩
  go_wp2_with fail
  have r1 := Lib.hid (arow_new w1 #[.int .u64 0, .int .u64 3] 49)
  have b1 := below_new (Below.refl _ w) h1 (.cells #[.int .u64 0, .int .u64 3] 49)
  clear h1
  generalize (w1.alloc (.cells #[.int .u64 0, .int .u64 3] 49)) = v1 at *
  generalize w1.heap.size = n1 at *
  refine (k_div _).mono ?_
  rintro e w2 ⟨rfl, h2⟩
  go_wp2_with fail
  have r1 := Lib.hid (arow_keep (.cells #[.int .u64 11068046444225730969, .int .u64 0] 49) r1.out h2)
  have r2 := Lib.hid (arow_new w2 #[.int .u64 11068046444225730969, .int .u64 0] 49)
  have b2 := below_new b1 h2 (.cells #[.int .u64 11068046444225730969, .int .u64 0] 49)
  clear h2
  generalize (w2.alloc (.cells #[.int .u64 11068046444225730969, .int .u64 0] 49)) = v2 at *
  generalize w2.heap.size = n2 at *
  refine (k_sub _).mono ?_
  rintro e w3 ⟨rfl, h3⟩
  go_wp2_with fail
  have r1 := Lib.hid (arow_keep (.cells #[.int .u64 18446744073709551615, .int .u64 18446744073709551615, .int .u64 18446744073709551615, .int .u64 18446744073709551615] 24) r1.out h3)
  have r2 := Lib.hid (arow_keep (.cells #[.int .u64 18446744073709551615, .int .u64 18446744073709551615, .int .u64 18446744073709551615, .int .u64 18446744073709551615] 24) r2.out h3)
  have r3 := Lib.hid (arow_new w3 #[.int .u64 18446744073709551615, .int .u64 18446744073709551615, .int .u64 18446744073709551615, .int .u64 18446744073709551615] 24)
  have b3 := below_new b2 h3 (.cells #[.int .u64 18446744073709551615, .int .u64 18446744073709551615, .int .u64 18446744073709551615, .int .u64 18446744073709551615] 24)
  clear h3
  generalize (w3.alloc (.cells #[.int .u64 18446744073709551615, .int .u64 18446744073709551615, .int .u64 18446744073709551615, .int .u64 18446744073709551615] 24)) = v3 at *
  generalize w3.heap.size = n3 at *
  refine (k_shl _).mono ?_
  rintro e w4 ⟨rfl, h4⟩
  have q1 := arow_below r1.out h4 (arow_lt r1.out)
  have q2 := arow_below r2.out h4 (arow_lt r2.out)
  have q3 := arow_below r3.out h4 (arow_lt r3.out)
  obtain ⟨⟨c1, c2⟩, _⟩ := Q2_cells q1
  obtain ⟨⟨c3, c4⟩, _⟩ := Q2_cells q2
  have c5 := (arow_cell q3 0).trans rfl
  have c6 := (arow_cell q3 1).trans rfl
  have c7 := (arow_cell q3 2).trans rfl
  have c8 := (arow_cell q3 3).trans rfl
  have l1 := arow_lt q1
  have l2 := arow_lt q2
  have l3 := arow_lt q3
  have b4 := b3.trans (h4.mono b3.size)
  have e2 := eqlimbs2
  have e4 := eqlimbs4
  clear q1 q2 q3 h4
  go_wp2
  go_ret
  exact ⟨rfl, b4.alloc b4.size _⟩
end Go.Proofs.Ytiglhgcckceikaa
