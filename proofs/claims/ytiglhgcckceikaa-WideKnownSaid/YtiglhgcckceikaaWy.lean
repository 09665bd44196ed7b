/- The closed statement's body: it answers true. -/
import Derived.Test.YtiglhgcckceikaaWx
namespace Go.Proofs.Ytiglhgcckceikaa
open Go.RowKit

set_option maxRecDepth 100000 in
set_option maxHeartbeats 4000000 in
theorem known_any (w : World) : Calls Try.prog 7 #[] w fun e w' => e = .returned (.bool true) ∧ Below w.heap.size w w' := by
  go_enter Try.func7, Try.ntmps7
  simp only [List.append_eq, List.cons_append, List.nil_append]
  go_wp2_with fail
  have r1 := Lib.hid (arow_new w #[.int .u64 18446744073709551615, .int .u64 18446744073709551615, .int .u64 18446744073709551615, .int .u64 18446744073709551615] 24)
  have b0 : Below w.heap.size w (w.alloc (.cells #[.int .u64 18446744073709551615, .int .u64 18446744073709551615, .int .u64 18446744073709551615, .int .u64 18446744073709551615] 24)) := below1' w _
  generalize (w.alloc (.cells #[.int .u64 18446744073709551615, .int .u64 18446744073709551615, .int .u64 18446744073709551615, .int .u64 18446744073709551615] 24)) = v0 at *
  refine (k_square _).mono ?_
  rintro e w1 ⟨rfl, h1⟩
  have r1 := Lib.hid (arow_below r1.out h1 (arow_lt r1.out))
  have b1 := b0.trans (h1.mono b0.size)
  clear h1
  have c1_0 := (arow_cell r1.out 0).trans rfl
  have c1_1 := (arow_cell r1.out 1).trans rfl
  have c1_2 := (arow_cell r1.out 2).trans rfl
  have c1_3 := (arow_cell r1.out 3).trans rfl
  have l1 := arow_lt r1.out
  go_wp2_with fail
  clear c1_0 c1_1 c1_2 c1_3 l1
  have r1 := Lib.hid (arow_alloc (.cells #[.int .u64 1, .int .u64 0, .int .u64 0, .int .u64 0, .int .u64 18446744073709551614, .int .u64 18446744073709551615, .int .u64 18446744073709551615, .int .u64 18446744073709551615] 26) r1.out)
  have r2 := Lib.hid (arow_new w1 #[.int .u64 1, .int .u64 0, .int .u64 0, .int .u64 0, .int .u64 18446744073709551614, .int .u64 18446744073709551615, .int .u64 18446744073709551615, .int .u64 18446744073709551615] 26)
  have b1 := b1.alloc b1.size (.cells #[.int .u64 1, .int .u64 0, .int .u64 0, .int .u64 0, .int .u64 18446744073709551614, .int .u64 18446744073709551615, .int .u64 18446744073709551615, .int .u64 18446744073709551615] 26)
  generalize (w1.alloc (.cells #[.int .u64 1, .int .u64 0, .int .u64 0, .int .u64 0, .int .u64 18446744073709551614, .int .u64 18446744073709551615, .int .u64 18446744073709551615, .int .u64 18446744073709551615] 26)) = v1 at *
  generalize w1.heap.size = n2 at *
  refine (k_add _).mono ?_
  rintro e w2 ⟨rfl, h2⟩
  have r1 := Lib.hid (arow_below r1.out h2 (arow_lt r1.out))
  have r2 := Lib.hid (arow_below r2.out h2 (arow_lt r2.out))
  have b2 := b1.trans (h2.mono b1.size)
  clear h2
  have c2_0 := (arow_cell r2.out 0).trans rfl
  have c2_1 := (arow_cell r2.out 1).trans rfl
  have c2_2 := (arow_cell r2.out 2).trans rfl
  have c2_3 := (arow_cell r2.out 3).trans rfl
  have c2_4 := (arow_cell r2.out 4).trans rfl
  have c2_5 := (arow_cell r2.out 5).trans rfl
  have c2_6 := (arow_cell r2.out 6).trans rfl
  have c2_7 := (arow_cell r2.out 7).trans rfl
  have l2 := arow_lt r2.out
  go_wp2_with fail
  clear c2_0 c2_1 c2_2 c2_3 c2_4 c2_5 c2_6 c2_7 l2
  have r1 := Lib.hid (arow_alloc (.cells #[.int .u64 0, .int .u64 0, .int .u64 0, .int .u64 0] 24) r1.out)
  have r2 := Lib.hid (arow_alloc (.cells #[.int .u64 0, .int .u64 0, .int .u64 0, .int .u64 0] 24) r2.out)
  have r3 := Lib.hid (arow_new w2 #[.int .u64 0, .int .u64 0, .int .u64 0, .int .u64 0] 24)
  have b2 := b2.alloc b2.size (.cells #[.int .u64 0, .int .u64 0, .int .u64 0, .int .u64 0] 24)
  generalize (w2.alloc (.cells #[.int .u64 0, .int .u64 0, .int .u64 0, .int .u64 0] 24)) = v2 at *
  generalize w2.heap.size = n3 at *
  refine (k_low _).mono ?_
  rintro e w3 ⟨rfl, h3⟩
  have r1 := Lib.hid (arow_below r1.out h3 (arow_lt r1.out))
  have r2 := Lib.hid (arow_below r2.out h3 (arow_lt r2.out))
  have r3 := Lib.hid (arow_below r3.out h3 (arow_lt r3.out))
  have b3 := b2.trans (h3.mono b2.size)
  clear h3
  have c1_0 := (arow_cell r1.out 0).trans rfl
  have c1_1 := (arow_cell r1.out 1).trans rfl
  have c1_2 := (arow_cell r1.out 2).trans rfl
  have c1_3 := (arow_cell r1.out 3).trans rfl
  have l1 := arow_lt r1.out
  go_wp2_with fail
  clear c1_0 c1_1 c1_2 c1_3 l1
  have r1 := Lib.hid (arow_alloc (.cells #[.int .u64 1, .int .u64 0, .int .u64 0, .int .u64 0] 24) r1.out)
  have r2 := Lib.hid (arow_alloc (.cells #[.int .u64 1, .int .u64 0, .int .u64 0, .int .u64 0] 24) r2.out)
  have r3 := Lib.hid (arow_alloc (.cells #[.int .u64 1, .int .u64 0, .int .u64 0, .int .u64 0] 24) r3.out)
  have r5 := Lib.hid (arow_new w3 #[.int .u64 1, .int .u64 0, .int .u64 0, .int .u64 0] 24)
  have b3 := b3.alloc b3.size (.cells #[.int .u64 1, .int .u64 0, .int .u64 0, .int .u64 0] 24)
  generalize (w3.alloc (.cells #[.int .u64 1, .int .u64 0, .int .u64 0, .int .u64 0] 24)) = v3 at *
  generalize w3.heap.size = n5 at *
  refine (k_divmod _).mono ?_
  rintro e w4 ⟨rfl, h4⟩
  have r1 := Lib.hid (arow_below r1.out h4 (arow_lt r1.out))
  have r2 := Lib.hid (arow_below r2.out h4 (arow_lt r2.out))
  have r3 := Lib.hid (arow_below r3.out h4 (arow_lt r3.out))
  have r5 := Lib.hid (arow_below r5.out h4 (arow_lt r5.out))
  have b4 := b3.trans (h4.mono b3.size)
  clear h4
  go_wp2_with fail
  have r1 := Lib.hid (arow_alloc (.cells #[.int .u64 0, .int .u64 0, .int .u64 0, .int .u64 0] 24) r1.out)
  have r2 := Lib.hid (arow_alloc (.cells #[.int .u64 0, .int .u64 0, .int .u64 0, .int .u64 0] 24) r2.out)
  have r3 := Lib.hid (arow_alloc (.cells #[.int .u64 0, .int .u64 0, .int .u64 0, .int .u64 0] 24) r3.out)
  have r5 := Lib.hid (arow_alloc (.cells #[.int .u64 0, .int .u64 0, .int .u64 0, .int .u64 0] 24) r5.out)
  have r7 := Lib.hid (arow_new w4 #[.int .u64 0, .int .u64 0, .int .u64 0, .int .u64 0] 24)
  have b4 := b4.alloc b4.size (.cells #[.int .u64 0, .int .u64 0, .int .u64 0, .int .u64 0] 24)
  have r1 := Lib.hid (arow_alloc (.cells #[.int .u64 0, .int .u64 0, .int .u64 0, .int .u64 0] 24) r1.out)
  have r2 := Lib.hid (arow_alloc (.cells #[.int .u64 0, .int .u64 0, .int .u64 0, .int .u64 0] 24) r2.out)
  have r3 := Lib.hid (arow_alloc (.cells #[.int .u64 0, .int .u64 0, .int .u64 0, .int .u64 0] 24) r3.out)
  have r5 := Lib.hid (arow_alloc (.cells #[.int .u64 0, .int .u64 0, .int .u64 0, .int .u64 0] 24) r5.out)
  have r7 := Lib.hid (arow_alloc (.cells #[.int .u64 0, .int .u64 0, .int .u64 0, .int .u64 0] 24) r7.out)
  have r8 := Lib.hid (arow_new (w4.alloc (.cells #[.int .u64 0, .int .u64 0, .int .u64 0, .int .u64 0] 24)) #[.int .u64 0, .int .u64 0, .int .u64 0, .int .u64 0] 24)
  have b4 := b4.alloc b4.size (.cells #[.int .u64 0, .int .u64 0, .int .u64 0, .int .u64 0] 24)
  rw [World.size_alloc] at r8
  generalize ((w4.alloc (.cells #[.int .u64 0, .int .u64 0, .int .u64 0, .int .u64 0] 24)).alloc (.cells #[.int .u64 0, .int .u64 0, .int .u64 0, .int .u64 0] 24)) = v4 at *
  generalize w4.heap.size = n7 at *
  refine (k_div0 _).mono ?_
  rintro e w5 ⟨rfl, h5⟩
  have r1 := Lib.hid (arow_below r1.out h5 (arow_lt r1.out))
  have r2 := Lib.hid (arow_below r2.out h5 (arow_lt r2.out))
  have r3 := Lib.hid (arow_below r3.out h5 (arow_lt r3.out))
  have r5 := Lib.hid (arow_below r5.out h5 (arow_lt r5.out))
  have r7 := Lib.hid (arow_below r7.out h5 (arow_lt r7.out))
  have r8 := Lib.hid (arow_below r8.out h5 (arow_lt r8.out))
  have b5 := b4.trans (h5.mono b4.size)
  clear h5
  have c1_0 := (arow_cell r1.out 0).trans rfl
  have c1_1 := (arow_cell r1.out 1).trans rfl
  have c1_2 := (arow_cell r1.out 2).trans rfl
  have c1_3 := (arow_cell r1.out 3).trans rfl
  have l1 := arow_lt r1.out
  go_wp2_with fail
  clear c1_0 c1_1 c1_2 c1_3 l1
  have r1 := Lib.hid (arow_alloc (.cells #[.int .u64 0, .int .u64 0] 49) r1.out)
  have r2 := Lib.hid (arow_alloc (.cells #[.int .u64 0, .int .u64 0] 49) r2.out)
  have r3 := Lib.hid (arow_alloc (.cells #[.int .u64 0, .int .u64 0] 49) r3.out)
  have r5 := Lib.hid (arow_alloc (.cells #[.int .u64 0, .int .u64 0] 49) r5.out)
  have r7 := Lib.hid (arow_alloc (.cells #[.int .u64 0, .int .u64 0] 49) r7.out)
  have r8 := Lib.hid (arow_alloc (.cells #[.int .u64 0, .int .u64 0] 49) r8.out)
  have r10 := Lib.hid (arow_new w5 #[.int .u64 0, .int .u64 0] 49)
  have b5 := b5.alloc b5.size (.cells #[.int .u64 0, .int .u64 0] 49)
  generalize (w5.alloc (.cells #[.int .u64 0, .int .u64 0] 49)) = v5 at *
  generalize w5.heap.size = n10 at *
  refine (k_shr255 _).mono ?_
  rintro e w6 ⟨rfl, h6⟩
  have r1 := Lib.hid (arow_below r1.out h6 (arow_lt r1.out))
  have r2 := Lib.hid (arow_below r2.out h6 (arow_lt r2.out))
  have r3 := Lib.hid (arow_below r3.out h6 (arow_lt r3.out))
  have r5 := Lib.hid (arow_below r5.out h6 (arow_lt r5.out))
  have r7 := Lib.hid (arow_below r7.out h6 (arow_lt r7.out))
  have r8 := Lib.hid (arow_below r8.out h6 (arow_lt r8.out))
  have r10 := Lib.hid (arow_below r10.out h6 (arow_lt r10.out))
  have b6 := b5.trans (h6.mono b5.size)
  clear h6
  have c1_0 := (arow_cell r1.out 0).trans rfl
  have c1_1 := (arow_cell r1.out 1).trans rfl
  have c1_2 := (arow_cell r1.out 2).trans rfl
  have c1_3 := (arow_cell r1.out 3).trans rfl
  have l1 := arow_lt r1.out
  go_wp2_with fail
  clear c1_0 c1_1 c1_2 c1_3 l1
  have r1 := Lib.hid (arow_alloc (.cells #[.int .u64 1, .int .u64 0, .int .u64 0, .int .u64 0] 24) r1.out)
  have r2 := Lib.hid (arow_alloc (.cells #[.int .u64 1, .int .u64 0, .int .u64 0, .int .u64 0] 24) r2.out)
  have r3 := Lib.hid (arow_alloc (.cells #[.int .u64 1, .int .u64 0, .int .u64 0, .int .u64 0] 24) r3.out)
  have r5 := Lib.hid (arow_alloc (.cells #[.int .u64 1, .int .u64 0, .int .u64 0, .int .u64 0] 24) r5.out)
  have r7 := Lib.hid (arow_alloc (.cells #[.int .u64 1, .int .u64 0, .int .u64 0, .int .u64 0] 24) r7.out)
  have r8 := Lib.hid (arow_alloc (.cells #[.int .u64 1, .int .u64 0, .int .u64 0, .int .u64 0] 24) r8.out)
  have r10 := Lib.hid (arow_alloc (.cells #[.int .u64 1, .int .u64 0, .int .u64 0, .int .u64 0] 24) r10.out)
  have r13 := Lib.hid (arow_new w6 #[.int .u64 1, .int .u64 0, .int .u64 0, .int .u64 0] 24)
  have b6 := b6.alloc b6.size (.cells #[.int .u64 1, .int .u64 0, .int .u64 0, .int .u64 0] 24)
  generalize (w6.alloc (.cells #[.int .u64 1, .int .u64 0, .int .u64 0, .int .u64 0] 24)) = v6 at *
  generalize w6.heap.size = n13 at *
  refine (k_shl256 _).mono ?_
  rintro e w7 ⟨rfl, h7⟩
  have r1 := Lib.hid (arow_below r1.out h7 (arow_lt r1.out))
  have r2 := Lib.hid (arow_below r2.out h7 (arow_lt r2.out))
  have r3 := Lib.hid (arow_below r3.out h7 (arow_lt r3.out))
  have r5 := Lib.hid (arow_below r5.out h7 (arow_lt r5.out))
  have r7 := Lib.hid (arow_below r7.out h7 (arow_lt r7.out))
  have r8 := Lib.hid (arow_below r8.out h7 (arow_lt r8.out))
  have r10 := Lib.hid (arow_below r10.out h7 (arow_lt r10.out))
  have r13 := Lib.hid (arow_below r13.out h7 (arow_lt r13.out))
  have b7 := b6.trans (h7.mono b6.size)
  clear h7
  go_wp2_with fail
  have r1 := Lib.hid (arow_alloc (.cells #[.int .u64 0, .int .u64 0, .int .u64 0, .int .u64 0] 24) r1.out)
  have r2 := Lib.hid (arow_alloc (.cells #[.int .u64 0, .int .u64 0, .int .u64 0, .int .u64 0] 24) r2.out)
  have r3 := Lib.hid (arow_alloc (.cells #[.int .u64 0, .int .u64 0, .int .u64 0, .int .u64 0] 24) r3.out)
  have r5 := Lib.hid (arow_alloc (.cells #[.int .u64 0, .int .u64 0, .int .u64 0, .int .u64 0] 24) r5.out)
  have r7 := Lib.hid (arow_alloc (.cells #[.int .u64 0, .int .u64 0, .int .u64 0, .int .u64 0] 24) r7.out)
  have r8 := Lib.hid (arow_alloc (.cells #[.int .u64 0, .int .u64 0, .int .u64 0, .int .u64 0] 24) r8.out)
  have r10 := Lib.hid (arow_alloc (.cells #[.int .u64 0, .int .u64 0, .int .u64 0, .int .u64 0] 24) r10.out)
  have r13 := Lib.hid (arow_alloc (.cells #[.int .u64 0, .int .u64 0, .int .u64 0, .int .u64 0] 24) r13.out)
  have r15 := Lib.hid (arow_new w7 #[.int .u64 0, .int .u64 0, .int .u64 0, .int .u64 0] 24)
  have b7 := b7.alloc b7.size (.cells #[.int .u64 0, .int .u64 0, .int .u64 0, .int .u64 0] 24)
  generalize (w7.alloc (.cells #[.int .u64 0, .int .u64 0, .int .u64 0, .int .u64 0] 24)) = v7 at *
  generalize w7.heap.size = n15 at *
  refine (k_shr193 _).mono ?_
  rintro e w8 ⟨rfl, h8⟩
  have r1 := Lib.hid (arow_below r1.out h8 (arow_lt r1.out))
  have r2 := Lib.hid (arow_below r2.out h8 (arow_lt r2.out))
  have r3 := Lib.hid (arow_below r3.out h8 (arow_lt r3.out))
  have r5 := Lib.hid (arow_below r5.out h8 (arow_lt r5.out))
  have r7 := Lib.hid (arow_below r7.out h8 (arow_lt r7.out))
  have r8 := Lib.hid (arow_below r8.out h8 (arow_lt r8.out))
  have r10 := Lib.hid (arow_below r10.out h8 (arow_lt r10.out))
  have r13 := Lib.hid (arow_below r13.out h8 (arow_lt r13.out))
  have r15 := Lib.hid (arow_below r15.out h8 (arow_lt r15.out))
  have b8 := b7.trans (h8.mono b7.size)
  clear h8
  have c2_0 := (arow_cell r2.out 0).trans rfl
  have c2_1 := (arow_cell r2.out 1).trans rfl
  have c2_2 := (arow_cell r2.out 2).trans rfl
  have c2_3 := (arow_cell r2.out 3).trans rfl
  have c2_4 := (arow_cell r2.out 4).trans rfl
  have c2_5 := (arow_cell r2.out 5).trans rfl
  have c2_6 := (arow_cell r2.out 6).trans rfl
  have c2_7 := (arow_cell r2.out 7).trans rfl
  have l2 := arow_lt r2.out
  go_wp2_with fail
  clear c2_0 c2_1 c2_2 c2_3 c2_4 c2_5 c2_6 c2_7 l2
  have r1 := Lib.hid (arow_alloc (.cells #[.int .u64 1, .int .u64 0, .int .u64 0, .int .u64 0] 24) r1.out)
  have r2 := Lib.hid (arow_alloc (.cells #[.int .u64 1, .int .u64 0, .int .u64 0, .int .u64 0] 24) r2.out)
  have r3 := Lib.hid (arow_alloc (.cells #[.int .u64 1, .int .u64 0, .int .u64 0, .int .u64 0] 24) r3.out)
  have r5 := Lib.hid (arow_alloc (.cells #[.int .u64 1, .int .u64 0, .int .u64 0, .int .u64 0] 24) r5.out)
  have r7 := Lib.hid (arow_alloc (.cells #[.int .u64 1, .int .u64 0, .int .u64 0, .int .u64 0] 24) r7.out)
  have r8 := Lib.hid (arow_alloc (.cells #[.int .u64 1, .int .u64 0, .int .u64 0, .int .u64 0] 24) r8.out)
  have r10 := Lib.hid (arow_alloc (.cells #[.int .u64 1, .int .u64 0, .int .u64 0, .int .u64 0] 24) r10.out)
  have r13 := Lib.hid (arow_alloc (.cells #[.int .u64 1, .int .u64 0, .int .u64 0, .int .u64 0] 24) r13.out)
  have r15 := Lib.hid (arow_alloc (.cells #[.int .u64 1, .int .u64 0, .int .u64 0, .int .u64 0] 24) r15.out)
  have r17 := Lib.hid (arow_new w8 #[.int .u64 1, .int .u64 0, .int .u64 0, .int .u64 0] 24)
  have b8 := b8.alloc b8.size (.cells #[.int .u64 1, .int .u64 0, .int .u64 0, .int .u64 0] 24)
  generalize (w8.alloc (.cells #[.int .u64 1, .int .u64 0, .int .u64 0, .int .u64 0] 24)) = v8 at *
  generalize w8.heap.size = n17 at *
  refine (k_add8 _).mono ?_
  rintro e w9 ⟨rfl, h9⟩
  have r1 := Lib.hid (arow_below r1.out h9 (arow_lt r1.out))
  have r2 := Lib.hid (arow_below r2.out h9 (arow_lt r2.out))
  have r3 := Lib.hid (arow_below r3.out h9 (arow_lt r3.out))
  have r5 := Lib.hid (arow_below r5.out h9 (arow_lt r5.out))
  have r7 := Lib.hid (arow_below r7.out h9 (arow_lt r7.out))
  have r8 := Lib.hid (arow_below r8.out h9 (arow_lt r8.out))
  have r10 := Lib.hid (arow_below r10.out h9 (arow_lt r10.out))
  have r13 := Lib.hid (arow_below r13.out h9 (arow_lt r13.out))
  have r15 := Lib.hid (arow_below r15.out h9 (arow_lt r15.out))
  have r17 := Lib.hid (arow_below r17.out h9 (arow_lt r17.out))
  have b9 := b8.trans (h9.mono b8.size)
  clear h9
  go_wp2_with fail
  have r1 := Lib.hid (arow_alloc (.cells #[.int .u64 2, .int .u64 0, .int .u64 0, .int .u64 0, .int .u64 18446744073709551612, .int .u64 18446744073709551615, .int .u64 18446744073709551615, .int .u64 18446744073709551615] 26) r1.out)
  have r2 := Lib.hid (arow_alloc (.cells #[.int .u64 2, .int .u64 0, .int .u64 0, .int .u64 0, .int .u64 18446744073709551612, .int .u64 18446744073709551615, .int .u64 18446744073709551615, .int .u64 18446744073709551615] 26) r2.out)
  have r3 := Lib.hid (arow_alloc (.cells #[.int .u64 2, .int .u64 0, .int .u64 0, .int .u64 0, .int .u64 18446744073709551612, .int .u64 18446744073709551615, .int .u64 18446744073709551615, .int .u64 18446744073709551615] 26) r3.out)
  have r5 := Lib.hid (arow_alloc (.cells #[.int .u64 2, .int .u64 0, .int .u64 0, .int .u64 0, .int .u64 18446744073709551612, .int .u64 18446744073709551615, .int .u64 18446744073709551615, .int .u64 18446744073709551615] 26) r5.out)
  have r7 := Lib.hid (arow_alloc (.cells #[.int .u64 2, .int .u64 0, .int .u64 0, .int .u64 0, .int .u64 18446744073709551612, .int .u64 18446744073709551615, .int .u64 18446744073709551615, .int .u64 18446744073709551615] 26) r7.out)
  have r8 := Lib.hid (arow_alloc (.cells #[.int .u64 2, .int .u64 0, .int .u64 0, .int .u64 0, .int .u64 18446744073709551612, .int .u64 18446744073709551615, .int .u64 18446744073709551615, .int .u64 18446744073709551615] 26) r8.out)
  have r10 := Lib.hid (arow_alloc (.cells #[.int .u64 2, .int .u64 0, .int .u64 0, .int .u64 0, .int .u64 18446744073709551612, .int .u64 18446744073709551615, .int .u64 18446744073709551615, .int .u64 18446744073709551615] 26) r10.out)
  have r13 := Lib.hid (arow_alloc (.cells #[.int .u64 2, .int .u64 0, .int .u64 0, .int .u64 0, .int .u64 18446744073709551612, .int .u64 18446744073709551615, .int .u64 18446744073709551615, .int .u64 18446744073709551615] 26) r13.out)
  have r15 := Lib.hid (arow_alloc (.cells #[.int .u64 2, .int .u64 0, .int .u64 0, .int .u64 0, .int .u64 18446744073709551612, .int .u64 18446744073709551615, .int .u64 18446744073709551615, .int .u64 18446744073709551615] 26) r15.out)
  have r17 := Lib.hid (arow_alloc (.cells #[.int .u64 2, .int .u64 0, .int .u64 0, .int .u64 0, .int .u64 18446744073709551612, .int .u64 18446744073709551615, .int .u64 18446744073709551615, .int .u64 18446744073709551615] 26) r17.out)
  have r19 := Lib.hid (arow_new w9 #[.int .u64 2, .int .u64 0, .int .u64 0, .int .u64 0, .int .u64 18446744073709551612, .int .u64 18446744073709551615, .int .u64 18446744073709551615, .int .u64 18446744073709551615] 26)
  have b9 := b9.alloc b9.size (.cells #[.int .u64 2, .int .u64 0, .int .u64 0, .int .u64 0, .int .u64 18446744073709551612, .int .u64 18446744073709551615, .int .u64 18446744073709551615, .int .u64 18446744073709551615] 26)
  generalize (w9.alloc (.cells #[.int .u64 2, .int .u64 0, .int .u64 0, .int .u64 0, .int .u64 18446744073709551612, .int .u64 18446744073709551615, .int .u64 18446744073709551615, .int .u64 18446744073709551615] 26)) = v9 at *
  generalize w9.heap.size = n19 at *
  have e2 := eqlimbs2
  have e4 := eqlimbs4
  have e8 := eqself8
  refine (works_any _).mono ?_
  rintro e w10 ⟨rfl, h10⟩
  have r1 := Lib.hid (arow_below r1.out h10 (arow_lt r1.out))
  have r2 := Lib.hid (arow_below r2.out h10 (arow_lt r2.out))
  have r3 := Lib.hid (arow_below r3.out h10 (arow_lt r3.out))
  have r5 := Lib.hid (arow_below r5.out h10 (arow_lt r5.out))
  have r7 := Lib.hid (arow_below r7.out h10 (arow_lt r7.out))
  have r8 := Lib.hid (arow_below r8.out h10 (arow_lt r8.out))
  have r10 := Lib.hid (arow_below r10.out h10 (arow_lt r10.out))
  have r13 := Lib.hid (arow_below r13.out h10 (arow_lt r13.out))
  have r15 := Lib.hid (arow_below r15.out h10 (arow_lt r15.out))
  have r17 := Lib.hid (arow_below r17.out h10 (arow_lt r17.out))
  have r19 := Lib.hid (arow_below r19.out h10 (arow_lt r19.out))
  have b10 := b9.trans (h10.mono b9.size)
  clear h10
  have c2_0 := (arow_cell r2.out 0).trans rfl
  have c2_1 := (arow_cell r2.out 1).trans rfl
  have c2_2 := (arow_cell r2.out 2).trans rfl
  have c2_3 := (arow_cell r2.out 3).trans rfl
  have c2_4 := (arow_cell r2.out 4).trans rfl
  have c2_5 := (arow_cell r2.out 5).trans rfl
  have c2_6 := (arow_cell r2.out 6).trans rfl
  have c2_7 := (arow_cell r2.out 7).trans rfl
  have l2 := arow_lt r2.out
  have c3_0 := (arow_cell r3.out 0).trans rfl
  have c3_1 := (arow_cell r3.out 1).trans rfl
  have c3_2 := (arow_cell r3.out 2).trans rfl
  have c3_3 := (arow_cell r3.out 3).trans rfl
  have l3 := arow_lt r3.out
  have c5_0 := (arow_cell r5.out 0).trans rfl
  have c5_1 := (arow_cell r5.out 1).trans rfl
  have c5_2 := (arow_cell r5.out 2).trans rfl
  have c5_3 := (arow_cell r5.out 3).trans rfl
  have l5 := arow_lt r5.out
  have c7_0 := (arow_cell r7.out 0).trans rfl
  have c7_1 := (arow_cell r7.out 1).trans rfl
  have c7_2 := (arow_cell r7.out 2).trans rfl
  have c7_3 := (arow_cell r7.out 3).trans rfl
  have l7 := arow_lt r7.out
  have c8_0 := (arow_cell r8.out 0).trans rfl
  have c8_1 := (arow_cell r8.out 1).trans rfl
  have c8_2 := (arow_cell r8.out 2).trans rfl
  have c8_3 := (arow_cell r8.out 3).trans rfl
  have l8 := arow_lt r8.out
  have c10_0 := (arow_cell r10.out 0).trans rfl
  have c10_1 := (arow_cell r10.out 1).trans rfl
  have l10 := arow_lt r10.out
  have c13_0 := (arow_cell r13.out 0).trans rfl
  have c13_1 := (arow_cell r13.out 1).trans rfl
  have c13_2 := (arow_cell r13.out 2).trans rfl
  have c13_3 := (arow_cell r13.out 3).trans rfl
  have l13 := arow_lt r13.out
  have c15_0 := (arow_cell r15.out 0).trans rfl
  have c15_1 := (arow_cell r15.out 1).trans rfl
  have c15_2 := (arow_cell r15.out 2).trans rfl
  have c15_3 := (arow_cell r15.out 3).trans rfl
  have l15 := arow_lt r15.out
  have c17_0 := (arow_cell r17.out 0).trans rfl
  have c17_1 := (arow_cell r17.out 1).trans rfl
  have c17_2 := (arow_cell r17.out 2).trans rfl
  have c17_3 := (arow_cell r17.out 3).trans rfl
  have l17 := arow_lt r17.out
  have c19_0 := (arow_cell r19.out 0).trans rfl
  have c19_1 := (arow_cell r19.out 1).trans rfl
  have c19_2 := (arow_cell r19.out 2).trans rfl
  have c19_3 := (arow_cell r19.out 3).trans rfl
  have c19_4 := (arow_cell r19.out 4).trans rfl
  have c19_5 := (arow_cell r19.out 5).trans rfl
  have c19_6 := (arow_cell r19.out 6).trans rfl
  have c19_7 := (arow_cell r19.out 7).trans rfl
  have l19 := arow_lt r19.out
  have c1_0 := (arow_cell r1.out 0).trans rfl
  have c1_1 := (arow_cell r1.out 1).trans rfl
  have c1_2 := (arow_cell r1.out 2).trans rfl
  have c1_3 := (arow_cell r1.out 3).trans rfl
  have l1 := arow_lt r1.out
  go_wp2_with fail
  clear c2_0 c2_1 c2_2 c2_3 c2_4 c2_5 c2_6 c2_7 l2 c3_0 c3_1 c3_2 c3_3 l3 c5_0 c5_1 c5_2 c5_3 l5 c7_0 c7_1 c7_2 c7_3 l7 c8_0 c8_1 c8_2 c8_3 l8 c10_0 c10_1 l10 c13_0 c13_1 c13_2 c13_3 l13 c15_0 c15_1 c15_2 c15_3 l15 c17_0 c17_1 c17_2 c17_3 l17 c19_0 c19_1 c19_2 c19_3 c19_4 c19_5 c19_6 c19_7 l19 c1_0 c1_1 c1_2 c1_3 l1
  clear e2 e4 e8
  refine (k_blm _).mono ?_
  rintro e w11 ⟨rfl, h11⟩
  have r1 := Lib.hid (arow_below r1.out h11 (arow_lt r1.out))
  have r2 := Lib.hid (arow_below r2.out h11 (arow_lt r2.out))
  have r3 := Lib.hid (arow_below r3.out h11 (arow_lt r3.out))
  have r5 := Lib.hid (arow_below r5.out h11 (arow_lt r5.out))
  have r7 := Lib.hid (arow_below r7.out h11 (arow_lt r7.out))
  have r8 := Lib.hid (arow_below r8.out h11 (arow_lt r8.out))
  have r10 := Lib.hid (arow_below r10.out h11 (arow_lt r10.out))
  have r13 := Lib.hid (arow_below r13.out h11 (arow_lt r13.out))
  have r15 := Lib.hid (arow_below r15.out h11 (arow_lt r15.out))
  have r17 := Lib.hid (arow_below r17.out h11 (arow_lt r17.out))
  have r19 := Lib.hid (arow_below r19.out h11 (arow_lt r19.out))
  have b11 := b10.trans (h11.mono b10.size)
  clear h11
  have c2_0 := (arow_cell r2.out 0).trans rfl
  have c2_1 := (arow_cell r2.out 1).trans rfl
  have c2_2 := (arow_cell r2.out 2).trans rfl
  have c2_3 := (arow_cell r2.out 3).trans rfl
  have c2_4 := (arow_cell r2.out 4).trans rfl
  have c2_5 := (arow_cell r2.out 5).trans rfl
  have c2_6 := (arow_cell r2.out 6).trans rfl
  have c2_7 := (arow_cell r2.out 7).trans rfl
  have l2 := arow_lt r2.out
  go_wp2_with fail
  clear c2_0 c2_1 c2_2 c2_3 c2_4 c2_5 c2_6 c2_7 l2
  refine (k_bls _).mono ?_
  rintro e w12 ⟨rfl, h12⟩
  have r1 := Lib.hid (arow_below r1.out h12 (arow_lt r1.out))
  have r2 := Lib.hid (arow_below r2.out h12 (arow_lt r2.out))
  have r3 := Lib.hid (arow_below r3.out h12 (arow_lt r3.out))
  have r5 := Lib.hid (arow_below r5.out h12 (arow_lt r5.out))
  have r7 := Lib.hid (arow_below r7.out h12 (arow_lt r7.out))
  have r8 := Lib.hid (arow_below r8.out h12 (arow_lt r8.out))
  have r10 := Lib.hid (arow_below r10.out h12 (arow_lt r10.out))
  have r13 := Lib.hid (arow_below r13.out h12 (arow_lt r13.out))
  have r15 := Lib.hid (arow_below r15.out h12 (arow_lt r15.out))
  have r17 := Lib.hid (arow_below r17.out h12 (arow_lt r17.out))
  have r19 := Lib.hid (arow_below r19.out h12 (arow_lt r19.out))
  have b12 := b11.trans (h12.mono b11.size)
  clear h12
  have c3_0 := (arow_cell r3.out 0).trans rfl
  have c3_1 := (arow_cell r3.out 1).trans rfl
  have c3_2 := (arow_cell r3.out 2).trans rfl
  have c3_3 := (arow_cell r3.out 3).trans rfl
  have l3 := arow_lt r3.out
  go_wp2_with fail
  clear c3_0 c3_1 c3_2 c3_3 l3
  refine (k_bl0 _).mono ?_
  rintro e w13 ⟨rfl, h13⟩
  have r1 := Lib.hid (arow_below r1.out h13 (arow_lt r1.out))
  have r2 := Lib.hid (arow_below r2.out h13 (arow_lt r2.out))
  have r3 := Lib.hid (arow_below r3.out h13 (arow_lt r3.out))
  have r5 := Lib.hid (arow_below r5.out h13 (arow_lt r5.out))
  have r7 := Lib.hid (arow_below r7.out h13 (arow_lt r7.out))
  have r8 := Lib.hid (arow_below r8.out h13 (arow_lt r8.out))
  have r10 := Lib.hid (arow_below r10.out h13 (arow_lt r10.out))
  have r13 := Lib.hid (arow_below r13.out h13 (arow_lt r13.out))
  have r15 := Lib.hid (arow_below r15.out h13 (arow_lt r15.out))
  have r17 := Lib.hid (arow_below r17.out h13 (arow_lt r17.out))
  have r19 := Lib.hid (arow_below r19.out h13 (arow_lt r19.out))
  have b13 := b12.trans (h13.mono b12.size)
  clear h13
  go_wp2_with fail
  refine (k_bl64 _).mono ?_
  rintro e w14 ⟨rfl, h14⟩
  have r1 := Lib.hid (arow_below r1.out h14 (arow_lt r1.out))
  have r2 := Lib.hid (arow_below r2.out h14 (arow_lt r2.out))
  have r3 := Lib.hid (arow_below r3.out h14 (arow_lt r3.out))
  have r5 := Lib.hid (arow_below r5.out h14 (arow_lt r5.out))
  have r7 := Lib.hid (arow_below r7.out h14 (arow_lt r7.out))
  have r8 := Lib.hid (arow_below r8.out h14 (arow_lt r8.out))
  have r10 := Lib.hid (arow_below r10.out h14 (arow_lt r10.out))
  have r13 := Lib.hid (arow_below r13.out h14 (arow_lt r13.out))
  have r15 := Lib.hid (arow_below r15.out h14 (arow_lt r15.out))
  have r17 := Lib.hid (arow_below r17.out h14 (arow_lt r17.out))
  have r19 := Lib.hid (arow_below r19.out h14 (arow_lt r19.out))
  have b14 := b13.trans (h14.mono b13.size)
  clear h14
  have c1_0 := (arow_cell r1.out 0).trans rfl
  have c1_1 := (arow_cell r1.out 1).trans rfl
  have c1_2 := (arow_cell r1.out 2).trans rfl
  have c1_3 := (arow_cell r1.out 3).trans rfl
  have l1 := arow_lt r1.out
  have c3_0 := (arow_cell r3.out 0).trans rfl
  have c3_1 := (arow_cell r3.out 1).trans rfl
  have c3_2 := (arow_cell r3.out 2).trans rfl
  have c3_3 := (arow_cell r3.out 3).trans rfl
  have l3 := arow_lt r3.out
  go_wp2_with fail
  clear c1_0 c1_1 c1_2 c1_3 l1 c3_0 c3_1 c3_2 c3_3 l3
  refine (k_cmp1 _).mono ?_
  rintro e w15 ⟨rfl, h15⟩
  have r1 := Lib.hid (arow_below r1.out h15 (arow_lt r1.out))
  have r2 := Lib.hid (arow_below r2.out h15 (arow_lt r2.out))
  have r3 := Lib.hid (arow_below r3.out h15 (arow_lt r3.out))
  have r5 := Lib.hid (arow_below r5.out h15 (arow_lt r5.out))
  have r7 := Lib.hid (arow_below r7.out h15 (arow_lt r7.out))
  have r8 := Lib.hid (arow_below r8.out h15 (arow_lt r8.out))
  have r10 := Lib.hid (arow_below r10.out h15 (arow_lt r10.out))
  have r13 := Lib.hid (arow_below r13.out h15 (arow_lt r13.out))
  have r15 := Lib.hid (arow_below r15.out h15 (arow_lt r15.out))
  have r17 := Lib.hid (arow_below r17.out h15 (arow_lt r17.out))
  have r19 := Lib.hid (arow_below r19.out h15 (arow_lt r19.out))
  have b15 := b14.trans (h15.mono b14.size)
  clear h15
  have c3_0 := (arow_cell r3.out 0).trans rfl
  have c3_1 := (arow_cell r3.out 1).trans rfl
  have c3_2 := (arow_cell r3.out 2).trans rfl
  have c3_3 := (arow_cell r3.out 3).trans rfl
  have l3 := arow_lt r3.out
  go_wp2_with fail
  clear c3_0 c3_1 c3_2 c3_3 l3
  refine (k_cmp0 _).mono ?_
  rintro e w16 ⟨rfl, h16⟩
  have b16 := b15.trans (h16.mono b15.size)
  go_wp2
  go_ret
  exact ⟨rfl, b16⟩
end Go.Proofs.Ytiglhgcckceikaa
