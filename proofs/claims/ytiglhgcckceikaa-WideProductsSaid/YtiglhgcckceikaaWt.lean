/- Div128, by the program. -/
import Derived.Test.YtiglhgcckceikaaWs2
namespace Go.Proofs.Ytiglhgcckceikaa
open Go.RowKit

theorem div128_zero (x : Int) (w : World) :
    Calls Try.prog 27 #[.agg #[.int .u64 (d x 0), .int .u64 (d x 1)], .int .u64 0] w fun e w' => e = .returned (.tuple #[.agg #[.int .u64 0, .int .u64 0], .int .u64 0, .bool true]) ∧ Below w.heap.size w w' := by
  go_enter Try.func27, Try.ntmps27
  go_wp2
  refine bodyPost_ret (v := .tuple #[.agg #[.int .u64 0, .int .u64 0], .int .u64 0, .bool true]) ?_ rfl ⟨rfl, ?_⟩
  · simp [results, Try.results27, go_sem]
  · first | exact below2' w _ _ | (have hN : w.heap.size ≤ w.heap.size + 1 := by omega; exact ((below2' w _ _).setCell hN _).setCell hN _)

theorem div_parts (x b : Int) (hx : In 2 x) (hb : 0 < b) (hb2 : b < 18446744073709551616) (q r : Int) (hq : d x 1 / b = q) (hr : d x 1 % b = r) :
    d (x / b) 1 = q ∧ d (x / b) 0 = (r * 18446744073709551616 + d x 0) / b ∧ x % b = (r * 18446744073709551616 + d x 0) % b ∧ 0 ≤ r ∧ r < b := by
  obtain ⟨e0, e1⟩ := d_two x hx.1 hx.2
  have h0 := d_lo x 0
  have h1 := d_hi x 0
  have h2 := d_lo x 1
  have h3 := d_hi x 1
  have em := Int.emod_add_mul_ediv x 18446744073709551616
  rw [← e0, ← e1] at em
  generalize d x 0 = x0 at *
  generalize d x 1 = x1 at *
  have r0 := Int.emod_nonneg x1 (Int.ne_of_gt hb)
  have r1 := Int.emod_lt_of_pos x1 hb
  have ed := Int.emod_add_mul_ediv x1 b
  rw [hq, hr] at ed
  rw [hr] at r0 r1
  have q0 : 0 ≤ q := by rw [← hq]; exact Int.ediv_nonneg h2 (by omega)
  have hx2 : x = (r * 18446744073709551616 + x0) + b * (q * 18446744073709551616) := by
    rw [← Int.mul_assoc]; omega
  have f1 : x / b = (r * 18446744073709551616 + x0) / b + q * 18446744073709551616 := by
    conv => lhs; rw [hx2]
    rw [Int.add_mul_ediv_left _ _ (Int.ne_of_gt hb)]
  have f2 : x % b = (r * 18446744073709551616 + x0) % b := by
    conv => lhs; rw [hx2]
    rw [Int.add_mul_emod_self_left]
  have g0 : 0 ≤ (r * 18446744073709551616 + x0) / b := Int.ediv_nonneg (by omega) (by omega)
  have g1 : (r * 18446744073709551616 + x0) / b < 18446744073709551616 := by
    refine Int.ediv_lt_of_lt_mul hb ?_
    have : (r + 1) * 18446744073709551616 ≤ b * 18446744073709551616 := Int.mul_le_mul_of_nonneg_right (by omega) (by decide)
    rw [Int.mul_comm 18446744073709551616 b]
    omega
  have q1 : q ≤ x1 := by rw [← hq]; exact Int.ediv_le_self _ h2
  obtain ⟨k0, k1⟩ := d_two (x / b) (by rw [f1]; omega) (by rw [f1, pw_2]; omega)
  refine ⟨?_, ?_, f2, r0, r1⟩
  · rw [k1, f1]; omega
  · rw [k0, f1]; omega
theorem Q2_cells {w : World} {N : Nat} {a b : Value} {T : TypeId} (h : w.heap[N]? = some (.cells #[a, b] T (0, 0))) : (w.cell? ⟨N, 0, none⟩ = some a ∧ w.cell? ⟨N, 1, none⟩ = some b) ∧ (w.frozen? ⟨N, 0, none⟩ = false ∧ w.frozen? ⟨N, 1, none⟩ = false) :=
  ⟨⟨(arow_cell h 0).trans rfl, (arow_cell h 1).trans rfl⟩, arow_free h 0, arow_free h 1⟩

set_option maxRecDepth 100000 in
set_option maxHeartbeats 1000000 in
theorem div128_fn (x0 x1 b q r z s : Int) (w : World) (h1 : Limb x1) (hb : Limb b) (hp : 0 < b) (hq : x1 / b = q) (hr : x1 % b = r)
    (hd : ∀ w : World, Calls Try.prog 46 #[.int .u64 r, .int .u64 x0, .int .u64 b] w fun e w' => e = .returned (.tuple #[.int .u64 z, .int .u64 s]) ∧ Below w.heap.size w w') :
    Calls Try.prog 27 #[.agg #[.int .u64 x0, .int .u64 x1], .int .u64 b] w fun e w' => e = .returned (.tuple #[.agg #[.int .u64 z, .int .u64 q], .int .u64 s, .bool false]) ∧ Below w.heap.size w w' := by
  obtain ⟨a0, a1⟩ := h1
  obtain ⟨b0, b1⟩ := hb
  have e1 : (b == 0) = false := by simpa using Int.ne_of_gt hp
  have e4 : ¬ b = 0 := by omega
  have HD := Lib.hid hd
  clear hd
  have z1 : x1.tdiv b = q := by rw [Int.tdiv_eq_ediv_of_nonneg a0]; exact hq
  have z2 : x1.tmod b = r := by rw [Int.tmod_eq_emod_of_nonneg a0]; exact hr
  have q0 : 0 ≤ q := by rw [← hq]; exact Int.ediv_nonneg a0 b0
  have q1 : q ≤ x1 := by rw [← hq]; exact Int.ediv_le_self _ a0
  have r0 : 0 ≤ r := by rw [← hr]; exact Int.emod_nonneg _ (Int.ne_of_gt hp)
  have r1 : r < b := by rw [← hr]; exact Int.emod_lt_of_pos _ hp
  have z3 : IntKind.u64.wrap q = q := by rw [wrapU64]; omega
  have z4 : IntKind.u64.wrap r = r := by rw [wrapU64]; omega
  go_enter Try.func27, Try.ntmps27
  go_wp2
  have ra := arow_alloc (.cells #[.int .u64 0, .int .u64 0] 49) (arow_new w #[.int .u64 x0, .int .u64 x1] 49)
  have ro := arow_new (w.alloc (.cells #[.int .u64 x0, .int .u64 x1] 49)) #[.int .u64 0, .int .u64 0] 49
  rw [World.size_alloc] at ro
  have hbq := below2' w (.cells #[.int .u64 x0, .int .u64 x1] 49) (.cells #[.int .u64 0, .int .u64 0] 49)
  generalize ((w.alloc (.cells #[.int .u64 x0, .int .u64 x1] 49)).alloc (.cells #[.int .u64 0, .int .u64 0] 49)) = wq at *
  obtain ⟨⟨m0, m1⟩, _⟩ := Q2_cells ra
  obtain ⟨⟨o0, o1⟩, g0, g1⟩ := Q2_cells ro
  have n1 := Lib.hid (show w.heap.size + 1 ≠ w.heap.size by omega)
  have RA := Lib.hid ra
  have RO := Lib.hid ro
  clear ra ro
  go_region_held3 (fun w' => w'.cell? ⟨w.heap.size, 1, none⟩ = some (.int .u64 x1))
    (((try simp only [World.cell?_drew]); first | (with_reducible exact m1) | (with_reducible exact (World.cell?_setCell_far _ _ _ _ n1.out).trans m1)))
    (fail)
  have ra2 := arow_far (k := 1) (.int .u64 q) n1.out RA.out
  have ro2 := arow_set (k := 1) (.int .u64 q) RO.out
  have hb2 : Below w.heap.size w (wq.setCell ⟨w.heap.size + 1, 1, none⟩ (.int .u64 q)).drew := (hbq.setCell (by show w.heap.size ≤ w.heap.size + 1; omega) _).drew
  have RA2 := Lib.hid ra2
  have RO2 := Lib.hid ro2
  clear ra2 ro2 m0 m1 o0 o1 g0 g1 RA RO hbq
  simp only [Exit.then]
  generalize (wq.setCell ⟨w.heap.size + 1, 1, none⟩ (.int .u64 q)) = wr at *
  obtain ⟨⟨m0, m1⟩, _⟩ := Q2_cells RA2.out
  obtain ⟨⟨o0, o1⟩, g0, g1⟩ := Q2_cells RO2.out
  have hlt := arow_lt RO2.out
  go_wp2_with (go_at_call 46; refine (HD.out _).mono ?_; rintro e wc ⟨rfl, hbc⟩; have rc := arow_below (w := wr.drew) RO2.out hbc hlt; have hbd := hb2.trans (hbc.mono (Nat.le_of_lt (Nat.lt_of_succ_lt hlt))); obtain ⟨⟨p0, p1⟩, q0, q1⟩ := Q2_cells rc)
  refine bodyPost_ret (v := .tuple #[.agg #[.int .u64 z, .int .u64 q], .int .u64 s, .bool false]) ?_ rfl ⟨rfl, ?_⟩
  · simp [results, Try.results27, go_sem, *]
  · have hN : w.heap.size ≤ w.heap.size + 1 := by omega
    exact ((hbd.setCell hN _).setCell hN _).setCell hN _

theorem div128_any (A : Array Value) (x b : Int) (w : World) (hA : A = #[.int .u64 (d x 0), .int .u64 (d x 1)]) (hx : In 2 x) (hb : Limb b) (hp : 0 < b) :
    Calls Try.prog 27 #[.agg A, .int .u64 b] w fun e w' => e = .returned (.tuple #[.agg #[.int .u64 (d (x / b) 0), .int .u64 (d (x / b) 1)], .int .u64 (x % b), .bool false]) ∧ Below w.heap.size w w' := by
  subst hA
  obtain ⟨h1, h2, h3, h4, h5⟩ := div_parts x b hx hp hb.2 _ _ rfl rfl
  rw [h1, h2, h3]
  exact div128_fn (d x 0) (d x 1) b _ _ _ _ w (Limb.d x 1) hb hp rfl rfl (fun w => div64_any _ (d x 0) b w ⟨h4, h5⟩ (Limb.d x 0) hb)
end Go.Proofs.Ytiglhgcckceikaa
