/- How two numbers of limbs compare, by the program. -/
import Derived.Test.YtiglhgcckceikaaWc
namespace Go.Proofs.Ytiglhgcckceikaa
open Go.RowKit

/-- how two numbers compare -/
def cmpI (x y : Int) : Int := if x < y then -1 else if y < x then 1 else 0
theorem cmpI_lt {x y : Int} (h : x < y) : cmpI x y = -1 := by rw [cmpI, if_pos h]
theorem cmpI_gt {x y : Int} (h : y < x) : cmpI x y = 1 := by rw [cmpI, if_neg (by omega), if_pos h]
theorem cmpI_eq (x : Int) : cmpI x x = 0 := by rw [cmpI, if_neg (by omega), if_neg (by omega)]

theorem div_step (x : Int) (k : Nat) : x / pw k = d x k + 18446744073709551616 * (x / pw (k + 1)) := by
  rw [pw_succ, ← Int.ediv_ediv_of_nonneg (Int.le_of_lt (pw_pos k)), d]
  exact (Int.emod_add_mul_ediv _ _).symm
theorem div_zero (n : Nat) (x : Int) (h : In n x) : x / pw n = 0 := Int.ediv_eq_zero_of_lt h.1 h.2
theorem pw_zero : pw 0 = 1 := rfl
theorem div_zero' (x : Int) : x / pw 0 = x := by rw [pw_zero, Int.ediv_one]
theorem cmp_top (x y : Int) (k : Nat) (h : x / pw (k + 1) = y / pw (k + 1)) :
    (d x k = d y k → x / pw k = y / pw k) ∧ (d x k ≠ d y k → cmpI x y = cmpI (d x k) (d y k)) := by
  refine ⟨fun e => by rw [div_step, div_step y, e, h], fun e => ?_⟩
  have h1 := div_step x k
  have h2 := div_step y k
  rw [h] at h1
  have hp := pw_pos k
  rcases Int.lt_or_gt_of_ne e with g | g
  · rw [cmpI_lt g, cmpI_lt]
    refine Int.lt_of_not_ge fun c => ?_
    have := Int.ediv_le_ediv hp c
    omega
  · rw [cmpI_gt g, cmpI_gt]
    refine Int.lt_of_not_ge fun c => ?_
    have := Int.ediv_le_ediv hp c
    omega

set_option maxHeartbeats 400000 in
theorem isNaN_any (x : Int) (w : World) : Calls Try.prog 53 #[.int .u64 x] w fun e w' => e = .returned (.bool false) ∧ w = w' := by
  go_enter Try.func53, Try.ntmps53
  go_wp2
  go_ret
  exact ⟨by simp, rfl⟩

set_option maxHeartbeats 1000000 in
theorem cmp_any (x y : Int) (w : World) : Calls Try.prog 49 #[.int .u64 x, .int .u64 y] w fun e w' => e = .returned (.int .i64 (cmpI x y)) ∧ w = w' := by
  rcases Int.lt_trichotomy x y with h | h | h
  · have h1 := Lib.hid (cmpI_lt h)
    have h2 : decide (x < y) = true := decide_eq_true h
    go_enter Try.func49, Try.ntmps49
    go_wp2_with (go_at_call 53; refine (isNaN_any _ _).mono ?_; rintro e w' ⟨rfl, rfl⟩)
    go_ret
    exact ⟨by rw [h1.out]; rfl, rfl⟩
  · subst h
    have h1 := Lib.hid (cmpI_eq x)
    have h2 : decide (x < x) = false := decide_eq_false (by omega)
    go_enter Try.func49, Try.ntmps49
    go_wp2_with (go_at_call 53; refine (isNaN_any _ _).mono ?_; rintro e w' ⟨rfl, rfl⟩)
    go_ret
    exact ⟨by rw [h1.out]; rfl, rfl⟩
  · have h1 := Lib.hid (cmpI_gt h)
    have h2 : decide (x < y) = false := decide_eq_false (by omega)
    have h3 : decide (y < x) = true := decide_eq_true h
    go_enter Try.func49, Try.ntmps49
    go_wp2_with (go_at_call 53; refine (isNaN_any _ _).mono ?_; rintro e w' ⟨rfl, rfl⟩)
    go_ret
    exact ⟨by rw [h1.out]; rfl, rfl⟩

/-- two blocks -/
structure L2 (N : Nat) (T : TypeId) (A B : Array Value) (w : World) : Prop where
  ha : w.heap[N]? = some (.cells A T (0, 0))
  hb : w.heap[N + 1]? = some (.cells B T (0, 0))
theorem L2.start (w : World) (T : TypeId) (A B : Array Value) : L2 w.heap.size T A B ((w.alloc (.cells A T)).alloc (.cells B T)) := by
  refine ⟨arow_alloc _ (heap_alloc_new w _), ?_⟩
  have := heap_alloc_new (w.alloc (.cells A T)) (.cells B T)
  rwa [World.size_alloc] at this
theorem L2.drewN {N : Nat} {T : TypeId} {A B : Array Value} {w : World} (h : L2 N T A B w) (n : Nat) : L2 N T A B (w.drewN n) := ⟨h.ha, h.hb⟩
theorem Below_drewN' {B : Nat} {a w : World} (h : Below B a w) (n : Nat) : Below B a (w.drewN n) := ⟨h.os, h.tape, h.output, h.size, h.block⟩
theorem atQ4 (x : Int) (k : Nat) (h : k < 4) : (#[.int .u64 (d x 0), .int .u64 (d x 1), .int .u64 (d x 2), .int .u64 (d x 3)] : Array Value)[k]? = some (.int .u64 (d x k)) := row4 (d x) k h
theorem atQ8 (x : Int) (k : Nat) (h : k < 8) : (#[.int .u64 (d x 0), .int .u64 (d x 1), .int .u64 (d x 2), .int .u64 (d x 3), .int .u64 (d x 4), .int .u64 (d x 5), .int .u64 (d x 6), .int .u64 (d x 7)] : Array Value)[k]? = some (.int .u64 (d x k)) := row8 (d x) k h

set_option maxRecDepth 100000 in
set_option maxHeartbeats 1000000 in
theorem compare4_any (A B : Array Value) (x y : Int) (w : World) (hA : A = #[.int .u64 (d x 0), .int .u64 (d x 1), .int .u64 (d x 2), .int .u64 (d x 3)]) (hB : B = #[.int .u64 (d y 0), .int .u64 (d y 1), .int .u64 (d y 2), .int .u64 (d y 3)]) (hx : In 4 x) (hy : In 4 y) :
    Calls Try.prog 39 #[.agg A, .agg B] w fun e w' => e = .returned (.int .i64 (cmpI x y)) ∧ Below w.heap.size w w' := by
  subst hA hB
  go_enter Try.func39, Try.ntmps39
  go_wp2
  go_loopw [5] (fun i wr => ∃ k : Nat, k ≤ 4 ∧ i = .int .i64 ((k : Int) - 1) ∧ Hid (x / pw k = y / pw k) ∧ Hid (L2 w.heap.size 24 #[.int .u64 (d x 0), .int .u64 (d x 1), .int .u64 (d x 2), .int .u64 (d x 3)] #[.int .u64 (d y 0), .int .u64 (d y 1), .int .u64 (d y 2), .int .u64 (d y 3)] wr) ∧ Below w.heap.size w wr)
    (fun i _ => (intOf i + 1).toNat)
  case atStart => exact ⟨4, by omega, rfl, Lib.hid (by rw [div_zero 4 x hx, div_zero 4 y hy]), Lib.hid (L2.start w _ _ _), below2' _ _ _⟩
  case round =>
    obtain ⟨k, hk, rfl, HE, HL, hbe⟩ := hrel
    by_cases hpos : 0 < k
    · obtain ⟨j, rfl⟩ : ∃ j, k = j + 1 := ⟨k - 1, by omega⟩
      obtain ⟨c1, c2⟩ := cmp_top x y j HE.out
      have C1 := Lib.hid c1
      have C2 := Lib.hid c2
      clear c1 c2
      have hak := (arow_cell HL.out.ha j).trans (atQ4 x j (by omega))
      have hbk := (arow_cell HL.out.hb j).trans (atQ4 y j (by omega))
      obtain ⟨j0, l0⟩ : (0 ≤ (j : Int)) ∧ ((j : Int) < 4) := ⟨by omega, by omega⟩
      rw [show (((j + 1 : Nat) : Int) - 1) = (j : Int) by omega]
      by_cases he : d x j = d y j
      · have e1 : (d x j == d y j) = true := by simpa using he
        have e2 : (d x j != d y j) = false := by simpa using he
        have HE2 := Lib.hid he
        clear he
        go_wp2
        go_quiet (fail)
        go_wp2
        go_roundw
        case rel => exact ⟨j, by omega, by go_num, Lib.hid (C1.out HE2.out), Lib.hid (HL.out.drewN _), Below_drewN' hbe _⟩
        case measure => simp [intOf] <;> omega
      · have e1 : (d x j == d y j) = false := by simpa using he
        have e2 : (d x j != d y j) = true := by simpa using he
        have HE2 := Lib.hid he
        clear he
        go_wp2
        go_quiet (fail)
        have HL2 := Lib.hid (HL.out.drewN nq)
        have hbe2 := Below_drewN' hbe nq
        clear hak hbk HL hbe
        generalize wr.drewN nq = wq at *
        have hak := (arow_cell HL2.out.ha j).trans (atQ4 x j (by omega))
        have hbk := (arow_cell HL2.out.hb j).trans (atQ4 y j (by omega))
        go_wp2
        go_quiet ((go_at_call 49; exact Calls.quiet_of_same ((cmp_any _ _ _).mono fun _ _ h => ⟨h.1, h.2.symm⟩)))
        go_wp2
        go_ret
        exact ⟨by rw [C2.out HE2.out]; rfl, Below_drewN' hbe2 _⟩
    · have ek : Hid (k = 0) := Lib.hid (by omega)
      have HX := Lib.hid (show x = y by have := HE.out; rw [ek.out, div_zero', div_zero'] at this; exact this)
      go_wp2
      go_ret
      exact ⟨by rw [HX.out, cmpI_eq]; rfl, hbe⟩
set_option maxRecDepth 100000 in
set_option maxHeartbeats 1000000 in
theorem compare8_any (A B : Array Value) (x y : Int) (w : World) (hA : A = #[.int .u64 (d x 0), .int .u64 (d x 1), .int .u64 (d x 2), .int .u64 (d x 3), .int .u64 (d x 4), .int .u64 (d x 5), .int .u64 (d x 6), .int .u64 (d x 7)]) (hB : B = #[.int .u64 (d y 0), .int .u64 (d y 1), .int .u64 (d y 2), .int .u64 (d y 3), .int .u64 (d y 4), .int .u64 (d y 5), .int .u64 (d y 6), .int .u64 (d y 7)]) (hx : In 8 x) (hy : In 8 y) :
    Calls Try.prog 40 #[.agg A, .agg B] w fun e w' => e = .returned (.int .i64 (cmpI x y)) ∧ Below w.heap.size w w' := by
  subst hA hB
  go_enter Try.func40, Try.ntmps40
  go_wp2
  go_loopw [5] (fun i wr => ∃ k : Nat, k ≤ 8 ∧ i = .int .i64 ((k : Int) - 1) ∧ Hid (x / pw k = y / pw k) ∧ Hid (L2 w.heap.size 26 #[.int .u64 (d x 0), .int .u64 (d x 1), .int .u64 (d x 2), .int .u64 (d x 3), .int .u64 (d x 4), .int .u64 (d x 5), .int .u64 (d x 6), .int .u64 (d x 7)] #[.int .u64 (d y 0), .int .u64 (d y 1), .int .u64 (d y 2), .int .u64 (d y 3), .int .u64 (d y 4), .int .u64 (d y 5), .int .u64 (d y 6), .int .u64 (d y 7)] wr) ∧ Below w.heap.size w wr)
    (fun i _ => (intOf i + 1).toNat)
  case atStart => exact ⟨8, by omega, rfl, Lib.hid (by rw [div_zero 8 x hx, div_zero 8 y hy]), Lib.hid (L2.start w _ _ _), below2' _ _ _⟩
  case round =>
    obtain ⟨k, hk, rfl, HE, HL, hbe⟩ := hrel
    by_cases hpos : 0 < k
    · obtain ⟨j, rfl⟩ : ∃ j, k = j + 1 := ⟨k - 1, by omega⟩
      obtain ⟨c1, c2⟩ := cmp_top x y j HE.out
      have C1 := Lib.hid c1
      have C2 := Lib.hid c2
      clear c1 c2
      have hak := (arow_cell HL.out.ha j).trans (atQ8 x j (by omega))
      have hbk := (arow_cell HL.out.hb j).trans (atQ8 y j (by omega))
      obtain ⟨j0, l0⟩ : (0 ≤ (j : Int)) ∧ ((j : Int) < 8) := ⟨by omega, by omega⟩
      rw [show (((j + 1 : Nat) : Int) - 1) = (j : Int) by omega]
      by_cases he : d x j = d y j
      · have e1 : (d x j == d y j) = true := by simpa using he
        have e2 : (d x j != d y j) = false := by simpa using he
        have HE2 := Lib.hid he
        clear he
        go_wp2
        go_quiet (fail)
        go_wp2
        go_roundw
        case rel => exact ⟨j, by omega, by go_num, Lib.hid (C1.out HE2.out), Lib.hid (HL.out.drewN _), Below_drewN' hbe _⟩
        case measure => simp [intOf] <;> omega
      · have e1 : (d x j == d y j) = false := by simpa using he
        have e2 : (d x j != d y j) = true := by simpa using he
        have HE2 := Lib.hid he
        clear he
        go_wp2
        go_quiet (fail)
        have HL2 := Lib.hid (HL.out.drewN nq)
        have hbe2 := Below_drewN' hbe nq
        clear hak hbk HL hbe
        generalize wr.drewN nq = wq at *
        have hak := (arow_cell HL2.out.ha j).trans (atQ8 x j (by omega))
        have hbk := (arow_cell HL2.out.hb j).trans (atQ8 y j (by omega))
        go_wp2
        go_quiet ((go_at_call 49; exact Calls.quiet_of_same ((cmp_any _ _ _).mono fun _ _ h => ⟨h.1, h.2.symm⟩)))
        go_wp2
        go_ret
        exact ⟨by rw [C2.out HE2.out]; rfl, Below_drewN' hbe2 _⟩
    · have ek : Hid (k = 0) := Lib.hid (by omega)
      have HX := Lib.hid (show x = y by have := HE.out; rw [ek.out, div_zero', div_zero'] at this; exact this)
      go_wp2
      go_ret
      exact ⟨by rw [HX.out, cmpI_eq]; rfl, hbe⟩

set_option maxHeartbeats 1000000 in
theorem cmp4_any (A B : Array Value) (x y : Int) (w : World) (hA : A = #[.int .u64 (d x 0), .int .u64 (d x 1), .int .u64 (d x 2), .int .u64 (d x 3)]) (hB : B = #[.int .u64 (d y 0), .int .u64 (d y 1), .int .u64 (d y 2), .int .u64 (d y 3)]) (hx : In 4 x) (hy : In 4 y) :
    Calls Try.prog 16 #[.agg A, .agg B] w fun e w' => e = .returned (.int .i64 (cmpI x y)) ∧ Below w.heap.size w w' := by
  subst hA hB
  go_enter Try.func16, Try.ntmps16
  go_wp2_with (go_at_call 39; refine (compare4_any _ _ x y _ rfl rfl hx hy).mono ?_; rintro e w1 ⟨rfl, hb⟩)
  go_ret
  exact ⟨rfl, (below2' w _ _).trans (hb.mono (by simp; omega))⟩

set_option maxHeartbeats 1000000 in
theorem cmp8_any (A B : Array Value) (x y : Int) (w : World) (hA : A = #[.int .u64 (d x 0), .int .u64 (d x 1), .int .u64 (d x 2), .int .u64 (d x 3), .int .u64 (d x 4), .int .u64 (d x 5), .int .u64 (d x 6), .int .u64 (d x 7)]) (hB : B = #[.int .u64 (d y 0), .int .u64 (d y 1), .int .u64 (d y 2), .int .u64 (d y 3), .int .u64 (d y 4), .int .u64 (d y 5), .int .u64 (d y 6), .int .u64 (d y 7)]) (hx : In 8 x) (hy : In 8 y) :
    Calls Try.prog 18 #[.agg A, .agg B] w fun e w' => e = .returned (.int .i64 (cmpI x y)) ∧ Below w.heap.size w w' := by
  subst hA hB
  go_enter Try.func18, Try.ntmps18
  go_wp2_with (go_at_call 40; refine (compare8_any _ _ x y _ rfl rfl hx hy).mono ?_; rintro e w1 ⟨rfl, hb⟩)
  go_ret
  exact ⟨rfl, (below2' w _ _).trans (hb.mono (by simp; omega))⟩
end Go.Proofs.Ytiglhgcckceikaa
