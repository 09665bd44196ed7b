/- Quotient and rest of two numbers of four limbs, by the program. -/
import Derived.Test.YtiglhgcckceikaaWz3
import Derived.Test.YtiglhgcckceikaaWz4
import Derived.Test.YtiglhgcckceikaaWv
namespace Go.Proofs.Ytiglhgcckceikaa
open Go.RowKit

/-- four blocks: the two numbers, the quotient's limbs, the rest -/
structure V4 (w : World) (A B R C : Array Value) (wz : World) : Prop where
  ha : wz.heap[w.heap.size]? = some (.cells A 24 (0, 0))
  hb : wz.heap[w.heap.size + 1]? = some (.cells B 24 (0, 0))
  hq : wz.heap[w.heap.size + 1 + 1]? = some (.cells R 24 (0, 0))
  hr : wz.heap[w.heap.size + 1 + 1 + 1]? = some (.cells C 24 (0, 0))
  hw : Below w.heap.size w wz
theorem V4.begin (w : World) (A B R C : Array Value) : V4 w A B R C ((((w.alloc (.cells A 24)).alloc (.cells B 24)).alloc (.cells R 24)).alloc (.cells C 24)) := by
  obtain ⟨h1, h2, h3, h4⟩ := rows4 w A B R C 24 24 24 24
  exact ⟨h1, h2, h3, h4, below4' _ _ _ _ _⟩
theorem V4.next {w wz wa : World} {A B R C : Array Value} (h : V4 w A B R C wz) (hb : Below wz.heap.size wz wa) : V4 w A B R C wa :=
  ⟨arow_below h.ha hb (arow_lt h.ha), arow_below h.hb hb (arow_lt h.hb), arow_below h.hq hb (arow_lt h.hq), arow_below h.hr hb (arow_lt h.hr), h.hw.trans (hb.mono h.hw.size)⟩
theorem V4.drew {w wz : World} {A B R C : Array Value} (h : V4 w A B R C wz) : V4 w A B R C wz.drew := ⟨h.ha, h.hb, h.hq, h.hr, h.hw.drew⟩
theorem V4.stored {w wz : World} {A B R : Array Value} {a b c e v0 v1 v2 v3 u : Value} (k : Nat) (h : V4 w A B R #[a, b, c, e] wz) :
    V4 w A B (R.setIfInBounds k u) #[v0, v1, v2, v3] (((((wz.setCell ⟨w.heap.size + 1 + 1, k, none⟩ u).setCell ⟨w.heap.size + 1 + 1 + 1, 0, none⟩ v0).setCell ⟨w.heap.size + 1 + 1 + 1, 1, none⟩ v1).setCell ⟨w.heap.size + 1 + 1 + 1, 2, none⟩ v2).setCell ⟨w.heap.size + 1 + 1 + 1, 3, none⟩ v3) :=
  ⟨far4 (by omega) (arow_far _ (by omega) h.ha), far4 (by omega) (arow_far _ (by omega) h.hb), far4 (by omega) (arow_set _ h.hq), set4 (arow_far _ (by omega) h.hr), below_set4 (h.hw.setCell (by show w.heap.size ≤ w.heap.size + 1 + 1; omega) _) (by omega)⟩
/-- limbs from number k on are laid -/
def From (z : Int) (k : Nat) (R : Array Value) : Prop := ∀ j, k ≤ j → j < 4 → R[j]? = some (.int .u64 (d z j))
theorem From.next {z : Int} {k : Nat} {R : Array Value} {v : Value} (h : From z (k + 1) R) (hR : R.size = 4) (hk : k < 4) (hv : v = .int .u64 (d z k)) : From z k (R.setIfInBounds k v) := by
  intro j h1 h2
  by_cases e : j = k
  · subst e; rw [Array.getElem?_setIfInBounds_self_of_lt (by omega), hv]
  · rw [Array.getElem?_setIfInBounds_ne (fun c => e c.symm)]; exact h j (by omega) h2
theorem all_of {z : Int} {R : Array Value} (hR : R.size = 4) (h : From z 0 R) : R = #[.int .u64 (d z 0), .int .u64 (d z 1), .int .u64 (d z 2), .int .u64 (d z 3)] := by
  apply Array.ext
  · rw [hR]; rfl
  · intro i h1 h2
    have h3 := h i (by omega) (by omega)
    have h4 := atQ4 z i (by omega)
    rw [Array.getElem?_eq_getElem h1] at h3
    rw [Array.getElem?_eq_getElem h2] at h4
    exact Option.some.inj (h3.trans h4.symm)
theorem Q8_shift (r l : Int) (hr : In 4 r) (hl : Limb l) : (#[.int .u64 l, .int .u64 (d r 0), .int .u64 (d r 1), .int .u64 (d r 2), .int .u64 (d r 3), .int .u64 0, .int .u64 0, .int .u64 0] : Array Value) = #[.int .u64 (d (r * 18446744073709551616 + l) 0), .int .u64 (d (r * 18446744073709551616 + l) 1), .int .u64 (d (r * 18446744073709551616 + l) 2), .int .u64 (d (r * 18446744073709551616 + l) 3), .int .u64 (d (r * 18446744073709551616 + l) 4), .int .u64 (d (r * 18446744073709551616 + l) 5), .int .u64 (d (r * 18446744073709551616 + l) 6), .int .u64 (d (r * 18446744073709551616 + l) 7)] := by
  have h0 : d (r * 18446744073709551616 + l) 0 = l := by
    rw [d, div_zero', Int.add_comm, Int.add_mul_emod_self_right, Int.emod_eq_of_lt hl.1 hl.2]
  have hs : ∀ i, (r * 18446744073709551616 + l) / pw (i + 1) = r / pw i := by
    intro i
    rw [pw_succ, Int.mul_comm (pw i), ← Int.ediv_ediv_of_nonneg (by decide : (0 : Int) ≤ 18446744073709551616), Int.add_comm, Int.add_mul_ediv_right _ _ (by decide), Int.ediv_eq_zero_of_lt hl.1 hl.2, Int.zero_add]
  have h1 : ∀ i, d (r * 18446744073709551616 + l) (i + 1) = d r i := by
    intro i
    rw [d, hs i, d]
  have h4 : ∀ i, 4 ≤ i → d r i = 0 := fun i hi => by rw [d, div_above 4 i r hr hi]; rfl
  rw [h0, h1 0, h1 1, h1 2, h1 3, h1 4, h1 5, h1 6, h4 4 (by omega), h4 5 (by omega), h4 6 (by omega)]
theorem shift_in8 (r l : Int) (hr : In 4 r) (hl : Limb l) : In 8 (r * 18446744073709551616 + l) := by
  have h2 := hr.2
  have e4 : pw 4 = 115792089237316195423570985008687907853269984665640564039457584007913129639936 := by rfl
  have e8 : pw 8 = 13407807929942597099574024998205846127479365820592393377723561443721764030073546976801874298166903427690031858186486050853753882811946569946433649006084096 := by rfl
  rw [e4] at h2
  have := hr.1
  have := hl.1
  have := hl.2
  unfold In
  rw [e8]
  omega
/-- one digit more -/
theorem div_next (x y r : Int) (k : Nat) (h0 : 0 < y) (hr : r = x / pw (k + 1) % y) :
    (r * 18446744073709551616 + d x k) % y = x / pw k % y ∧ (r * 18446744073709551616 + d x k) / y = d (x / y) k ∧ r * 18446744073709551616 + d x k < y * 18446744073709551616 ∧ 0 ≤ r ∧ r < y := by
  have hs := div_step x k
  have em := Int.emod_add_mul_ediv (x / pw (k + 1)) y
  rw [← hr] at em
  have r0 : 0 ≤ r := by rw [hr]; exact Int.emod_nonneg _ (Int.ne_of_gt h0)
  have r1 : r < y := by rw [hr]; exact Int.emod_lt_of_pos _ h0
  have l0 := d_lo x k
  have l1 := d_hi x k
  have hx : x / pw k = (r * 18446744073709551616 + d x k) + y * (x / pw (k + 1) / y * 18446744073709551616) := by
    rw [← Int.mul_assoc]; omega
  have hlt : r * 18446744073709551616 + d x k < y * 18446744073709551616 := by
    have : (r + 1) * 18446744073709551616 ≤ y * 18446744073709551616 := Int.mul_le_mul_of_nonneg_right (by omega) (by decide)
    omega
  refine ⟨by rw [hx, Int.add_mul_emod_self_left], ?_, hlt, r0, r1⟩
  have hc : x / y / pw k = x / pw k / y := by
    rw [Int.ediv_ediv_of_nonneg (Int.le_of_lt h0), Int.ediv_ediv_of_nonneg (Int.le_of_lt (pw_pos k)), Int.mul_comm]
  have g0 : 0 ≤ (r * 18446744073709551616 + d x k) / y := Int.ediv_nonneg (by omega) (Int.le_of_lt h0)
  have g1 : (r * 18446744073709551616 + d x k) / y < 18446744073709551616 := Int.ediv_lt_of_lt_mul h0 (by rw [Int.mul_comm 18446744073709551616 y]; exact hlt)
  show _ = x / y / pw k % 18446744073709551616
  rw [hc, hx, Int.add_mul_ediv_left _ _ (Int.ne_of_gt h0), Int.add_mul_emod_self_right, Int.emod_eq_of_lt g0 g1]

set_option maxRecDepth 100000 in
set_option maxHeartbeats 2000000 in
theorem divmod_any (A B : Array Value) (x y : Int) (w : World) (hA : A = #[.int .u64 (d x 0), .int .u64 (d x 1), .int .u64 (d x 2), .int .u64 (d x 3)]) (hB : B = #[.int .u64 (d y 0), .int .u64 (d y 1), .int .u64 (d y 2), .int .u64 (d y 3)]) (hx : In 4 x) (hy : In 4 y) (h0 : 0 < y) :
    Calls Try.prog 26 #[.agg A, .agg B] w fun e w' => e = .returned (.tuple #[.agg #[.int .u64 (d (x / y) 0), .int .u64 (d (x / y) 1), .int .u64 (d (x / y) 2), .int .u64 (d (x / y) 3)], .agg #[.int .u64 (d (x % y) 0), .int .u64 (d (x % y) 1), .int .u64 (d (x % y) 2), .int .u64 (d (x % y) 3)], .bool false]) ∧ Below w.heap.size w w' := by
  subst hA hB
  have heq := eqQ4 y 0 hy (zero_in 4)
  simp only [Q4_zero] at heq
  have hne : eqB y 0 = false := decide_eq_false (by omega)
  go_enter Try.func26, Try.ntmps26
  go_wp2
  clear heq hne
  go_loopw [7] (fun i wr => ∃ k : Nat, ∃ r : Int, ∃ R : Array Value, k ≤ 4 ∧ i = .int .i64 ((k : Int) - 1) ∧ R.size = 4 ∧ Hid (r = x / pw k % y) ∧ Hid (From (x / y) k R) ∧ Hid (V4 w #[.int .u64 (d x 0), .int .u64 (d x 1), .int .u64 (d x 2), .int .u64 (d x 3)] #[.int .u64 (d y 0), .int .u64 (d y 1), .int .u64 (d y 2), .int .u64 (d y 3)] R #[.int .u64 (d r 0), .int .u64 (d r 1), .int .u64 (d r 2), .int .u64 (d r 3)] wr))
    (fun i _ => (intOf i + 1).toNat)
  case atStart =>
    exact ⟨4, 0, _, by omega, rfl, rfl, Lib.hid (by rw [div_zero 4 x hx, Int.zero_emod]), Lib.hid (fun j h1 h2 => by omega), Lib.hid (by rw [Q4_zero]; exact V4.begin w _ _ _ _)⟩
  case round =>
    obtain ⟨k, r, R, hk, rfl, hR, HE, HR, G⟩ := hrel
    by_cases hpos : 0 < k
    · obtain ⟨j, rfl⟩ : ∃ j, k = j + 1 := ⟨k - 1, by omega⟩
      obtain ⟨d1, d2, d3, d4, d5⟩ := div_next x y r j h0 HE.out
      have hri : In 4 r := ⟨d4, Int.lt_trans d5 hy.2⟩
      have HD := Lib.hid (fun w => digit_any _ _ _ y w (Q8_shift r (d x j) hri (Limb.d x j)) rfl (shift_in8 r (d x j) hri (Limb.d x j)) hy h0 d3)
      rw [d1, d2] at HD
      obtain ⟨j0, l0⟩ : (0 ≤ (j : Int)) ∧ ((j : Int) < 4) := ⟨by omega, by omega⟩
      rw [show (((j + 1 : Nat) : Int) - 1) = (j : Int) by omega]
      obtain ⟨s, hs⟩ : ∃ s, x / pw j % y = s := ⟨_, rfl⟩
      rw [hs] at HD
      have HS := Lib.hid hs.symm
      clear d1 d2 d3 hs
      have ha := (arow_cell G.out.ha j).trans (atQ4 x j (by omega))
      obtain ⟨b0, b1, b2, b3⟩ := cells4 G.out.hb
      obtain ⟨r0, r1, r2, r3⟩ := cells4 G.out.hr
      go_wp2
      refine wp_region_head 13 (.int .i64 (j : Int)) (by kernel_rfl) (by kernel_rfl) (fun _ _ _ h => h) (Or.inl ⟨by rfl, fun _ => rfl⟩) ?_
      simp only [List.take_succ_cons, List.take_zero, Act.put, List.setIfInBounds_toArray, List.set_cons_succ, List.set_cons_zero]
      repeat still_step
      refine wpStill_nil ?_
      change wpAny _ _ _ _ (6 + 1) _ _ _
      refine wpAny_ready (rs := [14]) (by kernel_rfl) (by simp) (AllReady.cons (o := ⟨some 32, .call ⟨.value (.func 45), #[.tmp 30, .tmp 31], #[26, 24]⟩, _, _, _, none⟩) rfl (fun K hK => ?_) AllReady.nil)
      have HK := Lib.hid hK
      clear hK
      go_simp
      refine (HD.out _).mono ?_
      rintro e wd ⟨rfl, hd⟩
      have G := Lib.hid (G.out.drew.next hd)
      refine HK.out _ _ ?_
      clear HK K hd ha b0 b1 b2 b3 r0 r1 r2 r3
      try simp only [Act.put, List.setIfInBounds_toArray, List.set_cons_succ, List.set_cons_zero]
      refine wpAny_take (i := 15) (oi := ⟨some 17, .move (.tmp 32), _, _, _, none⟩) (v := .tuple #[.int .u64 (d (x / y) j), .agg #[.int .u64 (d s 0), .int .u64 (d s 1), .int .u64 (d s 2), .int .u64 (d s 3)]]) rfl (by kernel_rfl) (by kernel_rfl) (by kernel_rfl) (fun _ _ _ h => h) (Or.inl ⟨by rfl, fun _ => rfl⟩) ?_
      try simp only [Act.put, List.setIfInBounds_toArray, List.set_cons_succ, List.set_cons_zero]
      refine wpAny_take (i := 16) (oi := ⟨some 33, .extract (.tmp 17) 0, _, _, _, none⟩) (v := .int .u64 (d (x / y) j)) rfl (by kernel_rfl) (by kernel_rfl) (by kernel_rfl) (fun _ _ _ h => h) (Or.inl ⟨by rfl, fun _ => rfl⟩) ?_
      try simp only [Act.put, List.setIfInBounds_toArray, List.set_cons_succ, List.set_cons_zero]
      refine wpAny_take (i := 17) (oi := ⟨some 34, .extract (.tmp 17) 1, _, _, _, none⟩) (v := .agg #[.int .u64 (d s 0), .int .u64 (d s 1), .int .u64 (d s 2), .int .u64 (d s 3)]) rfl (by kernel_rfl) (by kernel_rfl) (by kernel_rfl) (fun _ _ _ h => h) (Or.inl ⟨by rfl, fun _ => rfl⟩) ?_
      try simp only [Act.put, List.setIfInBounds_toArray, List.set_cons_succ, List.set_cons_zero]
      refine wpAny_take (i := 18) (oi := ⟨some 35, .indexAddr 24 (.tmp 4) (.tmp 18), _, _, _, none⟩) (v := .pointer (some ⟨w.heap.size + 1 + 1, j, none⟩)) rfl (by kernel_rfl) (by kernel_rfl) (by kernel_rfl) (fun _ _ _ h => h) (Or.inl ⟨by rfl, fun w => by go_simp⟩) ?_
      try simp only [Act.put, List.setIfInBounds_toArray, List.set_cons_succ, List.set_cons_zero]
      obtain ⟨u, hu⟩ : ∃ u, R[j]? = some u := ⟨R[j], by simp⟩
      have hrk := (arow_cell G.out.hq j).trans hu
      have hfr := arow_free G.out.hq j
      obtain ⟨r0, r1, r2, r3⟩ := cells4 G.out.hr
      have f0 := arow_free G.out.hr 0
      have f1 := arow_free G.out.hr 1
      have f2 := arow_free G.out.hr 2
      have f3 := arow_free G.out.hr 3
      clear hu
      refine wpAny_ready (rs := [19]) (by kernel_rfl) (by simp) (AllReady.cons (o := ⟨none, .store 22 (.tmp 35) (.tmp 33), _, _, _, none⟩) rfl (fun K hK => ?_) AllReady.nil)
      go_simp
      refine hK _ _ ?_
      clear hK K
      refine wpAny_ready (rs := [20]) (by kernel_rfl) (by simp) (AllReady.cons (o := ⟨none, .store 24 (.tmp 5) (.tmp 34), _, _, _, none⟩) rfl (fun K hK => ?_) AllReady.nil)
      go_simp
      refine hK _ _ ?_
      clear hK K
      refine wpAny_done (by kernel_rfl) ?_ _
      have G2 := Lib.hid (G.out.stored j (u := .int .u64 (d (x / y) j)) (v0 := .int .u64 (d s 0)) (v1 := .int .u64 (d s 1)) (v2 := .int .u64 (d s 2)) (v3 := .int .u64 (d s 3)))
      clear hrk hfr r0 r1 r2 r3 f0 f1 f2 f3
      generalize (((((wd.setCell ⟨w.heap.size + 1 + 1, j, none⟩ (.int .u64 (d (x / y) j))).setCell ⟨w.heap.size + 1 + 1 + 1, 0, none⟩ (.int .u64 (d s 0))).setCell ⟨w.heap.size + 1 + 1 + 1, 1, none⟩ (.int .u64 (d s 1))).setCell ⟨w.heap.size + 1 + 1 + 1, 2, none⟩ (.int .u64 (d s 2))).setCell ⟨w.heap.size + 1 + 1 + 1, 3, none⟩ (.int .u64 (d s 3))) = wz at G2 ⊢
      go_wp2
      go_roundw
      case rel => exact ⟨j, s, R.setIfInBounds j _, by omega, by go_num, by simpa using hR, HS, Lib.hid (HR.out.next hR (by omega) rfl), G2⟩
      case measure => simp [intOf] <;> omega
    · have ek : k = 0 := by omega
      have HX := Lib.hid (show r = x % y by have := HE.out; rw [ek, div_zero'] at this; exact this)
      have HQ := Lib.hid (show From (x / y) 0 R by have := HR.out; rw [ek] at this; exact this)
      have hneg : ¬ 0 ≤ (k : Int) - 1 := by omega
      have hRQ : R = #[.int .u64 (d (x / y) 0), .int .u64 (d (x / y) 1), .int .u64 (d (x / y) 2), .int .u64 (d (x / y) 3)] := all_of hR HQ.out
      have RQ := Lib.hid (show wr.heap[w.heap.size + 1 + 1]? = some (.cells #[.int .u64 (d (x / y) 0), .int .u64 (d (x / y) 1), .int .u64 (d (x / y) 2), .int .u64 (d (x / y) 3)] 24 (0, 0)) by rw [← hRQ]; exact G.out.hq)
      have RR := Lib.hid G.out.hr
      have HB := Lib.hid G.out.hw
      clear ek hRQ hpos hk
      obtain ⟨q0, q1, q2, q3⟩ := cells4 RQ.out
      obtain ⟨r0, r1, r2, r3⟩ := cells4 RR.out
      have f0 := arow_free RQ.out 0
      have f1 := arow_free RQ.out 1
      have f2 := arow_free RQ.out 2
      have f3 := arow_free RQ.out 3
      have g0 := arow_free RR.out 0
      have g1 := arow_free RR.out 1
      have g2 := arow_free RR.out 2
      have g3 := arow_free RR.out 3
      have n1 := Lib.hid (show w.heap.size + 1 + 1 ≠ w.heap.size + 1 + 1 + 1 by omega)
      have n2 := Lib.hid (show w.heap.size + 1 + 1 + 1 ≠ w.heap.size + 1 + 1 by omega)
      go_wp2
      go_region_held3 (fun w' => w'.cell? ⟨w.heap.size + 1 + 1, 0, none⟩ = some (.int .u64 (d (x / y) 0)) ∧ w'.cell? ⟨w.heap.size + 1 + 1, 1, none⟩ = some (.int .u64 (d (x / y) 1)) ∧ w'.cell? ⟨w.heap.size + 1 + 1, 2, none⟩ = some (.int .u64 (d (x / y) 2)) ∧ w'.cell? ⟨w.heap.size + 1 + 1, 3, none⟩ = some (.int .u64 (d (x / y) 3)) ∧
          w'.cell? ⟨w.heap.size + 1 + 1 + 1, 0, none⟩ = some (.int .u64 (d r 0)) ∧ w'.cell? ⟨w.heap.size + 1 + 1 + 1, 1, none⟩ = some (.int .u64 (d r 1)) ∧ w'.cell? ⟨w.heap.size + 1 + 1 + 1, 2, none⟩ = some (.int .u64 (d r 2)) ∧ w'.cell? ⟨w.heap.size + 1 + 1 + 1, 3, none⟩ = some (.int .u64 (d r 3)))
        (((try simp only [World.cell?_drew]); first | (with_reducible exact cells44 RQ.out RR.out) | (with_reducible exact cells44 (set4 RQ.out) (far4 n1.out RR.out)) | (with_reducible exact cells44 (far4 n2.out (set4 RQ.out)) (set4 (far4 n1.out RR.out)))))
        (fail)
      go_wp2
      refine bodyPost_ret (v := .tuple #[.agg #[.int .u64 (d (x / y) 0), .int .u64 (d (x / y) 1), .int .u64 (d (x / y) 2), .int .u64 (d (x / y) 3)], .agg #[.int .u64 (d r 0), .int .u64 (d r 1), .int .u64 (d r 2), .int .u64 (d r 3)], .bool false]) ?_ rfl ⟨by rw [HX.out], ?_⟩
      · simp [results, Try.results26, go_sem, *]
      · have hN : w.heap.size ≤ w.heap.size + 1 + 1 := by omega
        have hM : w.heap.size ≤ w.heap.size + 1 + 1 + 1 := by omega
        exact (below_set4 (below_set4 HB.out hN) hM).drew
end Go.Proofs.Ytiglhgcckceikaa
