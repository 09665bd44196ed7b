/- A number of four limbs moved up, by the program. -/
import Derived.Test.YtiglhgcckceikaaWf
namespace Go.Proofs.Ytiglhgcckceikaa
open Go.RowKit

set_option maxRecDepth 100000 in
set_option maxHeartbeats 2000000 in
theorem up4_any (A : Array Value) (x : Int) (n : Nat) (w : World) (hA : A = #[.int .u64 (d x 0), .int .u64 (d x 1), .int .u64 (d x 2), .int .u64 (d x 3)]) (hn : n < 1000) :
    Calls Try.prog 47 #[.agg A, .int .u64 (n : Int)] w fun e w' => e = .returned (.agg #[.int .u64 (d (upI x n) 0), .int .u64 (d (upI x n) 1), .int .u64 (d (upI x n) 2), .int .u64 (d (upI x n) 3)]) ∧ Below w.heap.size w w' := by
  subst hA
  obtain ⟨L, hL⟩ : ∃ L, n / 64 = L := ⟨_, rfl⟩
  have e1 : (n : Int) / 64 = (L : Int) := by omega
  have hL1 : L < 20 := by omega
  have hp1 : n % 64 < 64 := by omega
  have HL := Lib.hid hL
  clear hL
  go_enter Try.func47, Try.ntmps47
  go_wp2
  clear e1
  go_loopw [8] (fun i wr => ∃ j : Nat, ∃ R : Array Value, (L + j ≤ 4 ∨ j = 0) ∧ i = .int .i64 ((L : Int) + (j : Int)) ∧ R.size = 4 ∧ Hid (Upto (upI x n) (min (L + j) 4) R) ∧
      Hid (L3 w.heap.size 24 #[.int .u64 (d x 0), .int .u64 (d x 1), .int .u64 (d x 2), .int .u64 (d x 3)] R 4 wr) ∧ Below w.heap.size w wr)
    (fun i _ => (4 - intOf i).toNat)
  case atStart => exact ⟨0, _, .inr rfl, by go_num, rfl, Lib.hid (up_start x n L _ 4 HL.out zero4), Lib.hid (L3.start w _ _ _ _ _ rfl), below3' _ _ _ _⟩
  case round =>
    obtain ⟨j, R, hk, rfl, hR, HR, HA, hbe⟩ := hrel
    have h0 := (arow_cell HA.out.ha 0).trans (atQ4 x 0 (by omega))
    have h1 := (arow_cell HA.out.ha 1).trans (atQ4 x 1 (by omega))
    have h2 := (arow_cell HA.out.ha 2).trans (atQ4 x 2 (by omega))
    have h3 := (arow_cell HA.out.ha 3).trans (atQ4 x 3 (by omega))
    by_cases hlt : L + j < 4
    · have haj := (arow_cell HA.out.ha j).trans (atQ4 x j (by omega))
      have l1 : (L : Int) + (j : Int) < 4 := by omega
      have l2 : 0 ≤ (L : Int) + (j : Int) := by omega
      have l3 : ((L : Int) + (j : Int)).toNat = L + j := by omega
      have hfr := arow_free HA.out.hr (L + j)
      obtain ⟨u, hu⟩ : ∃ u, R[L + j]? = some u := ⟨R[L + j], by simp⟩
      have hrk := (arow_cell HA.out.hr (L + j)).trans hu
      clear hu
      by_cases hj : j = 0
      · have HJ := Lib.hid (show Upto (upI x n) (min L 4) R by have := HR.out; rw [hj] at this; exact this)
        rw [show (L : Int) + (j : Int) = (L : Int) by omega]
        rw [show L + j = L by omega] at hfr hrk
        rw [hj] at haj
        have l4 : (L : Int) < 4 := by omega
        clear l1 l2 l3 hk HR hlt
        go_wp2
        go_roundw
        case rel => exact ⟨1, R.setIfInBounds L _, .inl (by omega), by go_num, by simpa using hR, Lib.hid (HJ.out.min_next hR (by omega) (by rw [wrapU64, up_first x n L HL.out])), Lib.hid (HA.out.store L _), hbe.setCell (by show w.heap.size ≤ w.heap.size + 1 + 1; omega) _⟩
        case measure => simp [intOf] <;> omega
      · obtain ⟨q, rfl⟩ : ∃ q, j = q + 1 := ⟨j - 1, by omega⟩
        go_wp2
        have HA2 := Lib.hid (HA.out.store (L + (q + 1)) (Value.int IntKind.u64 (IntKind.u64.wrap (d x (q + 1) * 2 ^ (n % 64)))))
        have hb2 := hbe.setCell (show w.heap.size ≤ (⟨w.heap.size + 1 + 1, L + (q + 1), none⟩ : Addr).block by show w.heap.size ≤ w.heap.size + 1 + 1; omega) (Value.int IntKind.u64 (IntKind.u64.wrap (d x (q + 1) * 2 ^ (n % 64))))
        clear HA hbe h0 h1 h2 h3 haj hfr hrk
        generalize wr.setCell ⟨w.heap.size + 1 + 1, L + (q + 1), none⟩ (Value.int IntKind.u64 (IntKind.u64.wrap (d x (q + 1) * 2 ^ (n % 64)))) = wq at *
        have haq := (arow_cell HA2.out.ha q).trans (atQ4 x q (by omega))
        have hfr := arow_free HA2.out.hr (L + (q + 1))
        have hrk := (arow_cell HA2.out.hr (L + (q + 1))).trans (Array.getElem?_setIfInBounds_self_of_lt (by omega))
        have t1 : (L : Int) + ((q : Int) + 1) < 4 := by omega
        have t2 : 0 ≤ (L : Int) + ((q : Int) + 1) := by omega
        have t3 : ((L : Int) + ((q : Int) + 1)).toNat = L + (q + 1) := by omega
        have w1 : IntKind.i64.wrap ((L : Int) + ((q : Int) + 1) - (L : Int)) = (q : Int) + 1 := by rw [IntWalk.i64_in _ (by omega)]; omega
        have w2 : IntKind.i64.wrap ((q : Int) + 1 - 1) = (q : Int) := by rw [IntWalk.i64_in _ (by omega)]; omega
        have w3 : IntKind.i64.wrap (q : Int) = (q : Int) := IntWalk.i64_in _ (by omega)
        have w4 : IntKind.u64.wrap (64 - (n : Int) % 64) = 64 - (n : Int) % 64 := by rw [wrapU64]; omega
        have w5 : (64 - (n : Int) % 64).toNat = 64 - n % 64 := by omega
        have w6 : 0 ≤ 64 - (n : Int) % 64 := by omega
        have q1 : (q : Int) < 4 := by omega
        have q2 : 0 ≤ (q : Int) := by omega
        go_still_tail 14, (by kernel_rfl)
        change wpList _ _ _ _ _ (World.drew _)
        go_wp2
        go_roundw
        case rel =>
          refine ⟨q + 1 + 1, _, .inl (by omega), by go_num, ?_, ?_, Lib.hid (HA2.out.store (L + (q + 1)) _).drew, (hb2.setCell (by show w.heap.size ≤ w.heap.size + 1 + 1; omega) _).drew⟩
          · simpa using hR
          · rw [set_twice]
            exact Lib.hid (HR.out.min_next hR hlt (by rw [wrapU64, up_other x n L q HL.out]))
        case measure => simp [intOf] <;> omega
    · have em : min (L + j) 4 = 4 := by omega
      have HU := Lib.hid (show Upto (upI x n) 4 R by have := HR.out; rw [em] at this; exact this)
      clear em
      have r0 := (arow_cell HA.out.hr 0).trans (HU.out 0 (by omega))
      have r1 := (arow_cell HA.out.hr 1).trans (HU.out 1 (by omega))
      have r2 := (arow_cell HA.out.hr 2).trans (HU.out 2 (by omega))
      have r3 := (arow_cell HA.out.hr 3).trans (HU.out 3 (by omega))
      obtain ⟨⟨z0, o0⟩, f0⟩ := HA.out.out 0 (by omega)
      obtain ⟨⟨z1, o1⟩, f1⟩ := HA.out.out 1 (by omega)
      obtain ⟨⟨z2, o2⟩, f2⟩ := HA.out.out 2 (by omega)
      obtain ⟨⟨z3, o3⟩, f3⟩ := HA.out.out 3 (by omega)
      have hge : ¬ (L : Int) + (j : Int) < 4 := by omega
      go_wp2
      refine bodyPost_ret (v := .agg #[.int .u64 (d (upI x n) 0), .int .u64 (d (upI x n) 1), .int .u64 (d (upI x n) 2), .int .u64 (d (upI x n) 3)]) ?_ rfl ⟨rfl, ?_⟩
      · simp [results, Try.results47, go_sem, *]
      · have hN : w.heap.size ≤ w.heap.size + 1 := by omega
        exact (((hbe.setCell hN _).setCell hN _).setCell hN _).setCell hN _
end Go.Proofs.Ytiglhgcckceikaa
