/- A number of four limbs moved down, by the program. -/
import Derived.Test.YtiglhgcckceikaaWf
namespace Go.Proofs.Ytiglhgcckceikaa
open Go.RowKit

set_option maxRecDepth 100000 in
set_option maxHeartbeats 2000000 in
theorem down4_any (A : Array Value) (x : Int) (n : Nat) (w : World) (hA : A = #[.int .u64 (d x 0), .int .u64 (d x 1), .int .u64 (d x 2), .int .u64 (d x 3)]) (hx : In 4 x) (hn : n < 1000) :
    Calls Try.prog 48 #[.agg A, .int .u64 (n : Int)] w fun e w' => e = .returned (.agg #[.int .u64 (d (dnI x n) 0), .int .u64 (d (dnI x n) 1), .int .u64 (d (dnI x n) 2), .int .u64 (d (dnI x n) 3)]) ∧ Below w.heap.size w w' := by
  subst hA
  obtain ⟨L, hL⟩ : ∃ L, n / 64 = L := ⟨_, rfl⟩
  have e1 : (n : Int) / 64 = (L : Int) := by omega
  have hL1 : L < 20 := by omega
  have hp1 : n % 64 < 64 := by omega
  have HL := Lib.hid hL
  clear hL
  go_enter Try.func48, Try.ntmps48
  go_wp2
  clear e1
  go_loopw [8] (fun i wr => ∃ j : Nat, ∃ R : Array Value, (L + j ≤ 4 ∨ j = 0) ∧ i = .int .i64 ((L : Int) + (j : Int)) ∧ R.size = 4 ∧ Hid (Low (dnI x n) j 4 R) ∧
      Hid (L3 w.heap.size 24 #[.int .u64 (d x 0), .int .u64 (d x 1), .int .u64 (d x 2), .int .u64 (d x 3)] R 4 wr) ∧ Below w.heap.size w wr)
    (fun i _ => (4 - intOf i).toNat)
  case atStart => exact ⟨0, _, .inr rfl, by go_num, rfl, Lib.hid (Low.start zero4), Lib.hid (L3.start w _ _ _ _ _ rfl), below3' _ _ _ _⟩
  case round =>
    obtain ⟨j, R, hk, rfl, hR, HR, HA, hbe⟩ := hrel
    have h0 := (arow_cell HA.out.ha 0).trans (atQ4 x 0 (by omega))
    have h1 := (arow_cell HA.out.ha 1).trans (atQ4 x 1 (by omega))
    have h2 := (arow_cell HA.out.ha 2).trans (atQ4 x 2 (by omega))
    have h3 := (arow_cell HA.out.ha 3).trans (atQ4 x 3 (by omega))
    by_cases hlt : L + j < 4
    · have haj := (arow_cell HA.out.ha (L + j)).trans (atQ4 x (L + j) (by omega))
      have l1 : (L : Int) + (j : Int) < 4 := by omega
      have l2 : 0 ≤ (L : Int) + (j : Int) := by omega
      have l3 : ((L : Int) + (j : Int)).toNat = L + j := by omega
      have l4 : (j : Int) < 4 := by omega
      have l5 : (0 : Int) ≤ (j : Int) := by omega
      have hfr := arow_free HA.out.hr j
      obtain ⟨u, hu⟩ : ∃ u, R[j]? = some u := ⟨R[j], by simp⟩
      have hrk := (arow_cell HA.out.hr j).trans hu
      clear hu
      by_cases hj : L + j + 1 < 4
      · have l6 : (L : Int) + (j : Int) + 1 < 4 := by omega
        go_wp2
        have HA2 := Lib.hid (HA.out.store j (Value.int IntKind.u64 (d x (L + j) / 2 ^ (n % 64))))
        have hb2 := hbe.setCell (show w.heap.size ≤ (⟨w.heap.size + 1 + 1, j, none⟩ : Addr).block by show w.heap.size ≤ w.heap.size + 1 + 1; omega) (Value.int IntKind.u64 (d x (L + j) / 2 ^ (n % 64)))
        clear HA hbe h0 h1 h2 h3 haj hfr hrk
        generalize wr.setCell ⟨w.heap.size + 1 + 1, j, none⟩ (Value.int IntKind.u64 (d x (L + j) / 2 ^ (n % 64))) = wq at *
        have haq := (arow_cell HA2.out.ha (L + j + 1)).trans (atQ4 x (L + j + 1) (by omega))
        have hfr := arow_free HA2.out.hr j
        have hrk := (arow_cell HA2.out.hr j).trans (Array.getElem?_setIfInBounds_self_of_lt (by omega))
        have w1 : IntKind.i64.wrap ((L : Int) + (j : Int) - (L : Int)) = (j : Int) := by rw [IntWalk.i64_in _ (by omega)]; omega
        have w2 : IntKind.i64.wrap ((L : Int) + (j : Int) + 1) = (L : Int) + (j : Int) + 1 := by rw [IntWalk.i64_in _ (by omega)]
        have w3 : ((L : Int) + (j : Int) + 1).toNat = L + j + 1 := by omega
        have w6 : 0 ≤ (L : Int) + (j : Int) + 1 := by omega
        have w4 : IntKind.u64.wrap (64 - (n : Int) % 64) = 64 - (n : Int) % 64 := by rw [wrapU64]; omega
        have w5 : (64 - (n : Int) % 64).toNat = 64 - n % 64 := by omega
        have w7 : 0 ≤ 64 - (n : Int) % 64 := by omega
        go_still_tail 14, (by kernel_rfl)
        change wpList _ _ _ _ _ (World.drew _)
        go_wp2
        go_roundw
        case rel =>
          refine ⟨j + 1, _, .inl (by omega), by go_num, ?_, ?_, Lib.hid (HA2.out.store j _).drew, (hb2.setCell (by show w.heap.size ≤ w.heap.size + 1 + 1; omega) _).drew⟩
          · simpa using hR
          · rw [set_twice]
            exact Lib.hid (HR.out.next hR (by omega) (by rw [wrapU64, down_other x n L j HL.out]))
        case measure => simp [intOf] <;> omega
      · have l6 : ¬ (L : Int) + (j : Int) + 1 < 4 := by omega
        go_wp2
        go_roundw
        case rel => exact ⟨j + 1, _, .inl (by omega), by go_num, by simpa using hR, Lib.hid (HR.out.next hR (by omega) (by rw [down_top x n L j 4 hx HL.out (by omega)])), Lib.hid (HA.out.store j _), hbe.setCell (by show w.heap.size ≤ w.heap.size + 1 + 1; omega) _⟩
        case measure => simp [intOf] <;> omega
    · have HU := Lib.hid (HR.out.done hx HL.out (by omega))
      have r0 := (arow_cell HA.out.hr 0).trans (HU.out 0 (by omega))
      have r1 := (arow_cell HA.out.hr 1).trans (HU.out 1 (by omega))
      have r2 := (arow_cell HA.out.hr 2).trans (HU.out 2 (by omega))
      have r3 := (arow_cell HA.out.hr 3).trans (HU.out 3 (by omega))
      obtain ⟨⟨z0, o0⟩, f0⟩ := HA.out.out 0 (by omega)
      obtain ⟨⟨z1, o1⟩, f1⟩ := HA.out.out 1 (by omega)
      obtain ⟨⟨z2, o2⟩, f2⟩ := HA.out.out 2 (by omega)
      obtain ⟨⟨z3, o3⟩, f3⟩ := HA.out.out 3 (by omega)
      have hge : ¬ (L : Int) + (j : Int) < 4 := by omega
      go_wp2
      refine bodyPost_ret (v := .agg #[.int .u64 (d (dnI x n) 0), .int .u64 (d (dnI x n) 1), .int .u64 (d (dnI x n) 2), .int .u64 (d (dnI x n) 3)]) ?_ rfl ⟨rfl, ?_⟩
      · simp [results, Try.results48, go_sem, *]
      · have hN : w.heap.size ≤ w.heap.size + 1 := by omega
        exact (((hbe.setCell hN _).setCell hN _).setCell hN _).setCell hN _
end Go.Proofs.Ytiglhgcckceikaa
