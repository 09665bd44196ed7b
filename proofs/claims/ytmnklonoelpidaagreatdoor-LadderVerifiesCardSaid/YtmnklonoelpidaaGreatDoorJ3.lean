/- The compression function returns the eight words that the rounds give, and leaves all memory below as it was. -/
import Derived.Test.YtmnklonoelpidaaGreatDoorJ2
import Derived.StillTailTactics
import Derived.Deep.QuietTactic
import Derived.BigQuiet
import Derived.Deep.RegionHeld3
namespace Go.Proofs.YtmnklonoelpidaaGreatDoor
open Go.RowKit

set_option maxRecDepth 100000 in
set_option maxHeartbeats 4000000 in
theorem with_fn (V B : Array Value) (v c K : Nat → BitVec 32) (w : World) (hb : ∀ i < 64, B[i]? = some (.int .u8 (tn (c i)))) (hv : ∀ i < 8, V[i]? = some (.int .u32 (tn (v i))))
    (hK : ∀ i < 64, w.cell? ⟨1, i, none⟩ = some (.int .u32 (tn (K i)))) (hsz : 1 < w.heap.size) :
    Calls Tryz.prog 139 #[.agg V, .agg B] w fun e w' =>
      e = .returned (.agg #[.int .u32 (tn (v 0 + (rounds K (sched c) ⟨v 0, v 1, v 2, v 3, v 4, v 5, v 6, v 7⟩ 64).a)), .int .u32 (tn (v 1 + (rounds K (sched c) ⟨v 0, v 1, v 2, v 3, v 4, v 5, v 6, v 7⟩ 64).b)),
        .int .u32 (tn (v 2 + (rounds K (sched c) ⟨v 0, v 1, v 2, v 3, v 4, v 5, v 6, v 7⟩ 64).c)), .int .u32 (tn (v 3 + (rounds K (sched c) ⟨v 0, v 1, v 2, v 3, v 4, v 5, v 6, v 7⟩ 64).d)),
        .int .u32 (tn (v 4 + (rounds K (sched c) ⟨v 0, v 1, v 2, v 3, v 4, v 5, v 6, v 7⟩ 64).e)), .int .u32 (tn (v 5 + (rounds K (sched c) ⟨v 0, v 1, v 2, v 3, v 4, v 5, v 6, v 7⟩ 64).f)),
        .int .u32 (tn (v 6 + (rounds K (sched c) ⟨v 0, v 1, v 2, v 3, v 4, v 5, v 6, v 7⟩ 64).g)), .int .u32 (tn (v 7 + (rounds K (sched c) ⟨v 0, v 1, v 2, v 3, v 4, v 5, v 6, v 7⟩ 64).h))]) ∧ Below w.heap.size w w' := by
  have HB := Lib.hid hb
  have HV := Lib.hid hv
  have HK := Lib.hid hK
  clear hb hv hK
  go_enter Tryz.func139, Tryz.ntmps139
  go_wp2
  go_loopw [7, 23] (fun _ i wr => ∃ k : Nat, ∃ R : Array Value, k ≤ 16 ∧ i = .int .i64 k ∧ R.size = 64 ∧ Hid (∀ j < k, R[j]? = some (.int .u32 (tn (sched c j)))) ∧ Lay w.heap.size V B R wr ∧ Below w.heap.size w wr)
     (fun _ i _ => 16 - (intOf i).toNat)
  case atStart => exact ⟨0, _, by omega, rfl, rfl, Lib.hid (fun j hj => absurd hj (Nat.not_lt_zero j)), lay_start w V B _ _ rfl, below4 _ _ _ _ _⟩
  case round =>
    obtain ⟨k0, R, hk0, rfl, hR, HR, hL, hbe⟩ := hrel
    by_cases hlt0 : k0 < 16
    · have b0 := (hL.cellB (4*k0)).trans (HB.out (4*k0) (by omega))
      have b1 := (hL.cellB (4*k0+1)).trans (HB.out (4*k0+1) (by omega))
      have b2 := (hL.cellB (4*k0+2)).trans (HB.out (4*k0+2) (by omega))
      have b3 := (hL.cellB (4*k0+3)).trans (HB.out (4*k0+3) (by omega))
      obtain ⟨u, hu⟩ : ∃ u, R[k0]? = some u := ⟨R[k0], by simp⟩
      have r0 := (hL.cellR k0).trans hu
      clear hu
      have r1 := (hL.frR k0)
      obtain ⟨i0, j0, l0⟩ := idx (4 * (k0:Int)) (4*k0) (by omega) (by omega)
      obtain ⟨i1, j1, l1⟩ := idx (4 * (k0:Int) + 1) (4*k0+1) (by omega) (by omega)
      obtain ⟨i2, j2, l2⟩ := idx (4 * (k0:Int) + 2) (4*k0+2) (by omega) (by omega)
      obtain ⟨i3, j3, l3⟩ := idx (4 * (k0:Int) + 3) (4*k0+3) (by omega) (by omega)
      have m0 : (4 * (k0:Int)) < 64 := by omega
      have m1 : (4 * (k0:Int) + 1) < 64 := by omega
      have m2 : (4 * (k0:Int) + 2) < 64 := by omega
      have m3 : (4 * (k0:Int) + 3) < 64 := by omega
      have m4 : (k0:Int) < 64 := by omega
      have m5 : 0 ≤ (k0:Int) := by omega
      go_wp2
      go_still_tail 31, (by kernel_rfl)
      change wpList _ _ _ _ _ wr.drew
      clear i0 j0 l0 i1 j1 l1 i2 j2 l2 i3 j3 l3 m0 m1 m2 m3
      go_wp2
      go_roundw
      case rel =>
        rw [word0_eq, ← sched_lo c k0 hlt0]
        exact ⟨k0 + 1, R.setIfInBounds k0 _, by omega, by go_num, by simpa using hR, Lib.hid (filled hR (by omega) HR.out), (hL.store k0 _).drew, (hbe.setCell (by show w.heap.size ≤ w.heap.size + 1 + 1 + 1; omega) _).drew⟩
      case measure => simp [intOf]; omega
    · have ek : Hid (k0 = 16) := Lib.hid (by omega)
      go_wp2
      go_loopw [8, 9, 10] (fun i _ _ wr => ∃ k : Nat, ∃ R : Array Value, 16 ≤ k ∧ k ≤ 64 ∧ i = .int .i64 k ∧ R.size = 64 ∧ Hid (∀ j < k, R[j]? = some (.int .u32 (tn (sched c j)))) ∧ Lay w.heap.size V B R wr ∧ Below w.heap.size w wr)
         (fun i _ _ _ => 64 - (intOf i).toNat)
      case atStart => exact ⟨16, R, by omega, by omega, rfl, hR, ek.out ▸ HR, hL, hbe⟩
      case round =>
        clear HR hL hbe hR
        obtain ⟨k, R, hk1, hk2, rfl, hR, HR, hL, hbe⟩ := hrel
        by_cases hlt : k < 64
        · have r2 := (hL.cellR (k-2)).trans (HR.out (k-2) (by omega))
          have r15 := (hL.cellR (k-15)).trans (HR.out (k-15) (by omega))
          obtain ⟨i0, j0, l0⟩ := idx ((k:Int) - 2) (k-2) (by omega) (by omega)
          obtain ⟨i1, j1, l1⟩ := idx ((k:Int) - 15) (k-15) (by omega) (by omega)
          obtain ⟨i2, j2, l2⟩ := idx ((k:Int) - 16) (k-16) (by omega) (by omega)
          obtain ⟨i3, j3, l3⟩ := idx ((k:Int) - 7) (k-7) (by omega) (by omega)
          have m0 : ((k:Int) - 2) < 64 := by omega
          have m1 : ((k:Int) - 15) < 64 := by omega
          have m2 : ((k:Int) - 16) < 64 := by omega
          have m3 : ((k:Int) - 7) < 64 := by omega
          have m4 : (k:Int) < 64 := by omega
          have m5 : 0 ≤ (k:Int) := by omega
          go_wp2
          go_quiet (fail)
          go_wp2
          clear i0 j0 l0 i1 j1 l1 m0 m1 r2 r15
          have hn16 := Lib.hid (show k ≠ k - 16 by omega)
          have hn7 := Lib.hid (show k ≠ k - 7 by omega)
          have hL2 := hL.drewN nq
          have hbe2 := Below_drewN hbe nq
          clear hL hbe
          generalize wr.drewN nq = wq at *
          have r16 := (hL2.cellR (k-16)).trans (HR.out (k-16) (by omega))
          have r7 := (hL2.cellR (k-7)).trans (HR.out (k-7) (by omega))
          obtain ⟨u, hu⟩ : ∃ u, R[k]? = some u := ⟨R[k], by simp⟩
          have r0 := (hL2.cellR k).trans hu
          clear hu
          have r1 := (hL2.frR k)
          have hz := hL2.size
          have hz1 : w.heap.size + 1 + 1 + 1 < wq.heap.size := hz
          have hz2 : w.heap.size + 1 + 1 + 1 < wq.heap.size + 1 := by omega
          clear hz
          have n2 : (16 : Int) ≤ (k:Int) := by omega
          have n3 : (7 : Int) ≤ (k:Int) := by omega
          go_region_held3 (fun w' => w'.cell? ⟨w.heap.size + 1 + 1 + 1, k-16, none⟩ = some (.int .u32 (tn (sched c (k-16)))) ∧ w'.cell? ⟨w.heap.size + 1 + 1 + 1, k-7, none⟩ = some (.int .u32 (tn (sched c (k-7)))))
            (first | (go_keep; done) | exact ⟨keep_store hz1 hn16.out r16, keep_store hz1 hn7.out r7⟩)
            (first
              | (go_at_call 167; refine (turned_7_18 _ _ _ ?_ ?_).mono ?_; (focus (go_simp; done)); (focus (go_simp; done)); rintro e w' ⟨rfl, rfl⟩)
              | (go_at_call 167; refine (turned_17_19 _ _ _ ?_ ?_).mono ?_; (focus (go_simp; done)); (focus (go_simp; done)); rintro e w' ⟨rfl, rfl⟩))
          all_goals
            go_wp2
            go_roundw
            case rel =>
              simp only [shr3, shr10, bits_xor_u32, add_u32]
              rw [sched_eq c k hk1]
              exact ⟨k + 1, R.setIfInBounds k _, by omega, by omega, by go_num, by simpa using hR, Lib.hid (filled hR hlt HR.out), (((hL2.store k _).alloc _).alloc _).drew, (((hbe2.setCell (by show w.heap.size ≤ w.heap.size + 1 + 1 + 1; omega) _).alloc (by have := hL2.size; simp; omega) _).alloc (by have := hL2.size; simp; omega) _).drew⟩
            case measure => simp [intOf]; omega
        · have ek2 : Hid (k = 64) := Lib.hid (by omega)
          have v0 := (hL.cellV 0).trans (HV.out 0 (by omega))
          have v1 := (hL.cellV 1).trans (HV.out 1 (by omega))
          have v2 := (hL.cellV 2).trans (HV.out 2 (by omega))
          have v3 := (hL.cellV 3).trans (HV.out 3 (by omega))
          have v4 := (hL.cellV 4).trans (HV.out 4 (by omega))
          have v5 := (hL.cellV 5).trans (HV.out 5 (by omega))
          have v6 := (hL.cellV 6).trans (HV.out 6 (by omega))
          have v7 := (hL.cellV 7).trans (HV.out 7 (by omega))
          go_wp2
          go_quiet (fail)
          have hL2 := hL.drewN nq
          have hbe2 := Below_drewN hbe nq
          clear hL hbe v0 v1 v2 v3 v4 v5 v6 v7
          generalize wr.drewN nq = wq at *
          have hi60 : (Tryz.prog.info? 205).map (·.size) = some R.size := by rw [hR]; kernel_rfl
          have HI := Lib.hid hi60
          clear hi60
          go_wp2_with (refine wpList_load_row rfl 205 _ rfl _ rfl 205 R (0, 0) _ hL2.hr Tryz.underlying205 rfl HI.out ?_)
          go_loopw [11, 12, 13, 14, 15, 16, 17, 18, 19, 20, 21, 22, 114] (fun a b c' d e f g h _ _ _ _ i wr => ∃ j : Nat, j ≤ 64 ∧ i = .int .i64 j ∧ ∃ s : St, Hid (s = rounds K (sched c) ⟨v 0, v 1, v 2, v 3, v 4, v 5, v 6, v 7⟩ j) ∧
              a = .int .u32 (tn s.a) ∧ b = .int .u32 (tn s.b) ∧ c' = .int .u32 (tn s.c) ∧ d = .int .u32 (tn s.d) ∧ e = .int .u32 (tn s.e) ∧ f = .int .u32 (tn s.f) ∧ g = .int .u32 (tn s.g) ∧ h = .int .u32 (tn s.h) ∧
              Lay w.heap.size V B R wr ∧ Below w.heap.size w wr)
            (fun _ _ _ _ _ _ _ _ _ _ _ _ i _ => 64 - (intOf i).toNat)
          case atStart => exact ⟨0, by omega, rfl, _, Lib.hid rfl, rfl, rfl, rfl, rfl, rfl, rfl, rfl, rfl, hL2, hbe2⟩
          case round =>
            clear hL2 hbe2
            obtain ⟨j, hj, rfl, s, Hs, rfl, rfl, rfl, rfl, rfl, rfl, rfl, rfl, hL, hbe⟩ := hrel
            by_cases hjl : j < 64
            · have hx := run_index60 R j _ hjl (HR.out j (by have := ek2.out; omega))
              have kc := (hbe.cell (p := ⟨1, j, none⟩) hsz).trans (HK.out j hjl)
              have m4 : (j:Int) < 64 := by omega
              have m5 : 0 ≤ (j:Int) := by omega
              have hz := hL.size
              have hz1 : 1 < wr.heap.size := by omega
              have hz2 : 1 < wr.heap.size + 1 := by omega
              go_wp2
              go_region_held3 (fun w' => w'.cell? ⟨1, j, none⟩ = some (.int .u32 (tn (K j))))
                (go_keep)
                (first
                  | (go_at_call 167; refine (turned_6_11_25 _ _ _ ?_ ?_ ?_).mono ?_; (focus (go_simp; done)); (focus (go_simp; done)); (focus (go_simp; done)); rintro e w' ⟨rfl, rfl⟩))
              go_wp2_with (go_at_call 167; refine (turned_2_13_22 _ _ _ ?_ ?_ ?_).mono ?_; (focus (go_simp; done)); (focus (go_simp; done)); (focus (go_simp; done)); rintro e w' ⟨rfl, rfl⟩)
              go_roundw
              case rel =>
                simp only [not_u32, bits_and_u32, bits_or_u32, add_u32]
                exact ⟨j + 1, by omega, by go_num, stepS s (K j) (sched c j), Lib.hid (by rw [Hs.out]; rfl), rfl, rfl, rfl, rfl, rfl, rfl, rfl, rfl, ((hL.alloc _).alloc _).drew, ((hbe.alloc (by omega) _).alloc (by simp; omega) _).drew⟩
              case measure => simp [intOf]; omega
            · have ej : Hid (j = 64) := Lib.hid (by omega)
              have v0 := (hL.cellV 0).trans (HV.out 0 (by omega))
              have v1 := (hL.cellV 1).trans (HV.out 1 (by omega))
              have v2 := (hL.cellV 2).trans (HV.out 2 (by omega))
              have v3 := (hL.cellV 3).trans (HV.out 3 (by omega))
              have v4 := (hL.cellV 4).trans (HV.out 4 (by omega))
              have v5 := (hL.cellV 5).trans (HV.out 5 (by omega))
              have v6 := (hL.cellV 6).trans (HV.out 6 (by omega))
              have v7 := (hL.cellV 7).trans (HV.out 7 (by omega))
              obtain ⟨⟨z0, o0⟩, f0⟩ := hL.outAt 0 (by omega)
              obtain ⟨⟨z1, o1⟩, f1⟩ := hL.outAt 1 (by omega)
              obtain ⟨⟨z2, o2⟩, f2⟩ := hL.outAt 2 (by omega)
              obtain ⟨⟨z3, o3⟩, f3⟩ := hL.outAt 3 (by omega)
              obtain ⟨⟨z4, o4⟩, f4⟩ := hL.outAt 4 (by omega)
              obtain ⟨⟨z5, o5⟩, f5⟩ := hL.outAt 5 (by omega)
              obtain ⟨⟨z6, o6⟩, f6⟩ := hL.outAt 6 (by omega)
              obtain ⟨⟨z7, o7⟩, f7⟩ := hL.outAt 7 (by omega)
              have HS : Hid (rounds K (sched c) ⟨v 0, v 1, v 2, v 3, v 4, v 5, v 6, v 7⟩ 64 = s) := Lib.hid (by rw [Hs.out, ej.out])
              go_wp2
              rw [HS.out]
              simp only [add_u32]
              refine bodyPost_ret (v := .agg #[.int .u32 (tn (v 0 + s.a)), .int .u32 (tn (v 1 + s.b)), .int .u32 (tn (v 2 + s.c)), .int .u32 (tn (v 3 + s.d)), .int .u32 (tn (v 4 + s.e)), .int .u32 (tn (v 5 + s.f)), .int .u32 (tn (v 6 + s.g)), .int .u32 (tn (v 7 + s.h))]) ?_ rfl ⟨rfl, ?_⟩
              · simp [results, Tryz.results139, go_sem, *]
              · have hN : w.heap.size ≤ w.heap.size + 1 + 1 := by omega
                exact (((((((hbe.setCell hN _).setCell hN _).setCell hN _).setCell hN _).setCell hN _).setCell hN _).setCell hN _).setCell hN _
end Go.Proofs.YtmnklonoelpidaaGreatDoor
