/- What is done to two numbers of 4 limbs, limb by limb: the result's limbs, and whether the last step carried. -/
import Derived.Test.YtiglhgcckceikaaWa
namespace Go.Proofs.Ytiglhgcckceikaa
open Go.RowKit

/-- a row of limbs out of a function -/
theorem row4 (a : Nat → Int) (k : Nat) (h : k < 4) : (#[.int .u64 (a 0), .int .u64 (a 1), .int .u64 (a 2), .int .u64 (a 3)] : Array Value)[k]? = some (.int .u64 (a k)) := by
  obtain rfl | rfl | rfl | rfl : k = 0 ∨ k = 1 ∨ k = 2 ∨ k = 3 := by omega
  all_goals rfl

set_option maxRecDepth 100000 in
set_option maxHeartbeats 1000000 in
theorem limb4_fn (g : Nat) (neg : Bool) (a b f : Nat → Int) (w : World) (hs : Steps g neg 4 a b f) :
    Calls Try.prog 33 #[.agg #[.int .u64 (a 0), .int .u64 (a 1), .int .u64 (a 2), .int .u64 (a 3)], .agg #[.int .u64 (b 0), .int .u64 (b 1), .int .u64 (b 2), .int .u64 (b 3)], .func (.func g) #[] #[]] w fun e w' =>
      e = .returned (.tuple #[.agg #[.int .u64 (d (sm f 4) 0), .int .u64 (d (sm f 4) 1), .int .u64 (d (sm f 4) 2), .int .u64 (d (sm f 4) 3)], .bool (sg neg (cy f 4) != 0)]) ∧ Below w.heap.size w w' := by
  have HS := Lib.hid hs
  clear hs
  go_enter Try.func33, Try.ntmps33
  go_wp2
  go_loopw [9, 10] (fun c i wr => ∃ k : Nat, ∃ R : Array Value, k ≤ 4 ∧ i = .int .i64 (k : Int) ∧ c = .int .u64 (sg neg (cy f k)) ∧ R.size = 4 ∧ Hid (Upto (sm f 4) k R) ∧
      Hid (L4 w.heap.size 24 #[.int .u64 (a 0), .int .u64 (a 1), .int .u64 (a 2), .int .u64 (a 3)] #[.int .u64 (b 0), .int .u64 (b 1), .int .u64 (b 2), .int .u64 (b 3)] R 4 wr) ∧ Below w.heap.size w wr)
    (fun _ i _ => 4 - (intOf i).toNat)
  case atStart => exact ⟨0, _, by omega, rfl, by rw [cy_zero]; cases neg <;> rfl, rfl, Lib.hid (fun j hj => by omega), Lib.hid (L4.start w _ _ _ _ _ _ rfl), below4' _ _ _ _ _⟩
  case round =>
    obtain ⟨k, R, hk, rfl, rfl, hR, HR, HL, hbe⟩ := hrel
    have h0 := (arow_cell HL.out.ha 0).trans rfl
    have h1 := (arow_cell HL.out.ha 1).trans rfl
    have h2 := (arow_cell HL.out.ha 2).trans rfl
    have h3 := (arow_cell HL.out.ha 3).trans rfl
    by_cases hlt : k < 4
    · have hak := (arow_cell HL.out.ha k).trans (row4 a k hlt)
      have hbk := (arow_cell HL.out.hb k).trans (row4 b k hlt)
      have hfr := arow_free HL.out.hr k
      obtain ⟨u, hu⟩ : ∃ u, R[k]? = some u := ⟨R[k], by simp⟩
      have hrk := (arow_cell HL.out.hr k).trans hu
      clear hu
      have hst := HS.out k hlt
      have m5 : 0 ≤ (k:Int) := by omega
      have m4 : (k:Int) < 4 := by omega
      have hn1 : w.heap.size + 1 + 1 + 1 ≠ w.heap.size := by omega
      have hn2 : w.heap.size + 1 + 1 + 1 ≠ w.heap.size + 1 := by omega
      go_wp2
      go_region_held3 (fun w' => w'.cell? ⟨w.heap.size, k, none⟩ = some (.int .u64 (a k)) ∧ w'.cell? ⟨w.heap.size + 1, k, none⟩ = some (.int .u64 (b k))) (first | (go_keep; done) | exact ⟨(World.cell?_setCell_far _ _ _ _ hn1).trans hak, (World.cell?_setCell_far _ _ _ _ hn2).trans hbk⟩) (fail)
      go_wp2
      go_roundw
      case rel =>
        exact ⟨k + 1, R.setIfInBounds k _, by omega, by go_num, rfl, by simpa using hR, Lib.hid (HR.out.next hR hlt), Lib.hid (HL.out.store k _).drew, (hbe.setCell (by show w.heap.size ≤ w.heap.size + 1 + 1 + 1; omega) _).drew⟩
      case measure => simp [intOf]; omega
    · have ek : Hid (k = 4) := Lib.hid (by omega)
      have r0 := (arow_cell HL.out.hr 0).trans (HR.out 0 (by omega))
      have r1 := (arow_cell HL.out.hr 1).trans (HR.out 1 (by omega))
      have r2 := (arow_cell HL.out.hr 2).trans (HR.out 2 (by omega))
      have r3 := (arow_cell HL.out.hr 3).trans (HR.out 3 (by omega))
      obtain ⟨⟨z0, o0⟩, f0⟩ := HL.out.out 0 (by omega)
      obtain ⟨⟨z1, o1⟩, f1⟩ := HL.out.out 1 (by omega)
      obtain ⟨⟨z2, o2⟩, f2⟩ := HL.out.out 2 (by omega)
      obtain ⟨⟨z3, o3⟩, f3⟩ := HL.out.out 3 (by omega)
      go_wp2
      refine bodyPost_ret (v := .tuple #[.agg #[.int .u64 (d (sm f 4) 0), .int .u64 (d (sm f 4) 1), .int .u64 (d (sm f 4) 2), .int .u64 (d (sm f 4) 3)], .bool (sg neg (cy f k) != 0)]) ?_ rfl ⟨by rw [ek.out], ?_⟩
      · simp [results, Try.results33, go_sem, *]
      · have hN : w.heap.size ≤ w.heap.size + 1 + 1 := by omega
        exact ((((hbe.setCell hN _).setCell hN _).setCell hN _).setCell hN _)
end Go.Proofs.Ytiglhgcckceikaa
