/- The law's told: an error that a call answers, and the fault that it should be. -/
import Derived.Test.YtbkiijndhjmkdaaGreatDoorJ3
import Derived.Test.YtbkiijndhjmkdaaGreatDoorJ5
import Derived.Test.YtbkiijndhjmkdaaGreatDoorJ1
import Derived.Deep.QuietTactic
import Derived.Deep.RegionHeld3
import Derived.Deep.Cut
namespace Go.Proofs.YtbkiijndhjmkdaaGreatDoor
open Go.RowKit Go.Extern.Stop Go.Stop Go.Extern

/-- errors.As at a pointer in memory that is a fault's -/
theorem as_any (f P : Nat) (wz : World) (hg : GlobE wz) (hP : wz.heap[P]? = some (.cells #[.pointer none] 106 (0, 0))) :
    Calls Tryz.prog 49 #[.iface 106 (.pointer (some ⟨f, 0, none⟩)), .iface 108 (.pointer (some ⟨P, 0, none⟩))] wz fun e w' => e = .returned (.bool true) ∧ w'.cell? ⟨P, 0, none⟩ = some (.pointer (some ⟨f, 0, none⟩)) ∧ Only P wz w' := by
  refine (as_hit ⟨f, 0, none⟩ ⟨P, 0, none⟩ (.pointer none) wz hg ((lit_cell hP 0).trans rfl) (lit_free hP 0)).mono ?_
  rintro e w' ⟨rfl, rfl⟩
  refine ⟨rfl, (lit_cell (lit_set _ (lit_old _ (lit_old _ (lit_old _ (lit_old _ hP))))) 0).trans rfl, (Only.of_below ?_).trans (Only.set P 0 _ _)⟩
  exact ((((Below.refl _ _).alloc (Nat.le_refl _) _).alloc (by simp) _).alloc (by simp; omega) _).alloc (by simp; omega) _

set_option maxRecDepth 100000 in
set_option maxHeartbeats 4000000 in
theorem lawtold_any (lo : Nat) (c a a2 : Int) (v : Value) (w : World) (hg : GlobE w) (hv : ErrV lo c a v w) (ha : c ≠ 0 → a2 = a) :
    Calls Tryz.prog 16 #[v, .agg #[.int .i64 c, .int .i64 a2]] w fun e w' => e = .returned (.bool true) ∧ Below w.heap.size w w' := by
  have hN := heap_alloc_new w (.cells #[.int .i64 c, .int .i64 a2] 38)
  have hb0 : Below w.heap.size w (w.alloc (.cells #[.int .i64 c, .int .i64 a2] 38)) := by0 w _
  have hv1 := hv.next hb0
  have hg1 := hg.next hb0
  have hz1 : (w.alloc (.cells #[.int .i64 c, .int .i64 a2] 38)).heap.size = w.heap.size + 1 := by simp
  have p0 := (lit_cell hN 0).trans rfl
  have p1 := (lit_cell hN 1).trans rfl
  clear hv hg
  by_cases hc : c = 0
  · unfold ErrV at hv1
    rw [if_pos hc] at hv1
    subst hv1 hc
    go_enter Tryz.func16, Tryz.ntmps16
    go_upto_region 1 with fail
    change Code.wp _ _ _ _ (w.alloc (.cells #[.int .i64 0, .int .i64 a2] 38))
    generalize w.alloc (.cells #[.int .i64 0, .int .i64 a2] 38) = w1 at *
    go_wp2
    go_ret
    exact ⟨rfl, hb0⟩
  · unfold ErrV at hv1
    rw [if_neg hc] at hv1
    obtain rfl := ha hc
    obtain ⟨f, _, rfl, h0, h1⟩ := hv1
    have hc0 : (c == 0) = false := by simpa using hc
    go_enter Tryz.func16, Tryz.ntmps16
    go_upto_region 1 with fail
    change Code.wp _ _ _ _ (w.alloc (.cells #[.int .i64 c, .int .i64 a2] 38))
    generalize w.alloc (.cells #[.int .i64 c, .int .i64 a2] 38) = w1 at *
    have hfl : f < w1.heap.size := World.block_lt_of_cell? w1 _ h0
    have HA := Lib.hid (show ∀ wz, Below (w1.alloc (.cells #[.pointer none] 106)).heap.size (w1.alloc (.cells #[.pointer none] 106)) wz → Calls Tryz.prog 49 #[.iface 106 (.pointer (some ⟨f, 0, none⟩)), .iface 108 (.pointer (some ⟨w1.heap.size, 0, none⟩))] wz (fun e w' => e = .returned (.bool true) ∧ w'.cell? ⟨w1.heap.size, 0, none⟩ = some (.pointer (some ⟨f, 0, none⟩)) ∧ w'.cell? ⟨f, 0, none⟩ = some (.int .i64 c) ∧ w'.cell? ⟨f, 1, none⟩ = some (.int .i64 a2) ∧ w'.cell? ⟨w.heap.size, 0, none⟩ = some (.int .i64 c) ∧ w'.cell? ⟨w.heap.size, 1, none⟩ = some (.int .i64 a2) ∧ Below w.heap.size w w') from fun wz hz => by
      have hbA : Below w1.heap.size w1 wz := (by0 w1 (.cells #[.pointer none] 106)).trans (hz.mono (by simp))
      refine (as_any f w1.heap.size wz (hg1.next hbA) ((hz.block _ (by simp)).trans (heap_alloc_new w1 _))).mono ?_
      rintro e w' ⟨rfl, k, ho⟩
      have kk : ∀ b o, b < w1.heap.size → w'.cell? ⟨b, o, none⟩ = w1.cell? ⟨b, o, none⟩ := fun b o hb => World.cell?_of_block (a := ⟨b, o, none⟩) ((ho.block b (Nat.lt_of_lt_of_le hb hbA.size) (by omega)).trans (hbA.block b hb))
      exact ⟨rfl, k, (kk f 0 hfl).trans h0, (kk f 1 hfl).trans h1, (kk _ 0 (by omega)).trans p0, (kk _ 1 (by omega)).trans p1, hb0.trans ((hbA.mono (by omega)).trans (ho.below (by omega) (Nat.le_trans (by omega) hbA.size)))⟩)
    clear h0 h1 hg1 hN
    go_upto_region 4 with fail
    change Code.wp _ _ _ _ (w1.alloc (.cells #[.pointer none] 106))
    generalize w1.alloc (.cells #[.pointer none] 106) = wa at *
    have HA0 := Lib.hid (HA.out wa.drew (Below.refl _ _).drew)
    generalize w1.heap.size = P at *
    generalize hXe : w.heap.size = X at *
    subst hz1
    have HXE := Lib.hid hXe
    clear HA hfl p0 p1 hb0 hXe
    go_region_with
      (first
        | (go_at_call 49; with_reducible refine HA0.out.mono ?_; rintro e w2 ⟨rfl, q0, q1, q2, q3, q4, b2⟩)
        | (go_at_call 50; with_reducible refine (is_fault _ _ _ q1).mono ?_; rintro e w3 ⟨rfl, rfl⟩))
    all_goals
      go_wp2
      go_ret
      exact ⟨rfl, by rw [HXE.out]; exact b2⟩
end Go.Proofs.YtbkiijndhjmkdaaGreatDoor
