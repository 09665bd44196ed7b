/- The law's WireParts. -/
import Derived.Test.YtgdhljbcclbfaaaGreatDoorJ28
import Derived.Test.YtgdhljbcclbfaaaGreatDoorJ37
import Derived.Test.YtgdhljbcclbfaaaGreatDoorJ35
import Derived.Test.YtgdhljbcclbfaaaGreatDoorJ36
import Derived.Test.YtgdhljbcclbfaaaGreatDoorJ29
import Derived.Deep.Cut
namespace Go.Proofs.YtgdhljbcclbfaaaGreatDoor
open Go.RowKit

theorem RdAns.det {ρ : Type} {g : (List UInt8) → Nat → Res ρ} {S : (List UInt8)} {z q q2 : ρ} {f f2 : Nat × Nat} (h : RdAns g S z q f) (h2 : RdAns g S z q2 f2) : q2 = q ∧ f2 = f := by
  unfold RdAns at h h2
  cases hw : wholeG g S with
  | error e => rw [hw] at h h2; exact ⟨h2.1.trans h.1.symm, h2.2.1.trans h.2.1.symm⟩
  | ok p => rw [hw] at h h2; exact ⟨h2.1.trans h.1.symm, h2.2.trans h.2.symm⟩
/-- what the program's reading answers, beside the document's -/
structure PrAns {ρ : Type} (g : (List UInt8) → Nat → Res ρ) (S : (List UInt8)) (z q : ρ) (f : Nat × Nat) (v : Value) (w w' : World) : Prop where
  r : RdAns g S z q f
  v : ErrV w.heap.size f.1 f.2 v w'
  b : Below w.heap.size w w'
theorem errV_nil (lo : Nat) (a : Int) (w : World) : ErrV lo 0 a .nilIface w := by unfold ErrV; rw [if_pos rfl]
theorem part_pr (S : (List UInt8)) (w : World) (hG : GlobW w) (hS : S.length ≤ 1000000) (hgl : 4 ≤ w.heap.size) :
    Calls Tryz.prog 14 #[.string ⟨S.toArray⟩] w fun e w' => ∃ (q : PartR) (v : Value) (f : Nat × Nat), e = .returned (.tuple #[partV q, v]) ∧ Hid (PrAns partC.get S zPart q f v w w') := by
  refine (wreadPart_any S w hG hS hgl).mono fun e w' hA => ?_
  rw [AnsPart] at hA
  rcases hr : wholeG partC.get S with ⟨c, b⟩ | q
  · rw [hr] at hA
    obtain ⟨hc, ⟨v, rfl, hv⟩, hb⟩ := hA
    exact ⟨zPart, v, (c, b), rfl, Lib.hid ⟨by unfold RdAns; rw [hr]; exact ⟨rfl, rfl, by omega⟩, hv, hb⟩⟩
  · rw [hr] at hA
    obtain ⟨rfl, hb⟩ := hA
    exact ⟨q, .nilIface, (0, 0), rfl, Lib.hid ⟨by unfold RdAns; rw [hr]; exact ⟨rfl, rfl⟩, errV_nil _ _ _, hb⟩⟩
/-- what the walk keeps, besides: the thing, boxed; the turn, boxed -/
structure Wt (w0 : World) (T : TypeId) (cs ts : Array Value) (wz : World) : Prop where
  k : Wk w0 wz
  x : wz.heap[w0.heap.size]? = some (.cells cs T (0, 0))
  t : wz.heap[w0.heap.size + 1]? = some (.cells ts 27 (0, 0))
theorem Wt.next {w0 wz wa : World} {T : TypeId} {cs ts : Array Value} (h : Wt w0 T cs ts wz) (hb : Below wz.heap.size wz wa) : Wt w0 T cs ts wa := ⟨h.k.next hb, (hb.block _ (lit_lt h.x)).trans h.x, (hb.block _ (lit_lt h.t)).trans h.t⟩
theorem Wt.start {w : World} (hg : GlobW w) (hgl : 4 ≤ w.heap.size) (T : TypeId) (cs ts : Array Value) : Wt w T cs ts ((w.alloc (.cells cs T)).alloc (.cells ts 27)) := by
  refine ⟨(show Wk w w from ⟨hg, hgl, Below.refl _ _⟩).next ((by0 w _).alloc (by simp) _), lit_old _ (heap_alloc_new w _), ?_⟩
  rw [show w.heap.size + 1 = (w.alloc (.cells cs T)).heap.size by simp]
  exact heap_alloc_new _ _
theorem cut300 (S : (List UInt8)) : ∃ m : Nat, min (S.length : Int) 300 = (m : Int) ∧ m ≤ S.length ∧ (⟨S.toArray⟩ : ByteArray).extract 0 m = ⟨(S.take 300).toArray⟩ := by
  refine ⟨min S.length 300, by omega, by omega, ?_⟩
  rw [extract_list, List.drop_zero]
  congr 2
  by_cases h : S.length ≤ 300
  · rw [Nat.min_eq_left h, List.take_of_length_le (Nat.le_refl _), List.take_of_length_le h]
  · rw [Nat.min_eq_right (by omega)]
theorem below_drew {B : Nat} {w w1 : World} (h : Below B w.drew w1) : Below B w w1 := ⟨h.os, h.tape, h.output, h.size, h.block⟩
theorem endA {w0 w3 w4 : World} {T t : TypeId} {cs ts : Array Value} (h : Wt w0 T cs ts w3) (b : Below w3.drew.heap.size w3.drew w4) (C : Array Value) : Wt w0 T cs ts (w4.alloc (.cells C t)) ∧ (w4.alloc (.cells C t)).heap[w4.heap.size]? = some (.cells C t (0, 0)) :=
  ⟨(h.next (below_drew b)).next (by0 w4 _), heap_alloc_new w4 _⟩
theorem endB {w0 w3 w4 : World} {T t : TypeId} {cs ts : Array Value} {z0 z1 z2 : Value} (h : Wt w0 T cs ts w3) (b : Below (w3.alloc (.cells #[z0, z1, z2] t)).drew.heap.size (w3.alloc (.cells #[z0, z1, z2] t)).drew w4) (x y z : Value) :
    Wt w0 T cs ts (((w4.setCell ⟨w3.heap.size, 0, none⟩ x).setCell ⟨w3.heap.size, 1, none⟩ y).setCell ⟨w3.heap.size, 2, none⟩ z) ∧ (((w4.setCell ⟨w3.heap.size, 0, none⟩ x).setCell ⟨w3.heap.size, 1, none⟩ y).setCell ⟨w3.heap.size, 2, none⟩ z).heap[w3.heap.size]? = some (.cells #[x, y, z] t (0, 0)) := by
  have b1 := below_drew b
  have b2 : Below w3.heap.size w3 w4 := (by0 w3 (.cells #[z0, z1, z2] t)).trans (b1.mono (by show _ ≤ (w3.alloc _).heap.size; simp))
  have hz : w4.heap[w3.heap.size]? = some (.cells #[z0, z1, z2] t (0, 0)) := (b1.block _ (by show _ < (w3.alloc _).heap.size; simp)).trans (heap_alloc_new w3 _)
  have ho := ((Only.set w3.heap.size 0 x w4).trans (Only.set w3.heap.size 1 y _)).trans (Only.set w3.heap.size 2 z _)
  exact ⟨h.next (b2.trans (ho.below (Nat.le_refl _) b2.size)), lit_set (k := 2) z (lit_set (k := 1) y (lit_set (k := 0) x hz))⟩
section
variable {w w1 : World} {b c : Nat} {x y z u0 u1 u2 : Value} {o : Obj}
theorem tuA (h : w.cell? ⟨b, 0, none⟩ = some x ∧ w.cell? ⟨b, 1, none⟩ = some y ∧ w.cell? ⟨b, 2, none⟩ = some z ∧ b < w.heap.size) : (w.alloc o).cell? ⟨b, 0, none⟩ = some x ∧ (w.alloc o).cell? ⟨b, 1, none⟩ = some y ∧ (w.alloc o).cell? ⟨b, 2, none⟩ = some z ∧ b < (w.alloc o).heap.size :=
  ⟨((by0 w o).cell (p := ⟨b, 0, none⟩) h.2.2.2).trans h.1, ((by0 w o).cell (p := ⟨b, 1, none⟩) h.2.2.2).trans h.2.1, ((by0 w o).cell (p := ⟨b, 2, none⟩) h.2.2.2).trans h.2.2.1, by rw [World.size_alloc]; have := h.2.2.2; omega⟩
theorem tuB (h : w.cell? ⟨b, 0, none⟩ = some x ∧ w.cell? ⟨b, 1, none⟩ = some y ∧ w.cell? ⟨b, 2, none⟩ = some z ∧ b < w.heap.size) (h1 : Below w.heap.size w w1) : w1.cell? ⟨b, 0, none⟩ = some x ∧ w1.cell? ⟨b, 1, none⟩ = some y ∧ w1.cell? ⟨b, 2, none⟩ = some z ∧ b < w1.heap.size :=
  ⟨(h1.cell (p := ⟨b, 0, none⟩) h.2.2.2).trans h.1, (h1.cell (p := ⟨b, 1, none⟩) h.2.2.2).trans h.2.1, (h1.cell (p := ⟨b, 2, none⟩) h.2.2.2).trans h.2.2.1, Nat.lt_of_lt_of_le h.2.2.2 h1.size⟩
theorem tuC (hne : c ≠ b) (h : w.cell? ⟨b, 0, none⟩ = some x ∧ w.cell? ⟨b, 1, none⟩ = some y ∧ w.cell? ⟨b, 2, none⟩ = some z ∧ b < w.heap.size) : (((w.setCell ⟨c, 0, none⟩ u0).setCell ⟨c, 1, none⟩ u1).setCell ⟨c, 2, none⟩ u2).cell? ⟨b, 0, none⟩ = some x ∧ (((w.setCell ⟨c, 0, none⟩ u0).setCell ⟨c, 1, none⟩ u1).setCell ⟨c, 2, none⟩ u2).cell? ⟨b, 1, none⟩ = some y ∧ (((w.setCell ⟨c, 0, none⟩ u0).setCell ⟨c, 1, none⟩ u1).setCell ⟨c, 2, none⟩ u2).cell? ⟨b, 2, none⟩ = some z ∧ b < (((w.setCell ⟨c, 0, none⟩ u0).setCell ⟨c, 1, none⟩ u1).setCell ⟨c, 2, none⟩ u2).heap.size := by
  refine ⟨?_, ?_, ?_, by rw [World.size_setCell, World.size_setCell, World.size_setCell]; exact h.2.2.2⟩
  · exact (World.cell?_setCell_far _ _ _ _ hne).trans ((World.cell?_setCell_far _ _ _ _ hne).trans ((World.cell?_setCell_far _ _ _ _ hne).trans h.1))
  · exact (World.cell?_setCell_far _ _ _ _ hne).trans ((World.cell?_setCell_far _ _ _ _ hne).trans ((World.cell?_setCell_far _ _ _ _ hne).trans h.2.1))
  · exact (World.cell?_setCell_far _ _ _ _ hne).trans ((World.cell?_setCell_far _ _ _ _ hne).trans ((World.cell?_setCell_far _ _ _ _ hne).trans h.2.2.1))
theorem tuD (h0 : w.cell? ⟨b, 0, none⟩ = some x) (h1 : w.cell? ⟨b, 1, none⟩ = some y) (h2 : w.cell? ⟨b, 2, none⟩ = some z) (h3 : b < w.heap.size) : w.drew.cell? ⟨b, 0, none⟩ = some x ∧ w.drew.cell? ⟨b, 1, none⟩ = some y ∧ w.drew.cell? ⟨b, 2, none⟩ = some z ∧ b < w.drew.heap.size := ⟨h0, h1, h2, h3⟩
theorem tuE (h0 : w.cell? ⟨b, 0, none⟩ = some x) (h1 : w.cell? ⟨b, 1, none⟩ = some y) (h2 : w.cell? ⟨b, 2, none⟩ = some z) (h3 : b < w.heap.size) : (w.alloc o).drew.cell? ⟨b, 0, none⟩ = some x ∧ (w.alloc o).drew.cell? ⟨b, 1, none⟩ = some y ∧ (w.alloc o).drew.cell? ⟨b, 2, none⟩ = some z ∧ b < (w.alloc o).drew.heap.size := tuA ⟨h0, h1, h2, h3⟩
theorem tuZ {cs : Array Value} {t : TypeId} (h : Below (w.alloc (.cells cs t)).drew.heap.size (w.alloc (.cells cs t)).drew w1) : w1.heap[w.heap.size]? = some (.cells cs t (0, 0)) := (h.block _ (by show _ < (w.alloc _).heap.size; simp)).trans (heap_alloc_new w _)
end
set_option maxRecDepth 100000 in
set_option maxHeartbeats 4000000 in
theorem parts_any (p : PartR) (S : (List UInt8)) (at_ by_ : Nat) (stay : Int) (w : World) (hg : GlobW w) (hgl : 4 ≤ w.heap.size) (hp : PartIn p) (hS : S.length ≤ maxLen) (hat : at_ < 65536) (hby : by_ < 256) :
    Calls Tryz.prog 3 #[partV p, .string ⟨S.toArray⟩, .agg #[.int .u16 (at_ : Int), .int .u8 (by_ : Int), .int .i64 stay]] w fun e w' => e = .returned (.bool true) ∧ Below w.heap.size w w' := by
  have HWO := Lib.hid (fun wz (h : Wk w wz) => worksw_any wz h.g h.gl)
  have HA := Lib.hid (fun wz (h : Wk w wz) => wpart_any p wz h.g hp)
  have HR := Lib.hid (fun wz => rPart_any p wz hp)
  have hal := part_len p
  have HT := Lib.hid (fun wz => turned_any (layPartP p).1 at_ by_ stay wz (by omega) hat hby)
  obtain ⟨M, hm1, hm2, hm3⟩ := cut300 S
  have Hm3 := Lib.hid hm3
  have HSL := Lib.hid (show (S.take 300).length ≤ 1000000 by rw [List.length_take]; omega)
  have HAL := Lib.hid (show (layPartP p).1.length ≤ 1000000 by omega)
  have K := Lib.hid (Wt.start hg hgl 24 #[.string ⟨p.root.toArray⟩, .int .u64 (p.weight : Int), .int .u64 (p.first : Int), .int .u64 (p.life : Int), .int .u64 (p.keys : Int)] #[.int .u16 (at_ : Int), .int .u8 (by_ : Int), .int .i64 stay])
  have m0 : (0 : Int) ≤ (M : Int) := by omega
  have m1 : (M : Int) ≤ (S.length : Int) := by omega
  have m2 : (S.length : Int) ≤ 9223372036854775807 := by unfold maxLen at hS; omega
  generalize (layPartP p).1 = A at *
  generalize (layPartP p).2 = c at *
  clear hg hgl hp hS hat hby hal hm2 hm3
  go_enter Tryz.func3, Tryz.ntmps3
  go_upto_region 1 with fail
  change Code.wp _ _ _ _ ((w.alloc (.cells #[.string ⟨p.root.toArray⟩, .int .u64 (p.weight : Int), .int .u64 (p.first : Int), .int .u64 (p.life : Int), .int .u64 (p.keys : Int)] 24)).alloc (.cells #[.int .u16 (at_ : Int), .int .u8 (by_ : Int), .int .i64 stay] 27))
  generalize (w.alloc (.cells #[.string ⟨p.root.toArray⟩, .int .u64 (p.weight : Int), .int .u64 (p.first : Int), .int .u64 (p.life : Int), .int .u64 (p.keys : Int)] 24)).alloc (.cells #[.int .u16 (at_ : Int), .int .u8 (by_ : Int), .int .i64 stay] 27) = w1 at *
  have x0 := (lit_cell K.out.x 0).trans rfl; have x1 := (lit_cell K.out.x 1).trans rfl; have x2 := (lit_cell K.out.x 2).trans rfl; have x3 := (lit_cell K.out.x 3).trans rfl; have x4 := (lit_cell K.out.x 4).trans rfl
  go_wp2_with fail
  refine (HA.out _ K.out.k).mono ?_
  rintro e w2 ⟨rfl, b2⟩
  have K := Lib.hid (K.out.next b2)
  clear b2 HA x0 x1 x2 x3 x4
  have x0 := (lit_cell K.out.x 0).trans rfl; have x1 := (lit_cell K.out.x 1).trans rfl; have x2 := (lit_cell K.out.x 2).trans rfl; have x3 := (lit_cell K.out.x 3).trans rfl; have x4 := (lit_cell K.out.x 4).trans rfl
  go_wp2_with fail
  refine (HR.out _).mono ?_
  rintro e w3 ⟨rfl, b2⟩
  have K := Lib.hid (K.out.next b2)
  clear b2 HR x0 x1 x2 x3 x4
  have t0 : w3.cell? ⟨w.heap.size + 1, 0, none⟩ = some (.int .u16 (at_ : Int)) := (lit_cell K.out.t 0).trans rfl
  have t1 : w3.cell? ⟨w.heap.size + 1, 1, none⟩ = some (.int .u8 (by_ : Int)) := (lit_cell K.out.t 1).trans rfl
  have t2 : w3.cell? ⟨w.heap.size + 1, 2, none⟩ = some (.int .i64 stay) := (lit_cell K.out.t 2).trans rfl
  go_upto_region 5 with fail
  have htb : w.heap.size + 1 < w3.heap.size := lit_lt K.out.t
  have HNE := Lib.hid (show w3.heap.size ≠ w.heap.size + 1 by omega)
  go_cut [11] from 17 (fun s11 wx => ∃ (B : Nat) (T : (List UInt8)), s11 = .pointer (some ⟨B, 0, none⟩) ∧ Hid (T.length ≤ 1000000) ∧ Hid (Wt w 24 #[.string ⟨p.root.toArray⟩, .int .u64 (p.weight : Int), .int .u64 (p.first : Int), .int .u64 (p.life : Int), .int .u64 (p.keys : Int)] #[.int .u16 (at_ : Int), .int .u8 (by_ : Int), .int .i64 stay] wx ∧ wx.heap[B]? = some (.cells #[.string ⟨(S.take 300).toArray⟩, .string ⟨A.toArray⟩, .string ⟨T.toArray⟩] 32 (0, 0))))
  case first =>
    go_region_held3 (fun w' => w'.cell? ⟨w.heap.size + 1, 0, none⟩ = some (.int .u16 (at_ : Int)) ∧ w'.cell? ⟨w.heap.size + 1, 1, none⟩ = some (.int .u8 (by_ : Int)) ∧ w'.cell? ⟨w.heap.size + 1, 2, none⟩ = some (.int .i64 stay) ∧ w.heap.size + 1 < w'.heap.size)
      (first | (with_reducible assumption) | (with_reducible exact tuD t0 t1 t2 htb) | (with_reducible exact tuE t0 t1 t2 htb) | (with_reducible refine tuA ?_; with_reducible assumption) | (with_reducible refine tuB ?_ b4; with_reducible assumption) | (with_reducible refine tuC ?_ ?_ <;> first | (with_reducible assumption) | omega))
      (first
        | (go_at_call 13; refine (HT.out _).mono ?_; rintro e w4 ⟨T, rfl, hTl, b4⟩; have hSa := tuB (by with_reducible assumption) b4; (try (have hz4 := tuZ b4; have z0 := (lit_cell hz4 0).trans rfl; have z1 := (lit_cell hz4 1).trans rfl; have z2 := (lit_cell hz4 2).trans rfl; have zf0 := lit_free hz4 0; have zf1 := lit_free hz4 1; have zf2 := lit_free hz4 2))))
    all_goals go_wp2
    all_goals go_meet
    all_goals try rw [Hm3.out]
    all_goals
      first
        | exact ⟨_, T, rfl, Lib.hid (Nat.le_trans hTl HAL.out), Lib.hid (endA K.out b4 _)⟩
        | exact ⟨_, T, rfl, Lib.hid (Nat.le_trans hTl HAL.out), Lib.hid (endB K.out b4 _ _ _)⟩
  case rest =>
  obtain ⟨B, T, rfl, HTL, X⟩ := hcut
  have HE := Lib.hid (show ∀ k : Nat, k < 3 → ∃ U : (List UInt8), (#[.string ⟨(S.take 300).toArray⟩, .string ⟨A.toArray⟩, .string ⟨T.toArray⟩] : Array Value)[k]? = some (.string ⟨U.toArray⟩) ∧ U.length ≤ 1000000 from fun k hk => by
    obtain rfl | rfl | rfl : k = 0 ∨ k = 1 ∨ k = 2 := by omega
    · exact ⟨_, rfl, HSL.out⟩
    · exact ⟨_, rfl, HAL.out⟩
    · exact ⟨_, rfl, HTL.out⟩)
  clear t0 t1 t2 htb HNE HSL HAL HTL K HT Hm3 hm1 m0 m1 m2
  generalize (#[.string ⟨(S.take 300).toArray⟩, .string ⟨A.toArray⟩, .string ⟨T.toArray⟩] : Array Value) = AR at *
  go_wp2
  go_loopw [12] (fun i wr => ∃ k : Nat, k ≤ 3 ∧ i = .int .i64 (k : Int) ∧ Hid (Wt w 24 #[.string ⟨p.root.toArray⟩, .int .u64 (p.weight : Int), .int .u64 (p.first : Int), .int .u64 (p.life : Int), .int .u64 (p.keys : Int)] #[.int .u16 (at_ : Int), .int .u8 (by_ : Int), .int .i64 stay] wr ∧ wr.heap[B]? = some (.cells AR 32 (0, 0))))
    (fun i _ => 3 - (intOf i).toNat)
  case atStart => exact ⟨0, by omega, rfl, X⟩
  case round =>
    obtain ⟨k, hk, rfl, X⟩ := hrel
    by_cases hlt : k < 3
    · obtain ⟨U, hU, hUl⟩ := HE.out k hlt
      have hcell := (lit_cell X.out.2 k).trans hU
      have HP := Lib.hid (part_pr U wr X.out.1.k.g hUl X.out.1.k.gl)
      have HR := Lib.hid (fun wz => rReadpart_any U wz hUl)
      have k0 : (0 : Int) ≤ (k : Int) := by omega
      have k1 : (k : Int) < 3 := by omega
      have HU := Lib.hid hU
      clear hU hUl
      go_upto_region 10 with (go_at_call 14; refine HP.out.mono ?_; rintro e w5 ⟨q, v, f, rfl, HQ⟩)
      change Code.wp _ _ _ _ (w5.alloc (.cells #[.string ⟨q.root.toArray⟩, .int .u64 (q.weight : Int), .int .u64 (q.first : Int), .int .u64 (q.life : Int), .int .u64 (q.keys : Int)] 24))
      have hb := by0 w5 (.cells #[.string ⟨q.root.toArray⟩, .int .u64 (q.weight : Int), .int .u64 (q.first : Int), .int .u64 (q.life : Int), .int .u64 (q.keys : Int)] 24)
      have hy := heap_alloc_new w5 (.cells #[.string ⟨q.root.toArray⟩, .int .u64 (q.weight : Int), .int .u64 (q.first : Int), .int .u64 (q.life : Int), .int .u64 (q.keys : Int)] 24)
      have hb2 := HQ.out.b.trans (hb.mono HQ.out.b.size)
      have X := Lib.hid (show Wt w 24 #[.string ⟨p.root.toArray⟩, .int .u64 (p.weight : Int), .int .u64 (p.first : Int), .int .u64 (p.life : Int), .int .u64 (p.keys : Int)] #[.int .u16 (at_ : Int), .int .u8 (by_ : Int), .int .i64 stay] _ ∧ _ from ⟨X.out.1.next hb2, (hb2.block B (lit_lt X.out.2)).trans X.out.2⟩)
      have V := Lib.hid (HQ.out.v.next hb)
      have RA := Lib.hid HQ.out.r
      generalize w5.alloc (.cells #[.string ⟨q.root.toArray⟩, .int .u64 (q.weight : Int), .int .u64 (q.first : Int), .int .u64 (q.life : Int), .int .u64 (q.keys : Int)] 24) = w6 at *
      generalize w5.heap.size = Y at *
      have HY := Lib.hid hy
      clear hb hb2 hy HQ HP hcell
      have hcell := (lit_cell X.out.2 k).trans HU.out
      go_upto_region 11 with (go_at_call 15; refine (HR.out _).mono ?_; rintro e w7 ⟨q2, f2, rfl, RB, b7⟩; obtain ⟨hq2, hf2⟩ := RA.out.det RB.out; subst hq2; subst hf2; obtain ⟨fc, fb⟩ := f2)
      change Code.wp _ _ _ _ ((w7.alloc (.cells #[.string ⟨q2.root.toArray⟩, .int .u64 (q2.weight : Int), .int .u64 (q2.first : Int), .int .u64 (q2.life : Int), .int .u64 (q2.keys : Int)] 24)).alloc (.cells #[.int .i64 (fc : Int), .int .i64 (fb : Int)] 38))
      have hb : Below w7.heap.size w7 ((w7.alloc (.cells #[.string ⟨q2.root.toArray⟩, .int .u64 (q2.weight : Int), .int .u64 (q2.first : Int), .int .u64 (q2.life : Int), .int .u64 (q2.keys : Int)] 24)).alloc (.cells #[.int .i64 (fc : Int), .int .i64 (fb : Int)] 38)) := (by0 w7 _).alloc (by simp) _
      have hz1 : ((w7.alloc (.cells #[.string ⟨q2.root.toArray⟩, .int .u64 (q2.weight : Int), .int .u64 (q2.first : Int), .int .u64 (q2.life : Int), .int .u64 (q2.keys : Int)] 24)).alloc (.cells #[.int .i64 (fc : Int), .int .i64 (fb : Int)] 38)).heap[w7.heap.size]? = some (.cells #[.string ⟨q2.root.toArray⟩, .int .u64 (q2.weight : Int), .int .u64 (q2.first : Int), .int .u64 (q2.life : Int), .int .u64 (q2.keys : Int)] 24 (0, 0)) := lit_old _ (heap_alloc_new w7 _)
      have hz2 : ((w7.alloc (.cells #[.string ⟨q2.root.toArray⟩, .int .u64 (q2.weight : Int), .int .u64 (q2.first : Int), .int .u64 (q2.life : Int), .int .u64 (q2.keys : Int)] 24)).alloc (.cells #[.int .i64 (fc : Int), .int .i64 (fb : Int)] 38)).heap[w7.heap.size + 1]? = some (.cells #[.int .i64 (fc : Int), .int .i64 (fb : Int)] 38 (0, 0)) := by
        rw [show w7.heap.size + 1 = (w7.alloc (.cells #[.string ⟨q2.root.toArray⟩, .int .u64 (q2.weight : Int), .int .u64 (q2.first : Int), .int .u64 (q2.life : Int), .int .u64 (q2.keys : Int)] 24)).heap.size by simp]; exact heap_alloc_new _ _
      have hb2 := b7.trans (hb.mono b7.size)
      have X := Lib.hid (show Wt w 24 #[.string ⟨p.root.toArray⟩, .int .u64 (p.weight : Int), .int .u64 (p.first : Int), .int .u64 (p.life : Int), .int .u64 (p.keys : Int)] #[.int .u16 (at_ : Int), .int .u8 (by_ : Int), .int .i64 stay] _ ∧ _ from ⟨X.out.1.next hb2, (hb2.block B (lit_lt X.out.2)).trans X.out.2⟩)
      have hy := (hb2.block Y (lit_lt HY.out)).trans HY.out
      have HTD := Lib.hid (lawtold_any _ (fc : Int) (fb : Int) (fb : Int) v _ X.out.1.k.g.u.e (V.out.next hb2) (fun _ => rfl))
      generalize (w7.alloc (.cells #[.string ⟨q2.root.toArray⟩, .int .u64 (q2.weight : Int), .int .u64 (q2.first : Int), .int .u64 (q2.life : Int), .int .u64 (q2.keys : Int)] 24)).alloc (.cells #[.int .i64 (fc : Int), .int .i64 (fb : Int)] 38) = w8 at *
      have y0 := (lit_cell hy 0).trans rfl; have y1 := (lit_cell hy 1).trans rfl; have y2 := (lit_cell hy 2).trans rfl; have y3 := (lit_cell hy 3).trans rfl; have y4 := (lit_cell hy 4).trans rfl
      have z0 := (lit_cell hz1 0).trans rfl; have z1 := (lit_cell hz1 1).trans rfl; have z2 := (lit_cell hz1 2).trans rfl; have z3 := (lit_cell hz1 3).trans rfl; have z4 := (lit_cell hz1 4).trans rfl
      have g0 := (lit_cell hz2 0).trans rfl; have g1 := (lit_cell hz2 1).trans rfl
      clear hb hb2 hy hz1 hz2 b7 HY RA RB V HR HU hcell
      go_wp2_with (go_at_call 16; refine HTD.out.mono ?_; rintro e w9 ⟨rfl, b9⟩)
      have X := Lib.hid (show Wt w 24 #[.string ⟨p.root.toArray⟩, .int .u64 (p.weight : Int), .int .u64 (p.first : Int), .int .u64 (p.life : Int), .int .u64 (p.keys : Int)] #[.int .u16 (at_ : Int), .int .u8 (by_ : Int), .int .i64 stay] _ ∧ _ from ⟨X.out.1.next b9, (b9.block B (lit_lt X.out.2)).trans X.out.2⟩)
      clear b9
      go_wp2
      go_roundw
      case rel => exact ⟨k + 1, by omega, by go_num, X⟩
      case measure => simp [intOf]; omega
    · have k1 : ¬ (k : Int) < 3 := by omega
      clear hlt hk
      go_wp2_with fail
      refine (HWO.out _ X.out.1.k).mono ?_
      rintro e w9 ⟨rfl, b9⟩
      go_wp2
      go_ret
      exact ⟨rfl, (X.out.1.k.next b9).o⟩
end Go.Proofs.YtgdhljbcclbfaaaGreatDoor
