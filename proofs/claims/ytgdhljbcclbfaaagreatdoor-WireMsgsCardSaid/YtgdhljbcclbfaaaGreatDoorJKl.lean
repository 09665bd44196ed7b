/- The law's WireMsgs. -/
import Derived.Test.YtgdhljbcclbfaaaGreatDoorJKk
import Derived.Test.YtgdhljbcclbfaaaGreatDoorJ31
namespace Go.Proofs.YtgdhljbcclbfaaaGreatDoor
open Go.RowKit

theorem msg_pr (S : (List UInt8)) (w : World) (hG : GlobW w) (hS : S.length ≤ 1000000) (hgl : 4 ≤ w.heap.size) :
    Calls Tryz.prog 34 #[.string ⟨S.toArray⟩] w fun e w' => ∃ (q : MsgR) (v : Value) (f : Nat × Nat), e = .returned (.tuple #[msgV q, v]) ∧ Hid (PrAns msgC.get S zMsg q f v w w') := by
  refine (wreadMsg_any S w hG hS hgl).mono fun e w' hA => ?_
  rw [AnsMsg] at hA
  rcases hr : wholeG msgC.get S with ⟨c, b⟩ | q
  · rw [hr] at hA
    obtain ⟨hc, ⟨v, rfl, hv⟩, hb⟩ := hA
    exact ⟨zMsg, v, (c, b), rfl, Lib.hid ⟨by unfold RdAns; rw [hr]; exact ⟨rfl, rfl, by omega⟩, hv, hb⟩⟩
  · rw [hr] at hA
    obtain ⟨rfl, hb⟩ := hA
    exact ⟨q, .nilIface, (0, 0), rfl, Lib.hid ⟨by unfold RdAns; rw [hr]; exact ⟨rfl, rfl⟩, errV_nil _ _ _, hb⟩⟩
theorem hdr_pr (S : (List UInt8)) (w : World) (hG : GlobW w) (hS : S.length ≤ 1000000) (hgl : 4 ≤ w.heap.size) :
    Calls Tryz.prog 36 #[.string ⟨S.toArray⟩] w fun e w' => ∃ (q : HdrR) (v : Value) (f : Nat × Nat), e = .returned (.tuple #[hdrV q, v]) ∧ Hid (PrAns hdrC.get S zHdr q f v w w') := by
  refine (wreadHeader_any S w hG hS hgl).mono fun e w' hA => ?_
  rw [AnsHeader] at hA
  rcases hr : wholeG hdrC.get S with ⟨c, b⟩ | q
  · rw [hr] at hA
    obtain ⟨hc, ⟨v, rfl, hv⟩, hb⟩ := hA
    exact ⟨zHdr, v, (c, b), rfl, Lib.hid ⟨by unfold RdAns; rw [hr]; exact ⟨rfl, rfl, by omega⟩, hv, hb⟩⟩
  · rw [hr] at hA
    obtain ⟨rfl, hb⟩ := hA
    exact ⟨q, .nilIface, (0, 0), rfl, Lib.hid ⟨by unfold RdAns; rw [hr]; exact ⟨rfl, rfl⟩, errV_nil _ _ _, hb⟩⟩
section
variable {w w1 : World} {b c : Nat} {x y z u0 u1 u2 u3 u4 : Value} {o : Obj}
theorem tuC5 (hne : c ≠ b) (h : w.cell? ⟨b, 0, none⟩ = some x ∧ w.cell? ⟨b, 1, none⟩ = some y ∧ w.cell? ⟨b, 2, none⟩ = some z ∧ b < w.heap.size) : (((((w.setCell ⟨c, 0, none⟩ u0).setCell ⟨c, 1, none⟩ u1).setCell ⟨c, 2, none⟩ u2).setCell ⟨c, 3, none⟩ u3).setCell ⟨c, 4, none⟩ u4).cell? ⟨b, 0, none⟩ = some x ∧ (((((w.setCell ⟨c, 0, none⟩ u0).setCell ⟨c, 1, none⟩ u1).setCell ⟨c, 2, none⟩ u2).setCell ⟨c, 3, none⟩ u3).setCell ⟨c, 4, none⟩ u4).cell? ⟨b, 1, none⟩ = some y ∧ (((((w.setCell ⟨c, 0, none⟩ u0).setCell ⟨c, 1, none⟩ u1).setCell ⟨c, 2, none⟩ u2).setCell ⟨c, 3, none⟩ u3).setCell ⟨c, 4, none⟩ u4).cell? ⟨b, 2, none⟩ = some z ∧ b < (((((w.setCell ⟨c, 0, none⟩ u0).setCell ⟨c, 1, none⟩ u1).setCell ⟨c, 2, none⟩ u2).setCell ⟨c, 3, none⟩ u3).setCell ⟨c, 4, none⟩ u4).heap.size := by
  have k := tuC (u0 := u0) (u1 := u1) (u2 := u2) hne h
  refine ⟨?_, ?_, ?_, by simp only [World.size_setCell]; exact h.2.2.2⟩
  · exact (World.cell?_setCell_far _ _ _ _ hne).trans ((World.cell?_setCell_far _ _ _ _ hne).trans k.1)
  · exact (World.cell?_setCell_far _ _ _ _ hne).trans ((World.cell?_setCell_far _ _ _ _ hne).trans k.2.1)
  · exact (World.cell?_setCell_far _ _ _ _ hne).trans ((World.cell?_setCell_far _ _ _ _ hne).trans k.2.2.1)
theorem tuY {cs : Array Value} {t : TypeId} (h : Below (w.alloc (.cells cs t)).heap.size (w.alloc (.cells cs t)) w1) : w1.heap[w.heap.size]? = some (.cells cs t (0, 0)) := (h.block _ (by simp)).trans (heap_alloc_new w _)
end
theorem setq5 {W0 w5 : World} {B : Nat} {t : TypeId} {z0 z1 z2 z3 z4 : Value} (hb : Below W0.heap.size W0 w5) (hB : W0.heap.size ≤ B) (hz : w5.heap[B]? = some (.cells #[z0, z1, z2, z3, z4] t (0, 0))) (x0 x1 x2 x3 x4 : Value) :
    Below W0.heap.size W0 ((((((w5).setCell ⟨B, 0, none⟩ x0).setCell ⟨B, 1, none⟩ x1).setCell ⟨B, 2, none⟩ x2).setCell ⟨B, 3, none⟩ x3).setCell ⟨B, 4, none⟩ x4) ∧ ((((((w5).setCell ⟨B, 0, none⟩ x0).setCell ⟨B, 1, none⟩ x1).setCell ⟨B, 2, none⟩ x2).setCell ⟨B, 3, none⟩ x3).setCell ⟨B, 4, none⟩ x4).heap[B]? = some (.cells #[x0, x1, x2, x3, x4] t (0, 0)) := by
  have ho := ((((Only.set B 0 x0 w5).trans (Only.set B 1 x1 _)).trans (Only.set B 2 x2 _)).trans (Only.set B 3 x3 _)).trans (Only.set B 4 x4 _)
  exact ⟨hb.trans (ho.below hB hb.size), lit_set (k := 4) x4 (lit_set (k := 3) x3 (lit_set (k := 2) x2 (lit_set (k := 1) x1 (lit_set (k := 0) x0 hz))))⟩
theorem end5A {w0 w3 w4 w5 : World} {T t : TypeId} {cs ts : Array Value} (h : Wt w0 T cs ts w3) (b : Below w3.drew.heap.size w3.drew w4) (b5 : Below w4.heap.size w4 w5) (C : Array Value) : Wt w0 T cs ts (w5.alloc (.cells C t)) ∧ (w5.alloc (.cells C t)).heap[w5.heap.size]? = some (.cells C t (0, 0)) :=
  ⟨((h.next (below_drew b)).next b5).next (by0 w5 _), heap_alloc_new w5 _⟩
theorem end5B {w0 w3 w4 w5 : World} {T t : TypeId} {cs ts : Array Value} {z0 z1 z2 z3 z4 : Value} (h : Wt w0 T cs ts w3) (b : Below w3.drew.heap.size w3.drew w4) (b5 : Below (w4.alloc (.cells #[z0, z1, z2, z3, z4] t)).heap.size (w4.alloc (.cells #[z0, z1, z2, z3, z4] t)) w5) (x0 x1 x2 x3 x4 : Value) :
    Wt w0 T cs ts ((((((w5).setCell ⟨w4.heap.size, 0, none⟩ x0).setCell ⟨w4.heap.size, 1, none⟩ x1).setCell ⟨w4.heap.size, 2, none⟩ x2).setCell ⟨w4.heap.size, 3, none⟩ x3).setCell ⟨w4.heap.size, 4, none⟩ x4) ∧ ((((((w5).setCell ⟨w4.heap.size, 0, none⟩ x0).setCell ⟨w4.heap.size, 1, none⟩ x1).setCell ⟨w4.heap.size, 2, none⟩ x2).setCell ⟨w4.heap.size, 3, none⟩ x3).setCell ⟨w4.heap.size, 4, none⟩ x4).heap[w4.heap.size]? = some (.cells #[x0, x1, x2, x3, x4] t (0, 0)) := by
  have h4 := h.next (below_drew b)
  obtain ⟨k1, k2⟩ := setq5 ((by0 w4 (.cells #[z0, z1, z2, z3, z4] t)).trans (b5.mono (by simp))) (Nat.le_refl _) (tuY b5) x0 x1 x2 x3 x4
  exact ⟨h4.next k1, k2⟩
theorem end5C {w0 w3 w4 w5 : World} {T t : TypeId} {cs ts : Array Value} {z0 z1 z2 z3 z4 : Value} (h : Wt w0 T cs ts w3) (b : Below (w3.alloc (.cells #[z0, z1, z2, z3, z4] t)).drew.heap.size (w3.alloc (.cells #[z0, z1, z2, z3, z4] t)).drew w4) (b5 : Below w4.heap.size w4 w5) (x0 x1 x2 x3 x4 : Value) :
    Wt w0 T cs ts ((((((w5).setCell ⟨w3.heap.size, 0, none⟩ x0).setCell ⟨w3.heap.size, 1, none⟩ x1).setCell ⟨w3.heap.size, 2, none⟩ x2).setCell ⟨w3.heap.size, 3, none⟩ x3).setCell ⟨w3.heap.size, 4, none⟩ x4) ∧ ((((((w5).setCell ⟨w3.heap.size, 0, none⟩ x0).setCell ⟨w3.heap.size, 1, none⟩ x1).setCell ⟨w3.heap.size, 2, none⟩ x2).setCell ⟨w3.heap.size, 3, none⟩ x3).setCell ⟨w3.heap.size, 4, none⟩ x4).heap[w3.heap.size]? = some (.cells #[x0, x1, x2, x3, x4] t (0, 0)) := by
  have b1 := below_drew b
  have b2 : Below w3.heap.size w3 w4 := (by0 w3 (.cells #[z0, z1, z2, z3, z4] t)).trans (b1.mono (by show _ ≤ (w3.alloc _).heap.size; simp))
  have hz := tuZ b
  obtain ⟨k1, k2⟩ := setq5 (b2.trans (b5.mono b2.size)) (Nat.le_refl _) ((b5.block _ (lit_lt hz)).trans hz) x0 x1 x2 x3 x4
  exact ⟨h.next k1, k2⟩
theorem add5 {w : World} {c1 c2 : Array Value} {t1 t2 : TypeId} : Below w.heap.size w ((w.alloc (.cells c1 t1)).alloc (.cells c2 t2)) ∧ ((w.alloc (.cells c1 t1)).alloc (.cells c2 t2)).heap[w.heap.size]? = some (.cells c1 t1 (0, 0)) ∧ ((w.alloc (.cells c1 t1)).alloc (.cells c2 t2)).heap[w.heap.size + 1]? = some (.cells c2 t2 (0, 0)) := by
  refine ⟨(by0 w _).alloc (by simp) _, lit_old _ (heap_alloc_new w _), ?_⟩
  rw [show w.heap.size + 1 = (w.alloc (.cells c1 t1)).heap.size by simp]
  exact heap_alloc_new _ _
set_option maxRecDepth 100000 in
set_option maxHeartbeats 8000000 in
theorem msgs_any (m : MsgR) (t : HdrR) (S : (List UInt8)) (at_ by_ : Nat) (stay : Int) (w : World) (hg : GlobW w) (hgl : 4 ≤ w.heap.size) (hm : MsgIn m) (ht : t.round < 18446744073709551616) (hS : S.length ≤ maxLen) (hat : at_ < 65536) (hby : by_ < 256) :
    Calls Tryz.prog 6 #[bothV m t, .string ⟨S.toArray⟩, .agg #[.int .u16 (at_ : Int), .int .u8 (by_ : Int), .int .i64 stay]] w fun e w' => e = .returned (.bool true) ∧ Below w.heap.size w w' := by
  have HWO := Lib.hid (fun wz (h : Wk w wz) => worksw_any wz h.g h.gl)
  have HA := Lib.hid (fun wz (h : Wk w wz) => wmsg_any m wz h.g hm)
  have HR := Lib.hid (fun wz => rMsg_any m wz hm)
  have HA2 := Lib.hid (fun wz (h : Wk w wz) => whdr_any t wz h.g ht)
  have HR2 := Lib.hid (fun wz => rHdr_any t wz ht)
  have hal := msg_len m
  have hdl := hdr_len t
  have HT := Lib.hid (fun wz => turned_any (layMsgP m).1 at_ by_ stay wz (by omega) hat hby)
  have HT2 := Lib.hid (fun wz => turned_any (layHdrP t).1 at_ by_ stay wz (by omega) hat hby)
  obtain ⟨M, hm1, hm2, hm3⟩ := cut300 S
  have Hm3 := Lib.hid hm3
  have HSL := Lib.hid (show (S.take 300).length ≤ 1000000 by rw [List.length_take]; omega)
  have HAL := Lib.hid (show (layMsgP m).1.length ≤ 1000000 by omega)
  have HDL := Lib.hid (show (layHdrP t).1.length ≤ 1000000 by omega)
  have K := Lib.hid (Wt.start hg hgl 74 #[.string ⟨m.headers.toArray⟩, .string ⟨m.parts.toArray⟩, .int .u64 (m.count : Int), .int .u64 (m.proven : Int), .int .u64 (m.first : Int), .int .u64 (m.last : Int), .int .u64 (t.round : Int), .string ⟨t.prev.toArray⟩, .string ⟨t.txns.toArray⟩, .string ⟨t.seed.toArray⟩] #[.int .u16 (at_ : Int), .int .u8 (by_ : Int), .int .i64 stay])
  have m0 : (0 : Int) ≤ (M : Int) := by omega
  have m1 : (M : Int) ≤ (S.length : Int) := by omega
  have m2 : (S.length : Int) ≤ 9223372036854775807 := by unfold maxLen at hS; omega
  generalize (layMsgP m).1 = A at *
  generalize (layMsgP m).2 = c at *
  generalize (layHdrP t).1 = D at *
  generalize (layHdrP t).2 = d at *
  clear hg hgl hm ht hS hat hby hal hdl hm2 hm3
  go_enter Tryz.func6, Tryz.ntmps6
  go_upto_region 1 with fail
  change Code.wp _ _ _ _ ((w.alloc (.cells #[.string ⟨m.headers.toArray⟩, .string ⟨m.parts.toArray⟩, .int .u64 (m.count : Int), .int .u64 (m.proven : Int), .int .u64 (m.first : Int), .int .u64 (m.last : Int), .int .u64 (t.round : Int), .string ⟨t.prev.toArray⟩, .string ⟨t.txns.toArray⟩, .string ⟨t.seed.toArray⟩] 74)).alloc (.cells #[.int .u16 (at_ : Int), .int .u8 (by_ : Int), .int .i64 stay] 27))
  generalize (w.alloc (.cells #[.string ⟨m.headers.toArray⟩, .string ⟨m.parts.toArray⟩, .int .u64 (m.count : Int), .int .u64 (m.proven : Int), .int .u64 (m.first : Int), .int .u64 (m.last : Int), .int .u64 (t.round : Int), .string ⟨t.prev.toArray⟩, .string ⟨t.txns.toArray⟩, .string ⟨t.seed.toArray⟩] 74)).alloc (.cells #[.int .u16 (at_ : Int), .int .u8 (by_ : Int), .int .i64 stay] 27) = w1 at *
  have x0 := (lit_cell K.out.x 0).trans rfl
  have x1 := (lit_cell K.out.x 1).trans rfl
  have x2 := (lit_cell K.out.x 2).trans rfl
  have x3 := (lit_cell K.out.x 3).trans rfl
  have x4 := (lit_cell K.out.x 4).trans rfl
  have x5 := (lit_cell K.out.x 5).trans rfl
  go_wp2_with fail
  refine (HA.out _ K.out.k).mono ?_
  rintro e wa0 ⟨rfl, b2⟩
  have K := Lib.hid (K.out.next b2)
  clear b2 HA x0 x1 x2 x3 x4 x5
  have x0 := (lit_cell K.out.x 0).trans rfl
  have x1 := (lit_cell K.out.x 1).trans rfl
  have x2 := (lit_cell K.out.x 2).trans rfl
  have x3 := (lit_cell K.out.x 3).trans rfl
  have x4 := (lit_cell K.out.x 4).trans rfl
  have x5 := (lit_cell K.out.x 5).trans rfl
  go_wp2_with fail
  refine (HR.out _ ).mono ?_
  rintro e wa1 ⟨rfl, b2⟩
  have K := Lib.hid (K.out.next b2)
  clear b2 HR x0 x1 x2 x3 x4 x5
  have x6 := (lit_cell K.out.x 6).trans rfl
  have x7 := (lit_cell K.out.x 7).trans rfl
  have x8 := (lit_cell K.out.x 8).trans rfl
  have x9 := (lit_cell K.out.x 9).trans rfl
  go_wp2_with fail
  refine (HA2.out _ K.out.k).mono ?_
  rintro e wa2 ⟨rfl, b2⟩
  have K := Lib.hid (K.out.next b2)
  clear b2 HA2 x6 x7 x8 x9
  have x6 := (lit_cell K.out.x 6).trans rfl
  have x7 := (lit_cell K.out.x 7).trans rfl
  have x8 := (lit_cell K.out.x 8).trans rfl
  have x9 := (lit_cell K.out.x 9).trans rfl
  go_wp2_with fail
  refine (HR2.out _ ).mono ?_
  rintro e wa3 ⟨rfl, b2⟩
  have K := Lib.hid (K.out.next b2)
  clear b2 HR2 x6 x7 x8 x9
  have t0 : wa3.cell? ⟨w.heap.size + 1, 0, none⟩ = some (.int .u16 (at_ : Int)) := (lit_cell K.out.t 0).trans rfl
  have t1 : wa3.cell? ⟨w.heap.size + 1, 1, none⟩ = some (.int .u8 (by_ : Int)) := (lit_cell K.out.t 1).trans rfl
  have t2 : wa3.cell? ⟨w.heap.size + 1, 2, none⟩ = some (.int .i64 stay) := (lit_cell K.out.t 2).trans rfl
  go_upto_region 7 with fail
  have htb : w.heap.size + 1 < wa3.heap.size := lit_lt K.out.t
  go_cut [15] from 25 (fun s15 wx => ∃ (B : Nat) (T1 T2 : (List UInt8)), s15 = .pointer (some ⟨B, 0, none⟩) ∧ Hid (T1.length ≤ 1000000 ∧ T2.length ≤ 1000000) ∧ Hid (Wt w 74 #[.string ⟨m.headers.toArray⟩, .string ⟨m.parts.toArray⟩, .int .u64 (m.count : Int), .int .u64 (m.proven : Int), .int .u64 (m.first : Int), .int .u64 (m.last : Int), .int .u64 (t.round : Int), .string ⟨t.prev.toArray⟩, .string ⟨t.txns.toArray⟩, .string ⟨t.seed.toArray⟩] #[.int .u16 (at_ : Int), .int .u8 (by_ : Int), .int .i64 stay] wx ∧ wx.heap[B]? = some (.cells #[.string ⟨(S.take 300).toArray⟩, .string ⟨A.toArray⟩, .string ⟨D.toArray⟩, .string ⟨T1.toArray⟩, .string ⟨T2.toArray⟩] 77 (0, 0))))
  case first =>
    go_region_held3 (fun w' => w'.cell? ⟨w.heap.size + 1, 0, none⟩ = some (.int .u16 (at_ : Int)) ∧ w'.cell? ⟨w.heap.size + 1, 1, none⟩ = some (.int .u8 (by_ : Int)) ∧ w'.cell? ⟨w.heap.size + 1, 2, none⟩ = some (.int .i64 stay) ∧ w.heap.size + 1 < w'.heap.size)
      (first | (with_reducible assumption) | (with_reducible exact tuD t0 t1 t2 htb) | (with_reducible exact tuE t0 t1 t2 htb) | (with_reducible refine tuA ?_; with_reducible assumption) | (with_reducible refine tuB ?_ b4; with_reducible assumption) | (with_reducible refine tuB ?_ b5; with_reducible assumption) | (with_reducible refine tuC5 ?_ ?_ <;> first | (with_reducible assumption) | omega))
      (first
        | (go_at_call 13; with_reducible refine (HT.out _).mono ?_; rintro e w4 ⟨T1, rfl, hT1, b4⟩; have hSa := tuB (by with_reducible assumption) b4; (try (have hz4 : w4.heap[wa3.heap.size]? = some (.cells #[.string ⟨#[]⟩, .string ⟨#[]⟩, .string ⟨#[]⟩, .string ⟨#[]⟩, .string ⟨#[]⟩] 77 (0, 0)) := (by with_reducible exact tuZ b4); have z0 := (lit_cell hz4 0).trans rfl; have zf0 := lit_free hz4 0; have z1 := (lit_cell hz4 1).trans rfl; have zf1 := lit_free hz4 1; have z2 := (lit_cell hz4 2).trans rfl; have zf2 := lit_free hz4 2; have z3 := (lit_cell hz4 3).trans rfl; have zf3 := lit_free hz4 3; have z4 := (lit_cell hz4 4).trans rfl; have zf4 := lit_free hz4 4)))
        | (go_at_call 13; with_reducible refine (HT2.out _).mono ?_; rintro e w5 ⟨T2, rfl, hT2, b5⟩; have hSb := tuB (by with_reducible assumption) b5; (try (have hz5 : w5.heap[wa3.heap.size]? = some (.cells #[.string ⟨#[]⟩, .string ⟨#[]⟩, .string ⟨#[]⟩, .string ⟨#[]⟩, .string ⟨#[]⟩] 77 (0, 0)) := (b5.block _ (lit_lt hz4)).trans hz4; have z0 := (lit_cell hz5 0).trans rfl; have zf0 := lit_free hz5 0; have z1 := (lit_cell hz5 1).trans rfl; have zf1 := lit_free hz5 1; have z2 := (lit_cell hz5 2).trans rfl; have zf2 := lit_free hz5 2; have z3 := (lit_cell hz5 3).trans rfl; have zf3 := lit_free hz5 3; have z4 := (lit_cell hz5 4).trans rfl; have zf4 := lit_free hz5 4)); (try (have hz5 : w5.heap[w4.heap.size]? = some (.cells #[.string ⟨#[]⟩, .string ⟨#[]⟩, .string ⟨#[]⟩, .string ⟨#[]⟩, .string ⟨#[]⟩] 77 (0, 0)) := (by with_reducible exact tuY b5); have z0 := (lit_cell hz5 0).trans rfl; have zf0 := lit_free hz5 0; have z1 := (lit_cell hz5 1).trans rfl; have zf1 := lit_free hz5 1; have z2 := (lit_cell hz5 2).trans rfl; have zf2 := lit_free hz5 2; have z3 := (lit_cell hz5 3).trans rfl; have zf3 := lit_free hz5 3; have z4 := (lit_cell hz5 4).trans rfl; have zf4 := lit_free hz5 4))))
    all_goals go_wp2
    all_goals go_meet
    all_goals try rw [Hm3.out]
    all_goals
      first
        | exact ⟨_, T1, T2, rfl, Lib.hid ⟨Nat.le_trans hT1 HAL.out, Nat.le_trans hT2 HDL.out⟩, Lib.hid (end5A K.out b4 b5 _)⟩
        | exact ⟨_, T1, T2, rfl, Lib.hid ⟨Nat.le_trans hT1 HAL.out, Nat.le_trans hT2 HDL.out⟩, Lib.hid (end5B K.out b4 b5 _ _ _ _ _)⟩
        | exact ⟨_, T1, T2, rfl, Lib.hid ⟨Nat.le_trans hT1 HAL.out, Nat.le_trans hT2 HDL.out⟩, Lib.hid (end5C K.out b4 b5 _ _ _ _ _)⟩
  case rest =>
  obtain ⟨B, T1, T2, rfl, HTL, X⟩ := hcut
  have HE := Lib.hid (show ∀ k : Nat, k < 5 → ∃ U : (List UInt8), (#[.string ⟨(S.take 300).toArray⟩, .string ⟨A.toArray⟩, .string ⟨D.toArray⟩, .string ⟨T1.toArray⟩, .string ⟨T2.toArray⟩] : Array Value)[k]? = some (.string ⟨U.toArray⟩) ∧ U.length ≤ 1000000 from fun k hk => by
    obtain rfl | rfl | rfl | rfl | rfl : k = 0 ∨ k = 1 ∨ k = 2 ∨ k = 3 ∨ k = 4 := by omega
    · exact ⟨_, rfl, HSL.out⟩
    · exact ⟨_, rfl, HAL.out⟩
    · exact ⟨_, rfl, HDL.out⟩
    · exact ⟨_, rfl, HTL.out.1⟩
    · exact ⟨_, rfl, HTL.out.2⟩)
  clear t0 t1 t2 htb HSL HAL HDL HTL K HT HT2 Hm3 hm1 m0 m1 m2
  generalize (#[.string ⟨(S.take 300).toArray⟩, .string ⟨A.toArray⟩, .string ⟨D.toArray⟩, .string ⟨T1.toArray⟩, .string ⟨T2.toArray⟩] : Array Value) = AR at *
  go_wp2
  go_loopw [16] (fun i wr => ∃ k : Nat, k ≤ 5 ∧ i = .int .i64 (k : Int) ∧ Hid (Wt w 74 #[.string ⟨m.headers.toArray⟩, .string ⟨m.parts.toArray⟩, .int .u64 (m.count : Int), .int .u64 (m.proven : Int), .int .u64 (m.first : Int), .int .u64 (m.last : Int), .int .u64 (t.round : Int), .string ⟨t.prev.toArray⟩, .string ⟨t.txns.toArray⟩, .string ⟨t.seed.toArray⟩] #[.int .u16 (at_ : Int), .int .u8 (by_ : Int), .int .i64 stay] wr ∧ wr.heap[B]? = some (.cells AR 77 (0, 0))))
    (fun i _ => 5 - (intOf i).toNat)
  case atStart => exact ⟨0, by omega, rfl, X⟩
  case round =>
    obtain ⟨k, hk, rfl, X⟩ := hrel
    by_cases hlt : k < 5
    · obtain ⟨U, hU, hUl⟩ := HE.out k hlt
      have hcell := (lit_cell X.out.2 k).trans hU
      have HP := Lib.hid (fun wz (h : Wk w wz) => msg_pr U wz h.g hUl h.gl)
      have HR := Lib.hid (fun wz => rReadmsg_any U wz hUl)
      have HP2 := Lib.hid (fun wz (h : Wk w wz) => hdr_pr U wz h.g hUl h.gl)
      have HR2 := Lib.hid (fun wz => rReadheader_any U wz hUl)
      have k0 : (0 : Int) ≤ (k : Int) := by omega
      have k1 : (k : Int) < 5 := by omega
      have HU := Lib.hid hU
      clear hU hUl
      go_upto_region 12 with (go_at_call 34; refine (HP.out _ X.out.1.k).mono ?_; rintro e wb1 ⟨q, v, f, rfl, HQ⟩)
      change Code.wp _ _ _ _ (wb1.alloc (.cells #[.string ⟨q.headers.toArray⟩, .string ⟨q.parts.toArray⟩, .int .u64 (q.count : Int), .int .u64 (q.proven : Int), .int .u64 (q.first : Int), .int .u64 (q.last : Int)] 70))
      have hb := by0 wb1 (.cells #[.string ⟨q.headers.toArray⟩, .string ⟨q.parts.toArray⟩, .int .u64 (q.count : Int), .int .u64 (q.proven : Int), .int .u64 (q.first : Int), .int .u64 (q.last : Int)] 70)
      have hy := heap_alloc_new wb1 (.cells #[.string ⟨q.headers.toArray⟩, .string ⟨q.parts.toArray⟩, .int .u64 (q.count : Int), .int .u64 (q.proven : Int), .int .u64 (q.first : Int), .int .u64 (q.last : Int)] 70)
      have hb2 := HQ.out.b.trans (hb.mono HQ.out.b.size)
      have X := Lib.hid (show Wt w 74 #[.string ⟨m.headers.toArray⟩, .string ⟨m.parts.toArray⟩, .int .u64 (m.count : Int), .int .u64 (m.proven : Int), .int .u64 (m.first : Int), .int .u64 (m.last : Int), .int .u64 (t.round : Int), .string ⟨t.prev.toArray⟩, .string ⟨t.txns.toArray⟩, .string ⟨t.seed.toArray⟩] #[.int .u16 (at_ : Int), .int .u8 (by_ : Int), .int .i64 stay] _ ∧ _ from ⟨X.out.1.next hb2, (hb2.block B (lit_lt X.out.2)).trans X.out.2⟩)
      have V1 := Lib.hid (HQ.out.v.next hb)
      have RA := Lib.hid HQ.out.r
      generalize wb1.alloc (.cells #[.string ⟨q.headers.toArray⟩, .string ⟨q.parts.toArray⟩, .int .u64 (q.count : Int), .int .u64 (q.proven : Int), .int .u64 (q.first : Int), .int .u64 (q.last : Int)] 70) = wc1 at *
      generalize wb1.heap.size = Y1 at *
      have HY1 := Lib.hid hy
      clear hb hb2 hy HQ HP hcell
      have hcell := (lit_cell X.out.2 k).trans HU.out
      go_upto_region 13 with (go_at_call 35; refine (HR.out _).mono ?_; rintro e wd1 ⟨q2, f2, rfl, RB, b7⟩; obtain ⟨hq2, hf2⟩ := RA.out.det RB.out; subst hq2; subst hf2; obtain ⟨fc, fb⟩ := f2)
      change Code.wp _ _ _ _ ((wd1.alloc (.cells #[.string ⟨q2.headers.toArray⟩, .string ⟨q2.parts.toArray⟩, .int .u64 (q2.count : Int), .int .u64 (q2.proven : Int), .int .u64 (q2.first : Int), .int .u64 (q2.last : Int)] 70)).alloc (.cells #[.int .i64 (fc : Int), .int .i64 (fb : Int)] 38))
      have hadd := add5 (w := wd1) (c1 := #[.string ⟨q2.headers.toArray⟩, .string ⟨q2.parts.toArray⟩, .int .u64 (q2.count : Int), .int .u64 (q2.proven : Int), .int .u64 (q2.first : Int), .int .u64 (q2.last : Int)]) (t1 := 70) (c2 := #[.int .i64 (fc : Int), .int .i64 (fb : Int)]) (t2 := 38)
      obtain ⟨hb, hz1, hz2⟩ := hadd
      have hb2 := b7.trans (hb.mono b7.size)
      have X := Lib.hid (show Wt w 74 #[.string ⟨m.headers.toArray⟩, .string ⟨m.parts.toArray⟩, .int .u64 (m.count : Int), .int .u64 (m.proven : Int), .int .u64 (m.first : Int), .int .u64 (m.last : Int), .int .u64 (t.round : Int), .string ⟨t.prev.toArray⟩, .string ⟨t.txns.toArray⟩, .string ⟨t.seed.toArray⟩] #[.int .u16 (at_ : Int), .int .u8 (by_ : Int), .int .i64 stay] _ ∧ _ from ⟨X.out.1.next hb2, (hb2.block B (lit_lt X.out.2)).trans X.out.2⟩)
      have V1 := Lib.hid (V1.out.next hb2)
      have HY1 := Lib.hid ((hb2.block _ (lit_lt HY1.out)).trans HY1.out)
      generalize (wd1.alloc (.cells #[.string ⟨q2.headers.toArray⟩, .string ⟨q2.parts.toArray⟩, .int .u64 (q2.count : Int), .int .u64 (q2.proven : Int), .int .u64 (q2.first : Int), .int .u64 (q2.last : Int)] 70)).alloc (.cells #[.int .i64 (fc : Int), .int .i64 (fb : Int)] 38) = we1 at *
      have HZ1 := Lib.hid hz1
      have HF1 := Lib.hid hz2
      generalize wd1.heap.size = P1 at *
      clear hb hb2 hz1 hz2 b7 RA RB HR hcell
      have hcell := (lit_cell X.out.2 k).trans HU.out
      go_upto_region 14 with (go_at_call 36; refine (HP2.out _ X.out.1.k).mono ?_; rintro e wb2 ⟨r, u, g, rfl, HQ⟩)
      change Code.wp _ _ _ _ (wb2.alloc (.cells #[.int .u64 (r.round : Int), .string ⟨r.prev.toArray⟩, .string ⟨r.txns.toArray⟩, .string ⟨r.seed.toArray⟩] 72))
      have hb := by0 wb2 (.cells #[.int .u64 (r.round : Int), .string ⟨r.prev.toArray⟩, .string ⟨r.txns.toArray⟩, .string ⟨r.seed.toArray⟩] 72)
      have hy := heap_alloc_new wb2 (.cells #[.int .u64 (r.round : Int), .string ⟨r.prev.toArray⟩, .string ⟨r.txns.toArray⟩, .string ⟨r.seed.toArray⟩] 72)
      have hb2 := HQ.out.b.trans (hb.mono HQ.out.b.size)
      have X := Lib.hid (show Wt w 74 #[.string ⟨m.headers.toArray⟩, .string ⟨m.parts.toArray⟩, .int .u64 (m.count : Int), .int .u64 (m.proven : Int), .int .u64 (m.first : Int), .int .u64 (m.last : Int), .int .u64 (t.round : Int), .string ⟨t.prev.toArray⟩, .string ⟨t.txns.toArray⟩, .string ⟨t.seed.toArray⟩] #[.int .u16 (at_ : Int), .int .u8 (by_ : Int), .int .i64 stay] _ ∧ _ from ⟨X.out.1.next hb2, (hb2.block B (lit_lt X.out.2)).trans X.out.2⟩)
      have V1 := Lib.hid (V1.out.next hb2)
      have HY1 := Lib.hid ((hb2.block _ (lit_lt HY1.out)).trans HY1.out)
      have HZ1 := Lib.hid ((hb2.block _ (lit_lt HZ1.out)).trans HZ1.out)
      have HF1 := Lib.hid ((hb2.block _ (lit_lt HF1.out)).trans HF1.out)
      have V2 := Lib.hid (HQ.out.v.next hb)
      have RA := Lib.hid HQ.out.r
      generalize wb2.alloc (.cells #[.int .u64 (r.round : Int), .string ⟨r.prev.toArray⟩, .string ⟨r.txns.toArray⟩, .string ⟨r.seed.toArray⟩] 72) = wc2 at *
      generalize wb2.heap.size = Y2 at *
      have HY2 := Lib.hid hy
      clear hb hb2 hy HQ HP2 hcell
      have hcell := (lit_cell X.out.2 k).trans HU.out
      go_upto_region 15 with (go_at_call 37; refine (HR2.out _).mono ?_; rintro e wd2 ⟨r2, f2, rfl, RB, b7⟩; obtain ⟨hq2, hf2⟩ := RA.out.det RB.out; subst hq2; subst hf2; obtain ⟨gc, gb⟩ := f2)
      change Code.wp _ _ _ _ ((wd2.alloc (.cells #[.int .u64 (r2.round : Int), .string ⟨r2.prev.toArray⟩, .string ⟨r2.txns.toArray⟩, .string ⟨r2.seed.toArray⟩] 72)).alloc (.cells #[.int .i64 (gc : Int), .int .i64 (gb : Int)] 38))
      have hadd := add5 (w := wd2) (c1 := #[.int .u64 (r2.round : Int), .string ⟨r2.prev.toArray⟩, .string ⟨r2.txns.toArray⟩, .string ⟨r2.seed.toArray⟩]) (t1 := 72) (c2 := #[.int .i64 (gc : Int), .int .i64 (gb : Int)]) (t2 := 38)
      obtain ⟨hb, hz1, hz2⟩ := hadd
      have hb2 := b7.trans (hb.mono b7.size)
      have X := Lib.hid (show Wt w 74 #[.string ⟨m.headers.toArray⟩, .string ⟨m.parts.toArray⟩, .int .u64 (m.count : Int), .int .u64 (m.proven : Int), .int .u64 (m.first : Int), .int .u64 (m.last : Int), .int .u64 (t.round : Int), .string ⟨t.prev.toArray⟩, .string ⟨t.txns.toArray⟩, .string ⟨t.seed.toArray⟩] #[.int .u16 (at_ : Int), .int .u8 (by_ : Int), .int .i64 stay] _ ∧ _ from ⟨X.out.1.next hb2, (hb2.block B (lit_lt X.out.2)).trans X.out.2⟩)
      have V1 := Lib.hid (V1.out.next hb2)
      have HY1 := Lib.hid ((hb2.block _ (lit_lt HY1.out)).trans HY1.out)
      have HZ1 := Lib.hid ((hb2.block _ (lit_lt HZ1.out)).trans HZ1.out)
      have HF1 := Lib.hid ((hb2.block _ (lit_lt HF1.out)).trans HF1.out)
      have V2 := Lib.hid (V2.out.next hb2)
      have HY2 := Lib.hid ((hb2.block _ (lit_lt HY2.out)).trans HY2.out)
      generalize (wd2.alloc (.cells #[.int .u64 (r2.round : Int), .string ⟨r2.prev.toArray⟩, .string ⟨r2.txns.toArray⟩, .string ⟨r2.seed.toArray⟩] 72)).alloc (.cells #[.int .i64 (gc : Int), .int .i64 (gb : Int)] 38) = we2 at *
      have HZ2 := Lib.hid hz1
      have HF2 := Lib.hid hz2
      generalize wd2.heap.size = P2 at *
      clear hb hb2 hz1 hz2 b7 RA RB HR2 hcell
      have HTD := Lib.hid (lawtold_any _ (fc : Int) (fb : Int) (fb : Int) v _ X.out.1.k.g.u.e V1.out (fun _ => rfl))
      have HTE := Lib.hid (fun wz (hz : Below we2.heap.size we2 wz) => lawtold_any _ (gc : Int) (gb : Int) (gb : Int) u wz (X.out.1.k.next hz).g.u.e (V2.out.next hz) (fun _ => rfl))
      have y0 := (lit_cell HY1.out 0).trans rfl; have z0 := (lit_cell HZ1.out 0).trans rfl; have y1 := (lit_cell HY1.out 1).trans rfl; have z1 := (lit_cell HZ1.out 1).trans rfl; have y2 := (lit_cell HY1.out 2).trans rfl; have z2 := (lit_cell HZ1.out 2).trans rfl; have y3 := (lit_cell HY1.out 3).trans rfl; have z3 := (lit_cell HZ1.out 3).trans rfl; have y4 := (lit_cell HY1.out 4).trans rfl; have z4 := (lit_cell HZ1.out 4).trans rfl; have y5 := (lit_cell HY1.out 5).trans rfl; have z5 := (lit_cell HZ1.out 5).trans rfl
      have g0 := (lit_cell HF1.out 0).trans rfl; have g1 := (lit_cell HF1.out 1).trans rfl
      clear HU V1 V2
      go_wp2_with (first | (go_at_call 16; with_reducible refine HTD.out.mono ?_; rintro e w9 ⟨rfl, b9⟩; have hy2 := (b9.block _ (lit_lt HY2.out)).trans HY2.out; have hz2 := (b9.block _ (lit_lt HZ2.out)).trans HZ2.out; have hf2 := (b9.block _ (lit_lt HF2.out)).trans HF2.out; have j0 := (lit_cell hy2 0).trans rfl; have l0 := (lit_cell hz2 0).trans rfl; have j1 := (lit_cell hy2 1).trans rfl; have l1 := (lit_cell hz2 1).trans rfl; have j2 := (lit_cell hy2 2).trans rfl; have l2 := (lit_cell hz2 2).trans rfl; have j3 := (lit_cell hy2 3).trans rfl; have l3 := (lit_cell hz2 3).trans rfl; have n0 := (lit_cell hf2 0).trans rfl; have n1 := (lit_cell hf2 1).trans rfl) | (go_at_call 16; with_reducible refine (HTE.out _ b9).mono ?_; rintro e w10 ⟨rfl, b10⟩))
      have b11 := b9.trans (b10.mono b9.size)
      have X := Lib.hid (show Wt w 74 #[.string ⟨m.headers.toArray⟩, .string ⟨m.parts.toArray⟩, .int .u64 (m.count : Int), .int .u64 (m.proven : Int), .int .u64 (m.first : Int), .int .u64 (m.last : Int), .int .u64 (t.round : Int), .string ⟨t.prev.toArray⟩, .string ⟨t.txns.toArray⟩, .string ⟨t.seed.toArray⟩] #[.int .u16 (at_ : Int), .int .u8 (by_ : Int), .int .i64 stay] _ ∧ _ from ⟨X.out.1.next b11, (b11.block B (lit_lt X.out.2)).trans X.out.2⟩)
      clear b9 b10 b11
      go_wp2
      go_roundw
      case rel => exact ⟨k + 1, by omega, by go_num, X⟩
      case measure => simp [intOf]; omega
    · have k1 : ¬ (k : Int) < 5 := by omega
      clear hlt hk
      go_wp2_with fail
      refine (HWO.out _ X.out.1.k).mono ?_
      rintro e w9 ⟨rfl, b9⟩
      go_wp2
      go_ret
      exact ⟨rfl, (X.out.1.k.next b9).o⟩
end Go.Proofs.YtgdhljbcclbfaaaGreatDoor
