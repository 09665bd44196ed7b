/- The law's WireSlots. -/
import Derived.Test.YtgdhljbcclbfaaaGreatDoorJKk
import Derived.Test.YtgdhljbcclbfaaaGreatDoorJ28
import Derived.Test.YtgdhljbcclbfaaaGreatDoorJ38
import Derived.Test.YtgdhljbcclbfaaaGreatDoorJ39
import Derived.Test.YtgdhljbcclbfaaaGreatDoorJ31
namespace Go.Proofs.YtgdhljbcclbfaaaGreatDoor
open Go.RowKit

theorem SlotM.nx {y : SlotE} {w w' : World} (h : SlotM y w) (hb : Below w.heap.size w w') : SlotM y w' := ⟨h.ws.below (Nat.le_refl _) hb, h.ps.below (Nat.le_refl _) hb⟩
theorem cut3000 (S : (List UInt8)) : ∃ m : Nat, min (S.length : Int) 3000 = (m : Int) ∧ m ≤ S.length ∧ (⟨S.toArray⟩ : ByteArray).extract 0 m = ⟨(S.take 3000).toArray⟩ := by
  refine ⟨min S.length 3000, by omega, by omega, ?_⟩
  rw [extract_list, List.drop_zero]
  congr 2
  by_cases h : S.length ≤ 3000
  · rw [Nat.min_eq_left h, List.take_of_length_le (Nat.le_refl _), List.take_of_length_le h]
  · rw [Nat.min_eq_right (by omega)]
theorem textsTo_le (L : List (List UInt8)) (k : Nat) : (textsTo L k).length ≤ k ∧ (textsTo L k).length ≤ L.length ∧ ∀ x ∈ textsTo L k, x.length ≤ 40 := by
  refine ⟨by rw [textsTo, List.length_map, List.length_take]; omega, by rw [textsTo, List.length_map, List.length_take]; omega, fun x hx => ?_⟩
  unfold textsTo at hx
  obtain ⟨y, _, rfl⟩ := List.mem_map.1 hx
  rw [List.length_take]; omega
theorem slotTo_rs {x : SlotR} (h : SlotIn x) : SlotIn (slotTo x) ∧ RSig (slotTo x).sig := by
  have h1 := textsTo_le x.sig.wots 70
  have h2 := textsTo_le x.sig.path 20
  exact ⟨⟨h.l, ⟨h.g.i, Nat.le_trans h1.2.1 h.g.w, Nat.le_trans h2.2.1 h.g.p⟩⟩, ⟨h.g.i, Nat.le_trans h1.1 (by decide), Nat.le_trans h2.1 (by decide), fun y hy => Nat.le_trans (h1.2.2 y hy) (by decide), fun y hy => Nat.le_trans (h2.2.2 y hy) (by decide)⟩⟩
theorem slot_lens {S : (List UInt8)} {q : SlotR} {f : Nat × Nat} (h : RdAns slotC.get S zSlot q f) : q.sig.wots.length ≤ maxLen ∧ q.sig.path.length ≤ maxLen := by
  unfold RdAns at h
  have hm : 67 ≤ maxLen := by decide
  cases hw : wholeG slotC.get S with
  | error e => rw [hw] at h; rw [h.1]; exact ⟨Nat.zero_le _, Nat.zero_le _⟩
  | ok p =>
    rw [hw] at h
    rw [h.1]
    obtain ⟨h1, _⟩ := whole_back _ hw
    obtain ⟨_, _, h5⟩ := (slot_ok p).1 h1
    unfold maySigB at h5
    rw [Bool.and_eq_true, mayB_iff, mayB_iff] at h5
    exact ⟨by omega, by omega⟩
theorem slot_pr (S : (List UInt8)) (w : World) (hG : GlobW w) (hS : S.length ≤ 1000000) (hgl : 4 ≤ w.heap.size) :
    Calls Tryz.prog 21 #[.string ⟨S.toArray⟩] w fun e w' => ∃ (q : SlotR) (ya yp : Option Addr) (yc yd : Nat) (v : Value) (f : Nat × Nat), e = .returned (.tuple #[slotV ⟨q, ya, yc, yp, yd⟩, v]) ∧ Hid (PrAns slotC.get S zSlot q f v w w' ∧ SlotM ⟨q, ya, yc, yp, yd⟩ w') := by
  refine (wreadSlot_any S w hG hS hgl).mono fun e w' hA => ?_
  rw [AnsSlot] at hA
  rcases hr : wholeG slotC.get S with ⟨c, b⟩ | q
  · rw [hr] at hA
    obtain ⟨hc, ⟨v, rfl, hv⟩, hb⟩ := hA
    exact ⟨zSlot, none, none, 0, 0, v, (c, b), rfl, Lib.hid ⟨⟨by unfold RdAns; rw [hr]; exact ⟨rfl, rfl, by omega⟩, hv, hb⟩, ⟨.inl rfl, .inl rfl⟩⟩⟩
  · rw [hr] at hA
    obtain ⟨⟨⟨r, ya, yc, yp, yd⟩, hy, rfl, h1, h2⟩, hb⟩ := hA
    simp only at hy
    subst hy
    exact ⟨r, ya, yp, yc, yd, .nilIface, (0, 0), rfl, Lib.hid ⟨⟨by unfold RdAns; rw [hr]; exact ⟨rfl, rfl⟩, errV_nil _ _ _, hb⟩, ⟨h1.strs, h2.strs⟩⟩⟩
theorem Wt.sets {w0 wz wa : World} {T : TypeId} {cs cs2 ts : Array Value} (hg : GlobW w0) (h : Wt w0 T cs ts wz) (ho : Only w0.heap.size wz wa) (hx : wa.heap[w0.heap.size]? = some (.cells cs2 T (0, 0))) : Wt w0 T cs2 ts wa := by
  have o := h.k.o.trans (ho.below (Nat.le_refl _) h.k.o.size)
  exact ⟨⟨hg.next o, Nat.le_trans h.k.gl ho.size, o⟩, hx, (ho.block _ (lit_lt h.t) (by omega)).trans h.t⟩
set_option maxRecDepth 100000 in
set_option maxHeartbeats 4000000 in
theorem slots_any (x : SlotE) (S : (List UInt8)) (at_ by_ : Nat) (stay : Int) (w : World) (hg : GlobW w) (hgl : 4 ≤ w.heap.size) (hx : SlotIn x.r) (hT : SlotT x w) (hS : S.length ≤ maxLen) (hat : at_ < 65536) (hby : by_ < 256) :
    Calls Tryz.prog 4 #[slotV x, .string ⟨S.toArray⟩, .agg #[.int .u16 (at_ : Int), .int .u8 (by_ : Int), .int .i64 stay]] w fun e w' => e = .returned (.bool true) ∧ Below w.heap.size w w' := by
  have HWO := Lib.hid (fun wz (h : Wk w wz) => worksw_any wz h.g h.gl)
  have hxr := slotTo_rs hx
  have HC := Lib.hid (show ∀ wz, Wk w wz → Calls Tryz.prog 18 #[slotV x] wz (fun e w' => ∃ ra rp rc rd, e = .returned (slotV ⟨slotTo x.r, ra, rc, rp, rd⟩) ∧ Hid (Fresh wz.heap.size ra (slotTo x.r).sig.wots w' ∧ Fresh wz.heap.size rp (slotTo x.r).sig.path w') ∧ Below wz.heap.size wz w') from fun wz h => by
    refine (cutslot2_any x wz ⟨hT.m.ws.below (Nat.le_refl _) h.o, hT.m.ps.below (Nat.le_refl _) h.o⟩ hT.wl hT.we hT.pl hT.pe).mono ?_
    rintro e w' ⟨⟨⟨r, ra, rc, rp, rd⟩, hy, rfl, h1, h2⟩, hb⟩
    simp only at hy
    subst hy
    exact ⟨ra, rp, rc, rd, rfl, Lib.hid ⟨h1, h2⟩, hb⟩)
  have HA := Lib.hid (show ∀ ra rp rc rd wz, Wk w wz → SlotM ⟨slotTo x.r, ra, rc, rp, rd⟩ wz → Calls Tryz.prog 19 #[slotV ⟨slotTo x.r, ra, rc, rp, rd⟩] wz (fun e w' => e = .returned (.tuple #[.string ⟨(laySlotP (slotTo x.r)).1.toArray⟩, .int .i64 (laySlotP (slotTo x.r)).2]) ∧ Below wz.heap.size wz w') from fun ra rp rc rd wz h hM => wslot_any ⟨slotTo x.r, ra, rc, rp, rd⟩ wz h.g hxr.1 hM)
  have HR := Lib.hid (fun ra rp rc rd wz (hM : SlotM ⟨slotTo x.r, ra, rc, rp, rd⟩ wz) => rSlot_any (slotTo x.r) ra rp rc rd wz hM hxr.1.l hxr.2)
  have hal := slot_len (slotTo x.r)
  have HT := Lib.hid (fun wz => turned_any (laySlotP (slotTo x.r)).1 at_ by_ stay wz (by omega) hat hby)
  obtain ⟨M, hm1, hm2, hm3⟩ := cut3000 S
  have Hm3 := Lib.hid hm3
  have HSL := Lib.hid (show (S.take 3000).length ≤ 5000 by rw [List.length_take]; omega)
  have HAL := Lib.hid (show (laySlotP (slotTo x.r)).1.length ≤ 5000 by omega)
  have HGW := Lib.hid (And.intro hg hgl)
  have K := Lib.hid (Wt.start hg hgl 48 #[.int .u64 (x.r.l : Int), .bool x.r.signed, .int .u64 (x.r.sig.index : Int), .slice x.wa x.r.sig.wots.length x.wc, .slice x.pa x.r.sig.path.length x.pc] #[.int .u16 (at_ : Int), .int .u8 (by_ : Int), .int .i64 stay])
  have m0 : (0 : Int) ≤ (M : Int) := by omega
  have m1 : (M : Int) ≤ (S.length : Int) := by omega
  have m2 : (S.length : Int) ≤ 9223372036854775807 := by unfold maxLen at hS; omega
  generalize (laySlotP (slotTo x.r)).1 = A at *
  generalize (laySlotP (slotTo x.r)).2 = c at *
  generalize slotTo x.r = R at *
  clear hg hgl hx hT hS hat hby hal hm2 hm3 hxr
  go_enter Tryz.func4, Tryz.ntmps4
  go_upto_region 1 with fail
  change Code.wp _ _ _ _ ((w.alloc (.cells #[.int .u64 (x.r.l : Int), .bool x.r.signed, .int .u64 (x.r.sig.index : Int), .slice x.wa x.r.sig.wots.length x.wc, .slice x.pa x.r.sig.path.length x.pc] 48)).alloc (.cells #[.int .u16 (at_ : Int), .int .u8 (by_ : Int), .int .i64 stay] 27))
  generalize (w.alloc (.cells #[.int .u64 (x.r.l : Int), .bool x.r.signed, .int .u64 (x.r.sig.index : Int), .slice x.wa x.r.sig.wots.length x.wc, .slice x.pa x.r.sig.path.length x.pc] 48)).alloc (.cells #[.int .u16 (at_ : Int), .int .u8 (by_ : Int), .int .i64 stay] 27) = w1 at *
  have x0 := (lit_cell K.out.x 0).trans rfl; have x1 := (lit_cell K.out.x 1).trans rfl; have x2 := (lit_cell K.out.x 2).trans rfl; have x3 := (lit_cell K.out.x 3).trans rfl; have x4 := (lit_cell K.out.x 4).trans rfl
  go_upto_region 2 with (go_at_call 18; refine (HC.out _ K.out.k).mono ?_; rintro e wp ⟨ra, rp, rc, rd, rfl, FR, b2⟩; have K2 := Lib.hid (K.out.next b2); have p0 := (lit_cell K2.out.x 0).trans rfl; have p1 := (lit_cell K2.out.x 1).trans rfl; have p2 := (lit_cell K2.out.x 2).trans rfl; have p3 := (lit_cell K2.out.x 3).trans rfl; have p4 := (lit_cell K2.out.x 4).trans rfl; have q0 := lit_free K2.out.x 0; have q1 := lit_free K2.out.x 1; have q2 := lit_free K2.out.x 2; have q3 := lit_free K2.out.x 3; have q4 := lit_free K2.out.x 4)
  have hset := lit_set (k := 4) (.slice rp R.sig.path.length rd) (lit_set (k := 3) (.slice ra R.sig.wots.length rc) (lit_set (k := 2) (.int .u64 (R.sig.index : Int)) (lit_set (k := 1) (.bool R.signed) (lit_set (k := 0) (.int .u64 (R.l : Int)) K2.out.x))))
  have honly := ((((Only.set w.heap.size 0 (.int .u64 (R.l : Int)) wp).trans (Only.set w.heap.size 1 (.bool R.signed) _)).trans (Only.set w.heap.size 2 (.int .u64 (R.sig.index : Int)) _)).trans (Only.set w.heap.size 3 (.slice ra R.sig.wots.length rc) _)).trans (Only.set w.heap.size 4 (.slice rp R.sig.path.length rd) _)
  have hlow := lit_lt K.out.x
  have SM := Lib.hid (show SlotM ⟨R, ra, rc, rp, rd⟩ _ from ⟨(FR.out.1.only honly hlow).strs, (FR.out.2.only honly hlow).strs⟩)
  have K := Lib.hid (Wt.sets (cs2 := #[.int .u64 (R.l : Int), .bool R.signed, .int .u64 (R.sig.index : Int), .slice ra R.sig.wots.length rc, .slice rp R.sig.path.length rd]) HGW.out.1 K2.out honly hset)
  clear hset honly hlow FR b2 K2 HC x0 x1 x2 x3 x4 p0 p1 p2 p3 p4 q0 q1 q2 q3 q4
  generalize ((((wp.setCell ⟨w.heap.size, 0, none⟩ (.int .u64 (R.l : Int))).setCell ⟨w.heap.size, 1, none⟩ (.bool R.signed)).setCell ⟨w.heap.size, 2, none⟩ (.int .u64 (R.sig.index : Int))).setCell ⟨w.heap.size, 3, none⟩ (.slice ra R.sig.wots.length rc)).setCell ⟨w.heap.size, 4, none⟩ (.slice rp R.sig.path.length rd) = wq at *
  have x0 := (lit_cell K.out.x 0).trans rfl; have x1 := (lit_cell K.out.x 1).trans rfl; have x2 := (lit_cell K.out.x 2).trans rfl; have x3 := (lit_cell K.out.x 3).trans rfl; have x4 := (lit_cell K.out.x 4).trans rfl
  go_wp2_with fail
  refine (HA.out _ _ _ _ _ K.out.k SM.out).mono ?_
  rintro e w2 ⟨rfl, b2⟩
  have K := Lib.hid (K.out.next b2)
  have SM := Lib.hid (SM.out.nx b2)
  clear b2 HA x0 x1 x2 x3 x4
  have x0 := (lit_cell K.out.x 0).trans rfl; have x1 := (lit_cell K.out.x 1).trans rfl; have x2 := (lit_cell K.out.x 2).trans rfl; have x3 := (lit_cell K.out.x 3).trans rfl; have x4 := (lit_cell K.out.x 4).trans rfl
  go_wp2_with fail
  refine (HR.out _ _ _ _ _ SM.out).mono ?_
  rintro e w3 ⟨rfl, b2⟩
  have K := Lib.hid (K.out.next b2)
  clear b2 HR SM x0 x1 x2 x3 x4
  have t0 : w3.cell? ⟨w.heap.size + 1, 0, none⟩ = some (.int .u16 (at_ : Int)) := (lit_cell K.out.t 0).trans rfl
  have t1 : w3.cell? ⟨w.heap.size + 1, 1, none⟩ = some (.int .u8 (by_ : Int)) := (lit_cell K.out.t 1).trans rfl
  have t2 : w3.cell? ⟨w.heap.size + 1, 2, none⟩ = some (.int .i64 stay) := (lit_cell K.out.t 2).trans rfl
  go_upto_region 6 with fail
  have htb : w.heap.size + 1 < w3.heap.size := lit_lt K.out.t
  have HNE := Lib.hid (show w3.heap.size ≠ w.heap.size + 1 by omega)
  go_cut [11] from 17 (fun s11 wx => ∃ (B : Nat) (T : (List UInt8)), s11 = .pointer (some ⟨B, 0, none⟩) ∧ Hid (T.length ≤ 5000) ∧ Hid (Wt w 48 #[.int .u64 (R.l : Int), .bool R.signed, .int .u64 (R.sig.index : Int), .slice ra R.sig.wots.length rc, .slice rp R.sig.path.length rd] #[.int .u16 (at_ : Int), .int .u8 (by_ : Int), .int .i64 stay] wx ∧ wx.heap[B]? = some (.cells #[.string ⟨(S.take 3000).toArray⟩, .string ⟨A.toArray⟩, .string ⟨T.toArray⟩] 32 (0, 0))))
  case first =>
    go_region_held3 (fun w' => w'.cell? ⟨w.heap.size + 1, 0, none⟩ = some (.int .u16 (at_ : Int)) ∧ w'.cell? ⟨w.heap.size + 1, 1, none⟩ = some (.int .u8 (by_ : Int)) ∧ w'.cell? ⟨w.heap.size + 1, 2, none⟩ = some (.int .i64 stay) ∧ w.heap.size + 1 < w'.heap.size)
      (first | (with_reducible assumption) | (with_reducible exact tuD t0 t1 t2 htb) | (with_reducible exact tuE t0 t1 t2 htb) | (with_reducible refine tuA ?_; with_reducible assumption) | (with_reducible refine tuB ?_ b4; with_reducible assumption) | (with_reducible refine tuC ?_ ?_ <;> first | (with_reducible assumption) | omega))
      (first
        | (go_at_call 13; refine (HT.out _).mono ?_; rintro e w4 ⟨T, rfl, hTl, b4⟩; have hSa := tuB (by with_reducible assumption) b4; (try (have hz4 := tuZ b4; have z0 := (lit_cell hz4 0).trans rfl; have z1 := (lit_cell hz4 1).trans rfl; have z2 := (lit_cell hz4 2).trans rfl; have zf0 := lit_free hz4 0; have zf1 := lit_free hz4 1; have zf2 := lit_free hz4 2))))
    all_goals go_wp2
    all_goals go_meet
    all_goals try rw [Hm3.out]
    all_goals
      first
        | exact ⟨_, T, rfl, Lib.hid (Nat.le_trans hTl HAL.out), Lib.hid (endA K.out b4 _)⟩
        | exact ⟨_, T, rfl, Lib.hid (Nat.le_trans hTl HAL.out), Lib.hid (endB K.out b4 _ _ _)⟩
  case rest =>
  obtain ⟨B, T, rfl, HTL, X⟩ := hcut
  have HE := Lib.hid (show ∀ k : Nat, k < 3 → ∃ U : (List UInt8), (#[.string ⟨(S.take 3000).toArray⟩, .string ⟨A.toArray⟩, .string ⟨T.toArray⟩] : Array Value)[k]? = some (.string ⟨U.toArray⟩) ∧ U.length ≤ 5000 from fun k hk => by
    obtain rfl | rfl | rfl : k = 0 ∨ k = 1 ∨ k = 2 := by omega
    · exact ⟨_, rfl, HSL.out⟩
    · exact ⟨_, rfl, HAL.out⟩
    · exact ⟨_, rfl, HTL.out⟩)
  clear t0 t1 t2 htb HNE HSL HAL HTL K HT Hm3 hm1 m0 m1 m2
  generalize (#[.string ⟨(S.take 3000).toArray⟩, .string ⟨A.toArray⟩, .string ⟨T.toArray⟩] : Array Value) = AR at *
  go_wp2
  go_loopw [12] (fun i wr => ∃ k : Nat, k ≤ 3 ∧ i = .int .i64 (k : Int) ∧ Hid (Wt w 48 #[.int .u64 (R.l : Int), .bool R.signed, .int .u64 (R.sig.index : Int), .slice ra R.sig.wots.length rc, .slice rp R.sig.path.length rd] #[.int .u16 (at_ : Int), .int .u8 (by_ : Int), .int .i64 stay] wr ∧ wr.heap[B]? = some (.cells AR 32 (0, 0))))
    (fun i _ => 3 - (intOf i).toNat)
  case atStart => exact ⟨0, by omega, rfl, X⟩
  case round =>
    obtain ⟨k, hk, rfl, X⟩ := hrel
    by_cases hlt : k < 3
    · obtain ⟨U, hU, hUl⟩ := HE.out k hlt
      have hcell := (lit_cell X.out.2 k).trans hU
      have HP := Lib.hid (slot_pr U wr X.out.1.k.g (by omega) X.out.1.k.gl)
      have HR := Lib.hid (fun wz => rReadslot_any U wz hUl)
      have k0 : (0 : Int) ≤ (k : Int) := by omega
      have k1 : (k : Int) < 3 := by omega
      have HU := Lib.hid hU
      clear hU hUl
      go_upto_region 11 with (go_at_call 21; refine HP.out.mono ?_; rintro e w5 ⟨q, ya, yp, yc, yd, v, f, rfl, HQ⟩)
      change Code.wp _ _ _ _ (w5.alloc (.cells #[.int .u64 (q.l : Int), .bool q.signed, .int .u64 (q.sig.index : Int), .slice ya q.sig.wots.length yc, .slice yp q.sig.path.length yd] 48))
      have hb := by0 w5 (.cells #[.int .u64 (q.l : Int), .bool q.signed, .int .u64 (q.sig.index : Int), .slice ya q.sig.wots.length yc, .slice yp q.sig.path.length yd] 48)
      have hy := heap_alloc_new w5 (.cells #[.int .u64 (q.l : Int), .bool q.signed, .int .u64 (q.sig.index : Int), .slice ya q.sig.wots.length yc, .slice yp q.sig.path.length yd] 48)
      have hb2 := HQ.out.1.b.trans (hb.mono HQ.out.1.b.size)
      have X := Lib.hid (show Wt w 48 #[.int .u64 (R.l : Int), .bool R.signed, .int .u64 (R.sig.index : Int), .slice ra R.sig.wots.length rc, .slice rp R.sig.path.length rd] #[.int .u16 (at_ : Int), .int .u8 (by_ : Int), .int .i64 stay] _ ∧ _ from ⟨X.out.1.next hb2, (hb2.block B (lit_lt X.out.2)).trans X.out.2⟩)
      have V := Lib.hid (HQ.out.1.v.next hb)
      have SY := Lib.hid (HQ.out.2.nx hb)
      have RA := Lib.hid HQ.out.1.r
      generalize w5.alloc (.cells #[.int .u64 (q.l : Int), .bool q.signed, .int .u64 (q.sig.index : Int), .slice ya q.sig.wots.length yc, .slice yp q.sig.path.length yd] 48) = w6 at *
      generalize w5.heap.size = Y at *
      have HY := Lib.hid hy
      clear hb hb2 hy HQ HP hcell
      have hcell := (lit_cell X.out.2 k).trans HU.out
      go_upto_region 12 with (go_at_call 22; refine (HR.out _).mono ?_; rintro e w7 ⟨q2, za, zp, zc, zd, f2, rfl, RB, b7⟩; obtain ⟨hq2, hf2⟩ := RA.out.det RB.out.1; subst hq2; subst hf2; obtain ⟨fc, fb⟩ := f2)
      change Code.wp _ _ _ _ ((w7.alloc (.cells #[.int .u64 (q2.l : Int), .bool q2.signed, .int .u64 (q2.sig.index : Int), .slice za q2.sig.wots.length zc, .slice zp q2.sig.path.length zd] 48)).alloc (.cells #[.int .i64 (fc : Int), .int .i64 (fb : Int)] 38))
      have hb : Below w7.heap.size w7 ((w7.alloc (.cells #[.int .u64 (q2.l : Int), .bool q2.signed, .int .u64 (q2.sig.index : Int), .slice za q2.sig.wots.length zc, .slice zp q2.sig.path.length zd] 48)).alloc (.cells #[.int .i64 (fc : Int), .int .i64 (fb : Int)] 38)) := (by0 w7 _).alloc (by simp) _
      have hz1 : ((w7.alloc (.cells #[.int .u64 (q2.l : Int), .bool q2.signed, .int .u64 (q2.sig.index : Int), .slice za q2.sig.wots.length zc, .slice zp q2.sig.path.length zd] 48)).alloc (.cells #[.int .i64 (fc : Int), .int .i64 (fb : Int)] 38)).heap[w7.heap.size]? = some (.cells #[.int .u64 (q2.l : Int), .bool q2.signed, .int .u64 (q2.sig.index : Int), .slice za q2.sig.wots.length zc, .slice zp q2.sig.path.length zd] 48 (0, 0)) := lit_old _ (heap_alloc_new w7 _)
      have hz2 : ((w7.alloc (.cells #[.int .u64 (q2.l : Int), .bool q2.signed, .int .u64 (q2.sig.index : Int), .slice za q2.sig.wots.length zc, .slice zp q2.sig.path.length zd] 48)).alloc (.cells #[.int .i64 (fc : Int), .int .i64 (fb : Int)] 38)).heap[w7.heap.size + 1]? = some (.cells #[.int .i64 (fc : Int), .int .i64 (fb : Int)] 38 (0, 0)) := by
        rw [show w7.heap.size + 1 = (w7.alloc (.cells #[.int .u64 (q2.l : Int), .bool q2.signed, .int .u64 (q2.sig.index : Int), .slice za q2.sig.wots.length zc, .slice zp q2.sig.path.length zd] 48)).heap.size by simp]; exact heap_alloc_new _ _
      have hb2 := b7.trans (hb.mono b7.size)
      have X := Lib.hid (show Wt w 48 #[.int .u64 (R.l : Int), .bool R.signed, .int .u64 (R.sig.index : Int), .slice ra R.sig.wots.length rc, .slice rp R.sig.path.length rd] #[.int .u16 (at_ : Int), .int .u8 (by_ : Int), .int .i64 stay] _ ∧ _ from ⟨X.out.1.next hb2, (hb2.block B (lit_lt X.out.2)).trans X.out.2⟩)
      have hy := (hb2.block Y (lit_lt HY.out)).trans HY.out
      have SY := Lib.hid (SY.out.nx hb2)
      have SZ := Lib.hid (RB.out.2.nx hb)
      have hln := slot_lens RB.out.1
      have HSM := Lib.hid (rsameslot_any q2 ya yp za zp yc yd zc zd _ hln.1 hln.2 SY.out SZ.out)
      have HTD := Lib.hid (fun wz (hz : Below _ _ wz) => lawtold_any _ (fc : Int) (fb : Int) (fb : Int) v wz (X.out.1.k.next hz).g.u.e ((V.out.next hb2).next hz) (fun _ => rfl))
      generalize (w7.alloc (.cells #[.int .u64 (q2.l : Int), .bool q2.signed, .int .u64 (q2.sig.index : Int), .slice za q2.sig.wots.length zc, .slice zp q2.sig.path.length zd] 48)).alloc (.cells #[.int .i64 (fc : Int), .int .i64 (fb : Int)] 38) = w8 at *
      have y0 := (lit_cell hy 0).trans rfl; have y1 := (lit_cell hy 1).trans rfl; have y2 := (lit_cell hy 2).trans rfl; have y3 := (lit_cell hy 3).trans rfl; have y4 := (lit_cell hy 4).trans rfl
      have z0 := (lit_cell hz1 0).trans rfl; have z1 := (lit_cell hz1 1).trans rfl; have z2 := (lit_cell hz1 2).trans rfl; have z3 := (lit_cell hz1 3).trans rfl; have z4 := (lit_cell hz1 4).trans rfl
      have HG2 := Lib.hid hz2
      clear hb hb2 hy hz1 hz2 b7 HY RA RB V HR HU hcell SY SZ hln
      go_wp2_with (first
        | (go_at_call 23; with_reducible refine HSM.out.mono ?_; rintro e w9 ⟨rfl, b9⟩; have hg9 := (b9.block _ (lit_lt HG2.out)).trans HG2.out; have g0 := (lit_cell hg9 0).trans rfl; have g1 := (lit_cell hg9 1).trans rfl)
        | (go_at_call 16; with_reducible refine (HTD.out _ b9).mono ?_; rintro e w10 ⟨rfl, b10⟩))
      have b11 := b9.trans (b10.mono b9.size)
      have X := Lib.hid (show Wt w 48 #[.int .u64 (R.l : Int), .bool R.signed, .int .u64 (R.sig.index : Int), .slice ra R.sig.wots.length rc, .slice rp R.sig.path.length rd] #[.int .u16 (at_ : Int), .int .u8 (by_ : Int), .int .i64 stay] _ ∧ _ from ⟨X.out.1.next b11, (b11.block B (lit_lt X.out.2)).trans X.out.2⟩)
      clear b9 b10 b11
      go_wp2
      go_roundw
      case rel => exact ⟨k + 1, by omega, by go_num, X⟩
      case measure => simp [intOf]; omega
    · have k1 : ¬ (k : Int) < 3 := by omega
      clear hlt hk
      go_wp2_with fail
      refine (HWO.out _ X.out.1.k).mono ?_
      rintro e w9 ⟨rfl, b9⟩
      go_wp2
      go_ret
      exact ⟨rfl, (X.out.1.k.next b9).o⟩
end Go.Proofs.YtgdhljbcclbfaaaGreatDoor
