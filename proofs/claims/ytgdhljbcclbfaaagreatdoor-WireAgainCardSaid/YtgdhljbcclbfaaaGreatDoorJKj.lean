/- The law's WireAgain: small things come back; bytes that are read are laid again just so. -/
import Derived.Test.YtgdhljbcclbfaaaGreatDoorJ28
import Derived.Test.YtgdhljbcclbfaaaGreatDoorJ29
import Derived.Deep.Cut
namespace Go.Proofs.YtgdhljbcclbfaaaGreatDoor
open Go.RowKit

theorem text_cutN (X : (List UInt8)) (N : Nat) : (∃ m : Nat, min (X.length : Int) (N : Int) = (m : Int) ∧ m ≤ X.length ∧ (⟨X.toArray⟩ : ByteArray).extract 0 m = ⟨(X.take N).toArray⟩) := by
  refine ⟨min X.length N, by omega, by omega, ?_⟩
  rw [extract_list, List.drop_zero]
  congr 2
  by_cases h : X.length ≤ N
  · rw [Nat.min_eq_left h, List.take_of_length_le (Nat.le_refl _), List.take_of_length_le h]
  · rw [Nat.min_eq_right (by omega)]
theorem textsTo_len (L : List (List UInt8)) (k : Nat) : (textsTo L k).length ≤ k ∧ (textsTo L k).length ≤ L.length := by
  rw [textsTo, List.length_map, List.length_take]; omega
theorem slotTo_in {x : SlotR} (h : SlotIn x) : SlotIn (slotTo x) := by
  have h1 := (textsTo_len x.sig.wots 70).2
  have h2 := (textsTo_len x.sig.path 20).2
  exact ⟨h.l, ⟨h.g.i, Nat.le_trans h1 h.g.w, Nat.le_trans h2 h.g.p⟩⟩
theorem SlotM.next {y : SlotE} {w w' : World} (h : SlotM y w) (hb : Below w.heap.size w w') : SlotM y w' := ⟨h.ws.below (Nat.le_refl _) hb, h.ps.below (Nat.le_refl _) hb⟩
/-- what the walk keeps, besides: the things, boxed -/
structure Wq (w0 : World) (X : Nat) (cs : Array Value) (wz : World) : Prop where
  k : Wk w0 wz
  x : wz.heap[X]? = some (.cells cs 88 (0, 0))
theorem Wq.next {w0 wz wa : World} {X : Nat} {cs : Array Value} (h : Wq w0 X cs wz) (hb : Below wz.heap.size wz wa) : Wq w0 X cs wa := ⟨h.k.next hb, (hb.block X (lit_lt h.x)).trans h.x⟩

theorem part_red (S : (List UInt8)) (w : World) (hG : GlobW w) (hS : S.length ≤ 1000000) (hgl : 4 ≤ w.heap.size) :
    Calls Tryz.prog 14 #[.string ⟨S.toArray⟩] w fun e w' => Below w.heap.size w w' ∧ ∃ (q : PartR) (v : Value), e = .returned (.tuple #[partV q, v]) ∧ Hid ((v = .nilIface ∧ PartIn q ∧ layPartP q = (S, 0)) ∨ ∃ g, v = .iface 106 (.pointer (some ⟨g, 0, none⟩))) := by
  refine (rpart_any S w hG hS hgl).mono ?_
  rintro e w' ⟨hb, q, h⟩
  rcases h with ⟨rfl, h1, h2⟩ | ⟨g, rfl⟩
  · exact ⟨hb, q, _, rfl, Lib.hid (.inl ⟨rfl, h1, h2⟩)⟩
  · exact ⟨hb, q, _, rfl, Lib.hid (.inr ⟨g, rfl⟩)⟩
theorem msg_red (S : (List UInt8)) (w : World) (hG : GlobW w) (hS : S.length ≤ 1000000) (hgl : 4 ≤ w.heap.size) :
    Calls Tryz.prog 34 #[.string ⟨S.toArray⟩] w fun e w' => Below w.heap.size w w' ∧ ∃ (q : MsgR) (v : Value), e = .returned (.tuple #[msgV q, v]) ∧ Hid ((v = .nilIface ∧ MsgIn q ∧ layMsgP q = (S, 0)) ∨ ∃ g, v = .iface 106 (.pointer (some ⟨g, 0, none⟩))) := by
  refine (rmsg_any S w hG hS hgl).mono ?_
  rintro e w' ⟨hb, q, h⟩
  rcases h with ⟨rfl, h1, h2⟩ | ⟨g, rfl⟩
  · exact ⟨hb, q, _, rfl, Lib.hid (.inl ⟨rfl, h1, h2⟩)⟩
  · exact ⟨hb, q, _, rfl, Lib.hid (.inr ⟨g, rfl⟩)⟩
theorem hdr_red (S : (List UInt8)) (w : World) (hG : GlobW w) (hS : S.length ≤ 1000000) (hgl : 4 ≤ w.heap.size) :
    Calls Tryz.prog 36 #[.string ⟨S.toArray⟩] w fun e w' => Below w.heap.size w w' ∧ ∃ (q : HdrR) (v : Value), e = .returned (.tuple #[hdrV q, v]) ∧ Hid ((v = .nilIface ∧ q.round < 18446744073709551616 ∧ layHdrP q = (S, 0)) ∨ ∃ g, v = .iface 106 (.pointer (some ⟨g, 0, none⟩))) := by
  refine (rhdr_any S w hG hS hgl).mono ?_
  rintro e w' ⟨hb, q, h⟩
  rcases h with ⟨rfl, h1, h2⟩ | ⟨g, rfl⟩
  · exact ⟨hb, q, _, rfl, Lib.hid (.inl ⟨rfl, h1, h2⟩)⟩
  · exact ⟨hb, q, _, rfl, Lib.hid (.inr ⟨g, rfl⟩)⟩
theorem slot_red (S : (List UInt8)) (w : World) (hG : GlobW w) (hS : S.length ≤ 1000000) (hgl : 4 ≤ w.heap.size) :
    Calls Tryz.prog 21 #[.string ⟨S.toArray⟩] w fun e w' => Below w.heap.size w w' ∧ ∃ (q : SlotR) (ya : Option Addr) (yc : Nat) (yp : Option Addr) (yd : Nat) (v : Value), e = .returned (.tuple #[.agg #[.int .u64 (q.l : Int), .bool q.signed, .int .u64 (q.sig.index : Int), .slice ya q.sig.wots.length yc, .slice yp q.sig.path.length yd], v]) ∧ Hid ((v = .nilIface ∧ SlotIn q ∧ laySlotP q = (S, 0) ∧ SlotM ⟨q, ya, yc, yp, yd⟩ w') ∨ ∃ g, v = .iface 106 (.pointer (some ⟨g, 0, none⟩))) := by
  refine (rslot_any S w hG hS hgl).mono ?_
  rintro e w' ⟨hb, ⟨q, ya, yc, yp, yd⟩, h⟩
  rcases h with ⟨rfl, h1, h2, h3⟩ | ⟨g, rfl⟩
  · exact ⟨hb, q, ya, yc, yp, yd, _, rfl, Lib.hid (.inl ⟨rfl, h1, h2, h3⟩)⟩
  · exact ⟨hb, q, ya, yc, yp, yd, _, rfl, Lib.hid (.inr ⟨g, rfl⟩)⟩

set_option maxRecDepth 100000 in
set_option maxHeartbeats 4000000 in
theorem again_any (p : PartR) (x : SlotE) (m : MsgR) (t : HdrR) (S : (List UInt8)) (w : World) (hg : GlobW w) (hgl : 4 ≤ w.heap.size) (hp : PartIn p) (hx : SlotIn x.r) (hT : SlotT x w) (hm : MsgIn m) (ht : t.round < 18446744073709551616) (hS : S.length ≤ maxLen) :
    Calls Tryz.prog 8 #[smallV p x m t, .string ⟨S.toArray⟩] w fun e w' => e = .returned (.bool true) ∧ Below w.heap.size w w' := by
  have HWO := Lib.hid (fun wz (h : Wk w wz) => worksw_any wz h.g h.gl)
  have HA1 := Lib.hid (fun wz (h : Wk w wz) => wpart_any p wz h.g hp)
  have HB1 := Lib.hid (fun (hc : (layPartP p).2 = 0) wz (h : Wk w wz) => rpart_back p wz h.g hp hc h.gl)
  have HC2 := Lib.hid (show ∀ wz, Wk w wz → Calls Tryz.prog 18 #[slotV x] wz (fun e w' => ∃ ya yc yp yd, e = .returned (slotV ⟨slotTo x.r, ya, yc, yp, yd⟩) ∧ Hid (SlotM ⟨slotTo x.r, ya, yc, yp, yd⟩ w') ∧ Below wz.heap.size wz w') from fun wz h => by
    refine (cutslot_any x wz ⟨hT.m.ws.below (Nat.le_refl _) h.o, hT.m.ps.below (Nat.le_refl _) h.o⟩ hT.wl hT.we hT.pl hT.pe).mono ?_
    rintro e w' ⟨⟨⟨r, ya, yc, yp, yd⟩, hy, rfl, hM⟩, hb⟩
    simp only at hy
    subst hy
    exact ⟨ya, yc, yp, yd, rfl, Lib.hid hM, hb⟩)
  have hin := slotTo_in hx
  have HA2 := Lib.hid (show ∀ ya yc yp yd wz, Wk w wz → SlotM ⟨slotTo x.r, ya, yc, yp, yd⟩ wz → Calls Tryz.prog 19 #[slotV ⟨slotTo x.r, ya, yc, yp, yd⟩] wz (fun e w' => e = .returned (.tuple #[.string ⟨(laySlotP (slotTo x.r)).1.toArray⟩, .int .i64 (laySlotP (slotTo x.r)).2]) ∧ Below wz.heap.size wz w') from fun ya yc yp yd wz h hM => wslot_any ⟨slotTo x.r, ya, yc, yp, yd⟩ wz h.g hin hM)
  have HB2 := Lib.hid (show ∀ (_ : (laySlotP (slotTo x.r)).2 = 0) wz, Wk w wz → Calls Tryz.prog 21 #[.string ⟨(laySlotP (slotTo x.r)).1.toArray⟩] wz (fun e w' => ∃ ya yc yp yd, e = .returned (.tuple #[slotV ⟨slotTo x.r, ya, yc, yp, yd⟩, .nilIface]) ∧ Hid (SlotM ⟨slotTo x.r, ya, yc, yp, yd⟩ w') ∧ Below wz.heap.size wz w') from fun hc wz h => by
    refine (rslot_back (slotTo x.r) wz h.g hin hc h.gl).mono ?_
    rintro e w' ⟨⟨⟨r, ya, yc, yp, yd⟩, hy, rfl, hM⟩, hb⟩
    simp only at hy
    subst hy
    exact ⟨ya, yc, yp, yd, rfl, Lib.hid hM, hb⟩)
  have hw70 := (textsTo_len x.r.sig.wots 70).1
  have hp20 := (textsTo_len x.r.sig.path 20).1
  have HS2 := Lib.hid (fun wa wc pa pc wb wd pb pd wz (h1 : SlotM ⟨slotTo x.r, wa, wc, pa, pc⟩ wz) (h2 : SlotM ⟨slotTo x.r, wb, wd, pb, pd⟩ wz) => sameslot_any (slotTo x.r) wa pa wb pb wc pc wd pd wz (Nat.le_trans hw70 (by decide)) (Nat.le_trans hp20 (by decide)) h1 h2)
  have HA3 := Lib.hid (fun wz (h : Wk w wz) => wmsg_any m wz h.g hm)
  have HB3 := Lib.hid (fun (hc : (layMsgP m).2 = 0) wz (h : Wk w wz) => rmsg_back m wz h.g hm hc h.gl)
  have HA4 := Lib.hid (fun wz (h : Wk w wz) => whdr_any t wz h.g ht)
  have HB4 := Lib.hid (fun (hc : (layHdrP t).2 = 0) wz (h : Wk w wz) => rhdr_back t wz h.g ht hc h.gl)
  obtain ⟨M, hm1, hm2, hm3⟩ := (show ∃ m : Nat, min (S.length : Int) 3000 = (m : Int) ∧ m ≤ S.length ∧ (⟨S.toArray⟩ : ByteArray).extract 0 m = ⟨(S.take 3000).toArray⟩ from text_cutN S 3000)
  have Hm3 := Lib.hid hm3
  have hTl : (S.take 3000).length ≤ 1000000 := by rw [List.length_take]; omega
  have HR1 := Lib.hid (fun wz (h : Wk w wz) => part_red (S.take 3000) wz h.g hTl h.gl)
  have HR2 := Lib.hid (fun wz (h : Wk w wz) => slot_red (S.take 3000) wz h.g hTl h.gl)
  have HR3 := Lib.hid (fun wz (h : Wk w wz) => msg_red (S.take 3000) wz h.g hTl h.gl)
  have HR4 := Lib.hid (fun wz (h : Wk w wz) => hdr_red (S.take 3000) wz h.g hTl h.gl)
  have K := Lib.hid (show Wq w w.heap.size #[.string ⟨p.root.toArray⟩, .int .u64 (p.weight : Int), .int .u64 (p.first : Int), .int .u64 (p.life : Int), .int .u64 (p.keys : Int), .int .u64 (x.r.l : Int), .bool x.r.signed, .int .u64 (x.r.sig.index : Int), .slice x.wa x.r.sig.wots.length x.wc, .slice x.pa x.r.sig.path.length x.pc, .string ⟨m.headers.toArray⟩, .string ⟨m.parts.toArray⟩, .int .u64 (m.count : Int), .int .u64 (m.proven : Int), .int .u64 (m.first : Int), .int .u64 (m.last : Int), .int .u64 (t.round : Int), .string ⟨t.prev.toArray⟩, .string ⟨t.txns.toArray⟩, .string ⟨t.seed.toArray⟩] (w.alloc (.cells #[.string ⟨p.root.toArray⟩, .int .u64 (p.weight : Int), .int .u64 (p.first : Int), .int .u64 (p.life : Int), .int .u64 (p.keys : Int), .int .u64 (x.r.l : Int), .bool x.r.signed, .int .u64 (x.r.sig.index : Int), .slice x.wa x.r.sig.wots.length x.wc, .slice x.pa x.r.sig.path.length x.pc, .string ⟨m.headers.toArray⟩, .string ⟨m.parts.toArray⟩, .int .u64 (m.count : Int), .int .u64 (m.proven : Int), .int .u64 (m.first : Int), .int .u64 (m.last : Int), .int .u64 (t.round : Int), .string ⟨t.prev.toArray⟩, .string ⟨t.txns.toArray⟩, .string ⟨t.seed.toArray⟩] 88)) from ⟨(show Wk w w from ⟨hg, hgl, Below.refl _ _⟩).next (by0 w _), heap_alloc_new w _⟩)
  have HC := Lib.hid (show ∀ wz, Wq w w.heap.size #[.string ⟨p.root.toArray⟩, .int .u64 (p.weight : Int), .int .u64 (p.first : Int), .int .u64 (p.life : Int), .int .u64 (p.keys : Int), .int .u64 (x.r.l : Int), .bool x.r.signed, .int .u64 (x.r.sig.index : Int), .slice x.wa x.r.sig.wots.length x.wc, .slice x.pa x.r.sig.path.length x.pc, .string ⟨m.headers.toArray⟩, .string ⟨m.parts.toArray⟩, .int .u64 (m.count : Int), .int .u64 (m.proven : Int), .int .u64 (m.first : Int), .int .u64 (m.last : Int), .int .u64 (t.round : Int), .string ⟨t.prev.toArray⟩, .string ⟨t.txns.toArray⟩, .string ⟨t.seed.toArray⟩] wz → wz.cell? ⟨w.heap.size, 0, none⟩ = some (.string ⟨p.root.toArray⟩) ∧ wz.cell? ⟨w.heap.size, 1, none⟩ = some (.int .u64 (p.weight : Int)) ∧ wz.cell? ⟨w.heap.size, 2, none⟩ = some (.int .u64 (p.first : Int)) ∧ wz.cell? ⟨w.heap.size, 3, none⟩ = some (.int .u64 (p.life : Int)) ∧ wz.cell? ⟨w.heap.size, 4, none⟩ = some (.int .u64 (p.keys : Int)) ∧ wz.cell? ⟨w.heap.size, 5, none⟩ = some (.int .u64 (x.r.l : Int)) ∧ wz.cell? ⟨w.heap.size, 6, none⟩ = some (.bool x.r.signed) ∧ wz.cell? ⟨w.heap.size, 7, none⟩ = some (.int .u64 (x.r.sig.index : Int)) ∧ wz.cell? ⟨w.heap.size, 8, none⟩ = some (.slice x.wa x.r.sig.wots.length x.wc) ∧ wz.cell? ⟨w.heap.size, 9, none⟩ = some (.slice x.pa x.r.sig.path.length x.pc) ∧ wz.cell? ⟨w.heap.size, 10, none⟩ = some (.string ⟨m.headers.toArray⟩) ∧ wz.cell? ⟨w.heap.size, 11, none⟩ = some (.string ⟨m.parts.toArray⟩) ∧ wz.cell? ⟨w.heap.size, 12, none⟩ = some (.int .u64 (m.count : Int)) ∧ wz.cell? ⟨w.heap.size, 13, none⟩ = some (.int .u64 (m.proven : Int)) ∧ wz.cell? ⟨w.heap.size, 14, none⟩ = some (.int .u64 (m.first : Int)) ∧ wz.cell? ⟨w.heap.size, 15, none⟩ = some (.int .u64 (m.last : Int)) ∧ wz.cell? ⟨w.heap.size, 16, none⟩ = some (.int .u64 (t.round : Int)) ∧ wz.cell? ⟨w.heap.size, 17, none⟩ = some (.string ⟨t.prev.toArray⟩) ∧ wz.cell? ⟨w.heap.size, 18, none⟩ = some (.string ⟨t.txns.toArray⟩) ∧ wz.cell? ⟨w.heap.size, 19, none⟩ = some (.string ⟨t.seed.toArray⟩) from fun wz h => ⟨(lit_cell h.x 0).trans rfl, (lit_cell h.x 1).trans rfl, (lit_cell h.x 2).trans rfl, (lit_cell h.x 3).trans rfl, (lit_cell h.x 4).trans rfl, (lit_cell h.x 5).trans rfl, (lit_cell h.x 6).trans rfl, (lit_cell h.x 7).trans rfl, (lit_cell h.x 8).trans rfl, (lit_cell h.x 9).trans rfl, (lit_cell h.x 10).trans rfl, (lit_cell h.x 11).trans rfl, (lit_cell h.x 12).trans rfl, (lit_cell h.x 13).trans rfl, (lit_cell h.x 14).trans rfl, (lit_cell h.x 15).trans rfl, (lit_cell h.x 16).trans rfl, (lit_cell h.x 17).trans rfl, (lit_cell h.x 18).trans rfl, (lit_cell h.x 19).trans rfl⟩)
  have m0 : (0 : Int) ≤ (M : Int) := by omega
  have m1 : (M : Int) ≤ (S.length : Int) := by omega
  have m2 : (S.length : Int) ≤ 9223372036854775807 := by unfold maxLen at hS; omega
  generalize (layPartP p).1 = A1 at *
  generalize (layPartP p).2 = c1 at *
  generalize (laySlotP (slotTo x.r)).1 = A2 at *
  generalize (laySlotP (slotTo x.r)).2 = c2 at *
  generalize (layMsgP m).1 = A3 at *
  generalize (layMsgP m).2 = c3 at *
  generalize (layHdrP t).1 = A4 at *
  generalize (layHdrP t).2 = c4 at *
  clear hg hgl hp hx hT hm ht hS hin hw70 hp20 hm2 hm3 hTl
  go_enter Tryz.func8, Tryz.ntmps8
  go_upto_region 1 with fail
  change Code.wp _ _ _ _ (w.alloc (.cells #[.string ⟨p.root.toArray⟩, .int .u64 (p.weight : Int), .int .u64 (p.first : Int), .int .u64 (p.life : Int), .int .u64 (p.keys : Int), .int .u64 (x.r.l : Int), .bool x.r.signed, .int .u64 (x.r.sig.index : Int), .slice x.wa x.r.sig.wots.length x.wc, .slice x.pa x.r.sig.path.length x.pc, .string ⟨m.headers.toArray⟩, .string ⟨m.parts.toArray⟩, .int .u64 (m.count : Int), .int .u64 (m.proven : Int), .int .u64 (m.first : Int), .int .u64 (m.last : Int), .int .u64 (t.round : Int), .string ⟨t.prev.toArray⟩, .string ⟨t.txns.toArray⟩, .string ⟨t.seed.toArray⟩] 88))
  generalize w.alloc (.cells #[.string ⟨p.root.toArray⟩, .int .u64 (p.weight : Int), .int .u64 (p.first : Int), .int .u64 (p.life : Int), .int .u64 (p.keys : Int), .int .u64 (x.r.l : Int), .bool x.r.signed, .int .u64 (x.r.sig.index : Int), .slice x.wa x.r.sig.wots.length x.wc, .slice x.pa x.r.sig.path.length x.pc, .string ⟨m.headers.toArray⟩, .string ⟨m.parts.toArray⟩, .int .u64 (m.count : Int), .int .u64 (m.proven : Int), .int .u64 (m.first : Int), .int .u64 (m.last : Int), .int .u64 (t.round : Int), .string ⟨t.prev.toArray⟩, .string ⟨t.txns.toArray⟩, .string ⟨t.seed.toArray⟩] 88) = w1 at *
  generalize (#[.string ⟨p.root.toArray⟩, .int .u64 (p.weight : Int), .int .u64 (p.first : Int), .int .u64 (p.life : Int), .int .u64 (p.keys : Int), .int .u64 (x.r.l : Int), .bool x.r.signed, .int .u64 (x.r.sig.index : Int), .slice x.wa x.r.sig.wots.length x.wc, .slice x.pa x.r.sig.path.length x.pc, .string ⟨m.headers.toArray⟩, .string ⟨m.parts.toArray⟩, .int .u64 (m.count : Int), .int .u64 (m.proven : Int), .int .u64 (m.first : Int), .int .u64 (m.last : Int), .int .u64 (t.round : Int), .string ⟨t.prev.toArray⟩, .string ⟨t.txns.toArray⟩, .string ⟨t.seed.toArray⟩] : Array Value) = CS at *
  generalize slotTo x.r = R at *
  go_wp2_with fail
  refine (HWO.out _ K.out.k).mono ?_
  rintro e w2 ⟨rfl, b2⟩
  have K := Lib.hid (K.out.next b2)
  clear b2 HWO
  go_upto_region 4 with fail
  try rw [Hm3.out]
  generalize S.take 3000 = T at *
  clear hm1 m0 m1 m2 Hm3
  obtain ⟨a0, a1, a2, a3, a4, a5, a6, a7, a8, a9, a10, a11, a12, a13, a14, a15, a16, a17, a18, a19⟩ := HC.out _ K.out
  clear a5 a6 a7 a8 a9 a10 a11 a12 a13 a14 a15 a16 a17 a18 a19
  go_upto_region 5 with (go_at_call 11; refine (HA1.out _ K.out.k).mono ?_; rintro e wa1 ⟨rfl, b3⟩)
  have K := Lib.hid (K.out.next b3)
  clear b3 HA1 a0 a1 a2 a3 a4
  go_upto_if 49 with fail
  go_cut [] from 35 (fun wx => Hid (Wq w w.heap.size CS wx))
  case first => as_aux_lemma =>
    by_cases hc : c1 = 0
    · subst hc
      go_upto_region 7 with (go_at_call 14; refine (HB1.out rfl _ K.out.k).mono ?_; rintro e w4 ⟨rfl, b4⟩)
      change Code.wp _ _ _ _ (w4.alloc (.cells #[.string ⟨p.root.toArray⟩, .int .u64 (p.weight : Int), .int .u64 (p.first : Int), .int .u64 (p.life : Int), .int .u64 (p.keys : Int)] 24))
      have hy := heap_alloc_new w4 (.cells #[.string ⟨p.root.toArray⟩, .int .u64 (p.weight : Int), .int .u64 (p.first : Int), .int .u64 (p.life : Int), .int .u64 (p.keys : Int)] 24)
      have K := Lib.hid ((K.out.next b4).next (by0 w4 (.cells #[.string ⟨p.root.toArray⟩, .int .u64 (p.weight : Int), .int .u64 (p.first : Int), .int .u64 (p.life : Int), .int .u64 (p.keys : Int)] 24)))
      generalize w4.alloc (.cells #[.string ⟨p.root.toArray⟩, .int .u64 (p.weight : Int), .int .u64 (p.first : Int), .int .u64 (p.life : Int), .int .u64 (p.keys : Int)] 24) = w5 at *
      have y0 := (lit_cell hy 0).trans rfl
      have y1 := (lit_cell hy 1).trans rfl
      have y2 := (lit_cell hy 2).trans rfl
      have y3 := (lit_cell hy 3).trans rfl
      have y4 := (lit_cell hy 4).trans rfl
      obtain ⟨a0, a1, a2, a3, a4, a5, a6, a7, a8, a9, a10, a11, a12, a13, a14, a15, a16, a17, a18, a19⟩ := HC.out _ K.out
      clear a5 a6 a7 a8 a9 a10 a11 a12 a13 a14 a15 a16 a17 a18 a19 b4 hy
      generalize w4.heap.size = Y at *
      go_wp2
      go_meet
      exact K
    · have hcf : (c1 == 0) = false := by simpa using hc
      go_wp2
      go_meet
      exact K
  case rest =>
  have K := hcut
  clear hcut HB1
  obtain ⟨a0, a1, a2, a3, a4, a5, a6, a7, a8, a9, a10, a11, a12, a13, a14, a15, a16, a17, a18, a19⟩ := HC.out _ K.out
  clear a0 a1 a2 a3 a4 a10 a11 a12 a13 a14 a15 a16 a17 a18 a19
  go_upto_region 10 with (go_at_call 18; refine (HC2.out _ K.out.k).mono ?_; rintro e wa2 ⟨ya, yc, yp, yd, rfl, M2, b3⟩)
  change Code.wp _ _ _ _ (wa2.alloc (.cells #[.int .u64 (R.l : Int), .bool R.signed, .int .u64 (R.sig.index : Int), .slice ya R.sig.wots.length yc, .slice yp R.sig.path.length yd] 48))
  have hz := heap_alloc_new wa2 (.cells #[.int .u64 (R.l : Int), .bool R.signed, .int .u64 (R.sig.index : Int), .slice ya R.sig.wots.length yc, .slice yp R.sig.path.length yd] 48)
  have K := Lib.hid ((K.out.next b3).next (by0 wa2 (.cells #[.int .u64 (R.l : Int), .bool R.signed, .int .u64 (R.sig.index : Int), .slice ya R.sig.wots.length yc, .slice yp R.sig.path.length yd] 48)))
  have M2 := Lib.hid (M2.out.next (by0 wa2 (.cells #[.int .u64 (R.l : Int), .bool R.signed, .int .u64 (R.sig.index : Int), .slice ya R.sig.wots.length yc, .slice yp R.sig.path.length yd] 48)))
  generalize wa2.alloc (.cells #[.int .u64 (R.l : Int), .bool R.signed, .int .u64 (R.sig.index : Int), .slice ya R.sig.wots.length yc, .slice yp R.sig.path.length yd] 48) = wz2 at *
  clear b3 HC2 a5 a6 a7 a8 a9
  generalize wa2.heap.size = Z at *
  have z0 := (lit_cell hz 0).trans rfl; have z1 := (lit_cell hz 1).trans rfl; have z2 := (lit_cell hz 2).trans rfl; have z3 := (lit_cell hz 3).trans rfl; have z4 := (lit_cell hz 4).trans rfl
  have HZ := Lib.hid hz
  clear hz
  go_upto_region 11 with (go_at_call 19; refine (HA2.out _ _ _ _ _ K.out.k M2.out).mono ?_; rintro e wa3 ⟨rfl, b3⟩)
  have K := Lib.hid (K.out.next b3)
  have M2 := Lib.hid (M2.out.next b3)
  have HZ := Lib.hid ((b3.block Z (lit_lt HZ.out)).trans HZ.out)
  clear b3 HA2 z0 z1 z2 z3 z4
  go_upto_if 72 with fail
  go_cut [] from 35 (fun wx => Hid (Wq w w.heap.size CS wx))
  case first => as_aux_lemma =>
    by_cases hc : c2 = 0
    · subst hc
      go_upto_region 13 with (go_at_call 21; refine (HB2.out rfl _ K.out.k).mono ?_; rintro e w4 ⟨xa, xc, xp, xd, rfl, M3, b4⟩)
      change Code.wp _ _ _ _ (w4.alloc (.cells #[.int .u64 (R.l : Int), .bool R.signed, .int .u64 (R.sig.index : Int), .slice xa R.sig.wots.length xc, .slice xp R.sig.path.length xd] 48))
      have hy := heap_alloc_new w4 (.cells #[.int .u64 (R.l : Int), .bool R.signed, .int .u64 (R.sig.index : Int), .slice xa R.sig.wots.length xc, .slice xp R.sig.path.length xd] 48)
      have hb := by0 w4 (.cells #[.int .u64 (R.l : Int), .bool R.signed, .int .u64 (R.sig.index : Int), .slice xa R.sig.wots.length xc, .slice xp R.sig.path.length xd] 48)
      have K := Lib.hid ((K.out.next b4).next hb)
      have M2 := Lib.hid ((M2.out.next b4).next hb)
      have M3 := Lib.hid (M3.out.next hb)
      have hz := ((hb.block Z (Nat.lt_of_lt_of_le (lit_lt HZ.out) b4.size)).trans (b4.block Z (lit_lt HZ.out))).trans HZ.out
      generalize w4.alloc (.cells #[.int .u64 (R.l : Int), .bool R.signed, .int .u64 (R.sig.index : Int), .slice xa R.sig.wots.length xc, .slice xp R.sig.path.length xd] 48) = w5 at *
      have z0 := (lit_cell hz 0).trans rfl; have z1 := (lit_cell hz 1).trans rfl; have z2 := (lit_cell hz 2).trans rfl; have z3 := (lit_cell hz 3).trans rfl; have z4 := (lit_cell hz 4).trans rfl
      have y0 := (lit_cell hy 0).trans rfl; have y1 := (lit_cell hy 1).trans rfl; have y2 := (lit_cell hy 2).trans rfl; have y3 := (lit_cell hy 3).trans rfl; have y4 := (lit_cell hy 4).trans rfl
      clear hz hy hb b4
      generalize w4.heap.size = Y at *
      go_wp2_with (go_at_call 39; refine (HS2.out _ _ _ _ _ _ _ _ _ M3.out M2.out).mono ?_; rintro e w6 ⟨rfl, b6⟩; have K := Lib.hid (K.out.next b6))
      go_meet
      exact K
    · have hcf : (c2 == 0) = false := by simpa using hc
      go_wp2
      go_meet
      exact K
  case rest =>
  have K := hcut
  clear hcut HB2 HS2 M2 HZ
  obtain ⟨a0, a1, a2, a3, a4, a5, a6, a7, a8, a9, a10, a11, a12, a13, a14, a15, a16, a17, a18, a19⟩ := HC.out _ K.out
  clear a0 a1 a2 a3 a4 a5 a6 a7 a8 a9 a16 a17 a18 a19
  go_upto_region 16 with (go_at_call 30; refine (HA3.out _ K.out.k).mono ?_; rintro e wa3 ⟨rfl, b3⟩)
  have K := Lib.hid (K.out.next b3)
  clear b3 HA3 a10 a11 a12 a13 a14 a15
  go_upto_if 93 with fail
  go_cut [] from 35 (fun wx => Hid (Wq w w.heap.size CS wx))
  case first => as_aux_lemma =>
    by_cases hc : c3 = 0
    · subst hc
      go_upto_region 18 with (go_at_call 34; refine (HB3.out rfl _ K.out.k).mono ?_; rintro e w4 ⟨rfl, b4⟩)
      change Code.wp _ _ _ _ (w4.alloc (.cells #[.string ⟨m.headers.toArray⟩, .string ⟨m.parts.toArray⟩, .int .u64 (m.count : Int), .int .u64 (m.proven : Int), .int .u64 (m.first : Int), .int .u64 (m.last : Int)] 70))
      have hy := heap_alloc_new w4 (.cells #[.string ⟨m.headers.toArray⟩, .string ⟨m.parts.toArray⟩, .int .u64 (m.count : Int), .int .u64 (m.proven : Int), .int .u64 (m.first : Int), .int .u64 (m.last : Int)] 70)
      have K := Lib.hid ((K.out.next b4).next (by0 w4 (.cells #[.string ⟨m.headers.toArray⟩, .string ⟨m.parts.toArray⟩, .int .u64 (m.count : Int), .int .u64 (m.proven : Int), .int .u64 (m.first : Int), .int .u64 (m.last : Int)] 70)))
      generalize w4.alloc (.cells #[.string ⟨m.headers.toArray⟩, .string ⟨m.parts.toArray⟩, .int .u64 (m.count : Int), .int .u64 (m.proven : Int), .int .u64 (m.first : Int), .int .u64 (m.last : Int)] 70) = w5 at *
      have y0 := (lit_cell hy 0).trans rfl
      have y1 := (lit_cell hy 1).trans rfl
      have y2 := (lit_cell hy 2).trans rfl
      have y3 := (lit_cell hy 3).trans rfl
      have y4 := (lit_cell hy 4).trans rfl
      have y5 := (lit_cell hy 5).trans rfl
      obtain ⟨a0, a1, a2, a3, a4, a5, a6, a7, a8, a9, a10, a11, a12, a13, a14, a15, a16, a17, a18, a19⟩ := HC.out _ K.out
      clear a0 a1 a2 a3 a4 a5 a6 a7 a8 a9 a16 a17 a18 a19 b4 hy
      generalize w4.heap.size = Y at *
      go_wp2
      go_meet
      exact K
    · have hcf : (c3 == 0) = false := by simpa using hc
      go_wp2
      go_meet
      exact K
  case rest =>
  have K := hcut
  clear hcut HB3
  obtain ⟨a0, a1, a2, a3, a4, a5, a6, a7, a8, a9, a10, a11, a12, a13, a14, a15, a16, a17, a18, a19⟩ := HC.out _ K.out
  clear a0 a1 a2 a3 a4 a5 a6 a7 a8 a9 a10 a11 a12 a13 a14 a15
  go_upto_region 21 with (go_at_call 32; refine (HA4.out _ K.out.k).mono ?_; rintro e wa4 ⟨rfl, b3⟩)
  have K := Lib.hid (K.out.next b3)
  clear b3 HA4 a16 a17 a18 a19
  go_upto_if 114 with fail
  go_cut [] from 35 (fun wx => Hid (Wq w w.heap.size CS wx))
  case first => as_aux_lemma =>
    by_cases hc : c4 = 0
    · subst hc
      go_upto_region 23 with (go_at_call 36; refine (HB4.out rfl _ K.out.k).mono ?_; rintro e w4 ⟨rfl, b4⟩)
      change Code.wp _ _ _ _ (w4.alloc (.cells #[.int .u64 (t.round : Int), .string ⟨t.prev.toArray⟩, .string ⟨t.txns.toArray⟩, .string ⟨t.seed.toArray⟩] 72))
      have hy := heap_alloc_new w4 (.cells #[.int .u64 (t.round : Int), .string ⟨t.prev.toArray⟩, .string ⟨t.txns.toArray⟩, .string ⟨t.seed.toArray⟩] 72)
      have K := Lib.hid ((K.out.next b4).next (by0 w4 (.cells #[.int .u64 (t.round : Int), .string ⟨t.prev.toArray⟩, .string ⟨t.txns.toArray⟩, .string ⟨t.seed.toArray⟩] 72)))
      generalize w4.alloc (.cells #[.int .u64 (t.round : Int), .string ⟨t.prev.toArray⟩, .string ⟨t.txns.toArray⟩, .string ⟨t.seed.toArray⟩] 72) = w5 at *
      have y0 := (lit_cell hy 0).trans rfl
      have y1 := (lit_cell hy 1).trans rfl
      have y2 := (lit_cell hy 2).trans rfl
      have y3 := (lit_cell hy 3).trans rfl
      obtain ⟨a0, a1, a2, a3, a4, a5, a6, a7, a8, a9, a10, a11, a12, a13, a14, a15, a16, a17, a18, a19⟩ := HC.out _ K.out
      clear a0 a1 a2 a3 a4 a5 a6 a7 a8 a9 a10 a11 a12 a13 a14 a15 b4 hy
      generalize w4.heap.size = Y at *
      go_wp2
      go_meet
      exact K
    · have hcf : (c4 == 0) = false := by simpa using hc
      go_wp2
      go_meet
      exact K
  case rest =>
  have K := hcut
  clear hcut HB4
  go_upto_region 26 with (go_at_call 14; refine (HR1.out _ K.out.k).mono ?_; rintro e wb1 ⟨b3, q1, v1, rfl, V⟩)
  change Code.wp _ _ _ _ (wb1.alloc (.cells #[.string ⟨q1.root.toArray⟩, .int .u64 (q1.weight : Int), .int .u64 (q1.first : Int), .int .u64 (q1.life : Int), .int .u64 (q1.keys : Int)] 24))
  have hy := heap_alloc_new wb1 (.cells #[.string ⟨q1.root.toArray⟩, .int .u64 (q1.weight : Int), .int .u64 (q1.first : Int), .int .u64 (q1.life : Int), .int .u64 (q1.keys : Int)] 24)
  have K := Lib.hid ((K.out.next b3).next (by0 wb1 (.cells #[.string ⟨q1.root.toArray⟩, .int .u64 (q1.weight : Int), .int .u64 (q1.first : Int), .int .u64 (q1.life : Int), .int .u64 (q1.keys : Int)] 24)))
  generalize wb1.alloc (.cells #[.string ⟨q1.root.toArray⟩, .int .u64 (q1.weight : Int), .int .u64 (q1.first : Int), .int .u64 (q1.life : Int), .int .u64 (q1.keys : Int)] 24) = wd1 at *
  have HY := Lib.hid hy
  clear b3 hy HR1
  generalize wb1.heap.size = Y1 at *
  go_cut [134] from 35 (fun s134 wx => (∃ b : Bool, s134 = .bool b ∧ Hid (b = true → PartIn q1 ∧ layPartP q1 = (T, 0))) ∧ wx = wd1)
  case first => as_aux_lemma =>
    rcases V.out with ⟨rfl, h1, h2⟩ | ⟨g, rfl⟩
    · have HH := Lib.hid (And.intro h1 h2)
      clear h1 h2
      go_wp2
      go_meet
      exact ⟨⟨_, rfl, Lib.hid (fun _ => HH.out)⟩, rfl⟩
    · go_wp2
      go_meet
      exact ⟨⟨_, rfl, Lib.hid (fun h => by cases h)⟩, rfl⟩
  case rest =>
  obtain ⟨⟨b, rfl, HQ⟩, rfl⟩ := hcut
  clear V
  go_upto_if 134 with fail
  go_cut [] from 35 (fun wx => Hid (Wq w w.heap.size CS wx))
  case first => as_aux_lemma =>
    cases b with
    | true =>
      obtain ⟨h1, h2⟩ := HQ.out rfl
      have HL := Lib.hid (fun wz (h : Wk w wz) => wpart_any q1 wz h.g h1)
      rw [h2] at HL
      have y0 := (lit_cell HY.out 0).trans rfl
      have y1 := (lit_cell HY.out 1).trans rfl
      have y2 := (lit_cell HY.out 2).trans rfl
      have y3 := (lit_cell HY.out 3).trans rfl
      have y4 := (lit_cell HY.out 4).trans rfl
      clear h1 h2 HQ HY
      go_upto_region 28 with (go_at_call 11; refine (HL.out _ K.out.k).mono ?_; rintro e w4 ⟨rfl, b4⟩)
      have K := Lib.hid (K.out.next b4)
      clear b4 HL
      go_wp2
      go_meet
      exact K
    | false =>
      go_wp2
      go_meet
      exact K
  case rest =>
  have K := hcut
  clear hcut HQ HY
  go_upto_region 31 with (go_at_call 21; refine (HR2.out _ K.out.k).mono ?_; rintro e wb2 ⟨b3, q2, ya, yc, yp, yd, v2, rfl, V⟩)
  change Code.wp _ _ _ _ (wb2.alloc (.cells #[.int .u64 (q2.l : Int), .bool q2.signed, .int .u64 (q2.sig.index : Int), .slice ya q2.sig.wots.length yc, .slice yp q2.sig.path.length yd] 48))
  have hy := heap_alloc_new wb2 (.cells #[.int .u64 (q2.l : Int), .bool q2.signed, .int .u64 (q2.sig.index : Int), .slice ya q2.sig.wots.length yc, .slice yp q2.sig.path.length yd] 48)
  have hb := by0 wb2 (.cells #[.int .u64 (q2.l : Int), .bool q2.signed, .int .u64 (q2.sig.index : Int), .slice ya q2.sig.wots.length yc, .slice yp q2.sig.path.length yd] 48)
  have K := Lib.hid ((K.out.next b3).next hb)
  have HB := Lib.hid (show ∀ y : SlotE, SlotM y wb2 → SlotM y (wb2.alloc (.cells #[.int .u64 (q2.l : Int), .bool q2.signed, .int .u64 (q2.sig.index : Int), .slice ya q2.sig.wots.length yc, .slice yp q2.sig.path.length yd] 48)) from fun y h => h.next hb)
  generalize wb2.alloc (.cells #[.int .u64 (q2.l : Int), .bool q2.signed, .int .u64 (q2.sig.index : Int), .slice ya q2.sig.wots.length yc, .slice yp q2.sig.path.length yd] 48) = wd2 at *
  have HY := Lib.hid hy
  clear b3 hy hb HR2
  generalize wb2.heap.size = Y2 at *
  go_cut [153] from 35 (fun s153 wx => (∃ b : Bool, s153 = .bool b ∧ Hid (b = true → SlotIn q2 ∧ laySlotP q2 = (T, 0) ∧ SlotM ⟨q2, ya, yc, yp, yd⟩ wd2)) ∧ wx = wd2)
  case first => as_aux_lemma =>
    rcases V.out with ⟨rfl, h1, h2, h3⟩ | ⟨g, rfl⟩
    · have HH := Lib.hid (And.intro h1 (And.intro h2 (HB.out _ h3)))
      clear h1 h2 h3
      go_wp2
      go_meet
      exact ⟨⟨_, rfl, Lib.hid (fun _ => HH.out)⟩, rfl⟩
    · go_wp2
      go_meet
      exact ⟨⟨_, rfl, Lib.hid (fun h => by cases h)⟩, rfl⟩
  case rest =>
  obtain ⟨⟨b, rfl, HQ⟩, rfl⟩ := hcut
  clear V HB
  go_upto_if 153 with fail
  go_cut [] from 35 (fun wx => Hid (Wq w w.heap.size CS wx))
  case first => as_aux_lemma =>
    cases b with
    | true =>
      obtain ⟨h1, h2, h3⟩ := HQ.out rfl
      have HL := Lib.hid (fun (h : Wk w wc) => wslot_any ⟨q2, ya, yc, yp, yd⟩ wc h.g h1 h3)
      simp only [h2] at HL
      have y0 := (lit_cell HY.out 0).trans rfl; have y1 := (lit_cell HY.out 1).trans rfl; have y2 := (lit_cell HY.out 2).trans rfl; have y3 := (lit_cell HY.out 3).trans rfl; have y4 := (lit_cell HY.out 4).trans rfl
      clear h1 h2 h3 HQ HY
      go_upto_region 33 with (go_at_call 19; refine (HL.out K.out.k).mono ?_; rintro e w4 ⟨rfl, b4⟩)
      have K := Lib.hid (K.out.next b4)
      clear b4 HL
      go_wp2
      go_meet
      exact K
    | false =>
      go_wp2
      go_meet
      exact K
  case rest =>
  have K := hcut
  clear hcut HQ HY
  go_upto_region 36 with (go_at_call 34; refine (HR3.out _ K.out.k).mono ?_; rintro e wb3 ⟨b3, q3, v3, rfl, V⟩)
  change Code.wp _ _ _ _ (wb3.alloc (.cells #[.string ⟨q3.headers.toArray⟩, .string ⟨q3.parts.toArray⟩, .int .u64 (q3.count : Int), .int .u64 (q3.proven : Int), .int .u64 (q3.first : Int), .int .u64 (q3.last : Int)] 70))
  have hy := heap_alloc_new wb3 (.cells #[.string ⟨q3.headers.toArray⟩, .string ⟨q3.parts.toArray⟩, .int .u64 (q3.count : Int), .int .u64 (q3.proven : Int), .int .u64 (q3.first : Int), .int .u64 (q3.last : Int)] 70)
  have K := Lib.hid ((K.out.next b3).next (by0 wb3 (.cells #[.string ⟨q3.headers.toArray⟩, .string ⟨q3.parts.toArray⟩, .int .u64 (q3.count : Int), .int .u64 (q3.proven : Int), .int .u64 (q3.first : Int), .int .u64 (q3.last : Int)] 70)))
  generalize wb3.alloc (.cells #[.string ⟨q3.headers.toArray⟩, .string ⟨q3.parts.toArray⟩, .int .u64 (q3.count : Int), .int .u64 (q3.proven : Int), .int .u64 (q3.first : Int), .int .u64 (q3.last : Int)] 70) = wd3 at *
  have HY := Lib.hid hy
  clear b3 hy HR3
  generalize wb3.heap.size = Y3 at *
  go_cut [172] from 35 (fun s172 wx => (∃ b : Bool, s172 = .bool b ∧ Hid (b = true → MsgIn q3 ∧ layMsgP q3 = (T, 0))) ∧ wx = wd3)
  case first => as_aux_lemma =>
    rcases V.out with ⟨rfl, h1, h2⟩ | ⟨g, rfl⟩
    · have HH := Lib.hid (And.intro h1 h2)
      clear h1 h2
      go_wp2
      go_meet
      exact ⟨⟨_, rfl, Lib.hid (fun _ => HH.out)⟩, rfl⟩
    · go_wp2
      go_meet
      exact ⟨⟨_, rfl, Lib.hid (fun h => by cases h)⟩, rfl⟩
  case rest =>
  obtain ⟨⟨b, rfl, HQ⟩, rfl⟩ := hcut
  clear V
  go_upto_if 172 with fail
  go_cut [] from 35 (fun wx => Hid (Wq w w.heap.size CS wx))
  case first => as_aux_lemma =>
    cases b with
    | true =>
      obtain ⟨h1, h2⟩ := HQ.out rfl
      have HL := Lib.hid (fun wz (h : Wk w wz) => wmsg_any q3 wz h.g h1)
      rw [h2] at HL
      have y0 := (lit_cell HY.out 0).trans rfl
      have y1 := (lit_cell HY.out 1).trans rfl
      have y2 := (lit_cell HY.out 2).trans rfl
      have y3 := (lit_cell HY.out 3).trans rfl
      have y4 := (lit_cell HY.out 4).trans rfl
      have y5 := (lit_cell HY.out 5).trans rfl
      clear h1 h2 HQ HY
      go_upto_region 38 with (go_at_call 30; refine (HL.out _ K.out.k).mono ?_; rintro e w4 ⟨rfl, b4⟩)
      have K := Lib.hid (K.out.next b4)
      clear b4 HL
      go_wp2
      go_meet
      exact K
    | false =>
      go_wp2
      go_meet
      exact K
  case rest =>
  have K := hcut
  clear hcut HQ HY
  go_upto_region 41 with (go_at_call 36; refine (HR4.out _ K.out.k).mono ?_; rintro e wb4 ⟨b3, q4, v4, rfl, V⟩)
  change Code.wp _ _ _ _ (wb4.alloc (.cells #[.int .u64 (q4.round : Int), .string ⟨q4.prev.toArray⟩, .string ⟨q4.txns.toArray⟩, .string ⟨q4.seed.toArray⟩] 72))
  have hy := heap_alloc_new wb4 (.cells #[.int .u64 (q4.round : Int), .string ⟨q4.prev.toArray⟩, .string ⟨q4.txns.toArray⟩, .string ⟨q4.seed.toArray⟩] 72)
  have K := Lib.hid ((K.out.next b3).next (by0 wb4 (.cells #[.int .u64 (q4.round : Int), .string ⟨q4.prev.toArray⟩, .string ⟨q4.txns.toArray⟩, .string ⟨q4.seed.toArray⟩] 72)))
  generalize wb4.alloc (.cells #[.int .u64 (q4.round : Int), .string ⟨q4.prev.toArray⟩, .string ⟨q4.txns.toArray⟩, .string ⟨q4.seed.toArray⟩] 72) = wd4 at *
  have HY := Lib.hid hy
  clear b3 hy HR4
  generalize wb4.heap.size = Y4 at *
  go_cut [191] from 35 (fun s191 wx => (∃ b : Bool, s191 = .bool b ∧ Hid (b = true → q4.round < 18446744073709551616 ∧ layHdrP q4 = (T, 0))) ∧ wx = wd4)
  case first => as_aux_lemma =>
    rcases V.out with ⟨rfl, h1, h2⟩ | ⟨g, rfl⟩
    · have HH := Lib.hid (And.intro h1 h2)
      clear h1 h2
      go_wp2
      go_meet
      exact ⟨⟨_, rfl, Lib.hid (fun _ => HH.out)⟩, rfl⟩
    · go_wp2
      go_meet
      exact ⟨⟨_, rfl, Lib.hid (fun h => by cases h)⟩, rfl⟩
  case rest =>
  obtain ⟨⟨b, rfl, HQ⟩, rfl⟩ := hcut
  clear V
  go_upto_if 191 with fail
  go_cut [] from 35 (fun wx => Hid (Wq w w.heap.size CS wx))
  case first => as_aux_lemma =>
    cases b with
    | true =>
      obtain ⟨h1, h2⟩ := HQ.out rfl
      have HL := Lib.hid (fun wz (h : Wk w wz) => whdr_any q4 wz h.g h1)
      rw [h2] at HL
      have y0 := (lit_cell HY.out 0).trans rfl
      have y1 := (lit_cell HY.out 1).trans rfl
      have y2 := (lit_cell HY.out 2).trans rfl
      have y3 := (lit_cell HY.out 3).trans rfl
      clear h1 h2 HQ HY
      go_upto_region 43 with (go_at_call 32; refine (HL.out _ K.out.k).mono ?_; rintro e w4 ⟨rfl, b4⟩)
      have K := Lib.hid (K.out.next b4)
      clear b4 HL
      go_wp2
      go_meet
      exact K
    | false =>
      go_wp2
      go_meet
      exact K
  case rest =>
  have K := hcut
  clear hcut HQ HY
  go_wp2
  go_ret
  exact ⟨rfl, K.out.k.o⟩
end Go.Proofs.YtgdhljbcclbfaaaGreatDoor
