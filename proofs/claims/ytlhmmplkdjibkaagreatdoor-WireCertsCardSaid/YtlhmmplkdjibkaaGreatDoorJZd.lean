/- The reference's layReveal. -/
import Derived.Test.YtlhmmplkdjibkaaGreatDoorJ22
namespace Go.Proofs.YtlhmmplkdjibkaaGreatDoor
open Go.RowKit

theorem partM_b (p : PartR) (hr : p.root.length ≤ 5000) : (mapP (partF p)).length ≤ 50013 := by
  refine mapP_b _ 50010 ?_
  have h1 := numZ_b p.keys; have h2 := numZ_b p.life; have h3 := numZ_b p.first; have h4 := numZ_b p.weight; have h5 := binP_b p.root hr
  simp only [partF, List.map_cons, List.map_nil, List.sum_cons, List.sum_nil]
  omega
theorem slotM_b (x : SlotR) (hI : RSig x.sig) : (mapP (slotF x)).length ≤ 200130003 := by
  refine mapP_b _ 200130000 ?_
  have h1 := small_b _ _ (sigM_b x.sig hI); have h2 := numZ_b x.l; have h3 := numZ_b 1
  obtain ⟨l, sg, g⟩ := x
  cases sg <;> simp [slotF] at * <;> omega
set_option maxRecDepth 100000 in
set_option maxHeartbeats 1000000 in
theorem layReveal_any (x : RevE) (w : World) (hM : SlotM ⟨x.r.slot, x.wa, x.wc, x.pa, x.pc⟩ w) (hn : RevIn x.r) (hr : x.r.part.root.length ≤ 5000) (hI : RSig x.r.slot.sig) :
    Calls Tryz.prog 25 #[revV x] w fun e w' => e = .returned (.string ⟨(mapP (revF x.r)).toArray⟩) ∧ Below w.heap.size w w' := by
  show Calls Tryz.prog 25 _ w fun e w' => e = .returned (.string ⟨(mapP [(112, numZ x.r.pos), (113, mapP (partF x.r.part)), (115, smallP (mapP (slotF x.r.slot)))]).toArray⟩) ∧ Below w.heap.size w w'
  have K := Lib.hid (Ly.start w (revQ x).toArray 57)
  have b0 : (numZ x.r.pos).length ≤ 10000 := by have := numZ_b x.r.pos; omega
  have b1 : (mapP (partF x.r.part)).length ≤ 50013 := partM_b _ hr
  have b2 : (smallP (mapP (slotF x.r.slot))).length ≤ 200130003 := small_b _ _ (slotM_b x.r.slot hI)
  have HF0 := Lib.hid (fun (wz : World) => wnum_any x.r.pos wz hn.n)
  have HF1 := Lib.hid (fun (wz : World) => layPart_any x.r.part wz hn.p hr)
  have HF2 := Lib.hid (fun (wz : World) (hz : Below w.heap.size w wz) => laySlot_any x.r.slot x.wa x.pa x.wc x.pc wz ⟨hM.ws.below (Nat.le_refl _) hz, hM.ps.below (Nat.le_refl _) hz⟩ hn.s.l hI)
  have HG2 := Lib.hid (fun (wz : World) => wsmall_any (mapP (slotF x.r.slot)) wz)
  have HP0 := Lib.hid (fun (b : Nat) (wz : World) (h : Ly w w.heap.size (revQ x).toArray 57 b [] wz) => h.puts 112 (numZ x.r.pos) (by simp) (by simp) (by omega))
  have HP1 := Lib.hid (fun (b : Nat) (wz : World) (h : Ly w w.heap.size (revQ x).toArray 57 b [(112, numZ x.r.pos)] wz) => h.puts 113 (mapP (partF x.r.part)) (by simp) (by simp only [List.map_cons, List.map_nil, List.sum_cons, List.sum_nil]; omega) (by omega))
  have HP2 := Lib.hid (fun (b : Nat) (wz : World) (h : Ly w w.heap.size (revQ x).toArray 57 b [(112, numZ x.r.pos), (113, mapP (partF x.r.part))] wz) => h.puts 115 (smallP (mapP (slotF x.r.slot))) (by simp) (by simp only [List.map_cons, List.map_nil, List.sum_cons, List.sum_nil]; omega) (by omega))
  have HW := Lib.hid (fun (b : Nat) (wz : World) (h : Ly w w.heap.size (revQ x).toArray 57 b [(112, numZ x.r.pos), (113, mapP (partF x.r.part)), (115, smallP (mapP (slotF x.r.slot)))] wz) => whole_any b [(112, numZ x.r.pos), (113, mapP (partF x.r.part)), (115, smallP (mapP (slotF x.r.slot)))] wz h.l (by simp) (Nat.le_trans (prsB_len _) (by simp only [List.map_cons, List.map_nil, List.sum_cons, List.sum_nil]; omega)))
  simp only [List.cons_append, List.nil_append] at HP0 HP1 HP2
  clear b0 b1 b2 hM hn hr hI
  generalize mapP [(112, numZ x.r.pos), (113, mapP (partF x.r.part)), (115, smallP (mapP (slotF x.r.slot)))] = MM at *
  generalize smallP (mapP (slotF x.r.slot)) = V2 at *
  generalize mapP (slotF x.r.slot) = U2 at *
  generalize mapP (partF x.r.part) = V1 at *
  generalize numZ x.r.pos = V0 at *
  go_enter Tryz.func25, Tryz.ntmps25
  go_upto_region 2 with fail
  change Code.wp _ _ _ _ ((w.alloc (.cells (revQ x).toArray 57)).alloc (.cells #[.int .u64 0, .string ⟨#[]⟩] 68))
  generalize (w.alloc (.cells (revQ x).toArray 57)).alloc (.cells #[.int .u64 0, .string ⟨#[]⟩] 68) = w1 at *
  have hx2 := K.out.x
  simp only [revQ] at hx2
  have z0 := (lit_cell hx2 0).trans rfl
  clear hx2
  go_wp2_with fail
  refine (HF0.out _).mono ?_
  rintro e wa0 ⟨rfl, hb⟩
  have K := Lib.hid (K.out.next hb)
  clear hb HF0 z0
  go_wp2_with fail
  refine (HP0.out _ _ K.out).mono ?_
  rintro e wc0 ⟨rfl, hk⟩
  have K := Lib.hid hk
  clear hk HP0
  have hx2 := K.out.x
  simp only [revQ] at hx2
  have z6 := (lit_cell hx2 6).trans rfl; have z7 := (lit_cell hx2 7).trans rfl; have z8 := (lit_cell hx2 8).trans rfl; have z9 := (lit_cell hx2 9).trans rfl; have z10 := (lit_cell hx2 10).trans rfl
  clear hx2
  go_wp2_with fail
  refine (HF1.out _).mono ?_
  rintro e wa1 ⟨rfl, hb⟩
  have K := Lib.hid (K.out.next hb)
  clear hb HF1 z6 z7 z8 z9 z10
  go_wp2_with fail
  refine (HP1.out _ _ K.out).mono ?_
  rintro e wc1 ⟨rfl, hk⟩
  have K := Lib.hid hk
  clear hk HP1
  have hx2 := K.out.x
  simp only [revQ] at hx2
  have z1 := (lit_cell hx2 1).trans rfl; have z2 := (lit_cell hx2 2).trans rfl; have z3 := (lit_cell hx2 3).trans rfl; have z4 := (lit_cell hx2 4).trans rfl; have z5 := (lit_cell hx2 5).trans rfl
  clear hx2
  go_wp2_with fail
  refine (HF2.out _ K.out.o).mono ?_
  rintro e wa2 ⟨rfl, hb⟩
  have K := Lib.hid (K.out.next hb)
  clear hb HF2 z1 z2 z3 z4 z5
  go_wp2_with fail
  refine (HG2.out _).mono ?_
  rintro e wb2 ⟨rfl, rfl⟩
  clear HG2
  go_wp2_with fail
  refine (HP2.out _ _ K.out).mono ?_
  rintro e wc2 ⟨rfl, hk⟩
  have K := Lib.hid hk
  clear hk HP2
  go_wp2_with fail
  refine (HW.out _ _ K.out).mono ?_
  rintro e wd ⟨rfl, hb⟩
  go_wp2
  go_ret
  exact ⟨rfl, (K.out.next hb).o⟩
end Go.Proofs.YtlhmmplkdjibkaaGreatDoor
