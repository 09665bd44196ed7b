/- The reference's cursor: a reveal. -/
import Derived.Test.YtlhmmplkdjibkaaGreatDoorJMl
import Derived.Test.YtlhmmplkdjibkaaGreatDoorJ25
namespace Go.Proofs.YtlhmmplkdjibkaaGreatDoor
open Go.RowKit

theorem slot80 (x : SlotR) : mapP (slotF x) = [128] ↔ slotZ x = true := by
  have h := slot_small x
  unfold smallP at h
  constructor
  · intro e
    cases hz : slotZ x with
    | true => rfl
    | false => rw [hz, if_pos e] at h; simp only [Bool.false_eq_true, if_false] at h; rw [e] at h; cases h
  · intro hz
    by_cases e : mapP (slotF x) = [128]
    · exact e
    · rw [hz, if_neg e, if_pos rfl] at h
      exact absurd h (by unfold mapP; simp [headP_ne])
theorem rev_rise : Rising revFs := by simp [Rising, revFs, numFld, rpartFld, nzFld]
/-- what is kept through a reveal's loop -/
structure Rv (w0 : World) (cb rb : Nat) (S : (List UInt8)) (st : St) (q : RevR) (wa pa : Option Addr) (wc pc : Nat) (wz : World) : Prop where
  r : Rd w0 cb rb S st 57 #[.int .u64 0, .int .u64 0, .bool false, .int .u64 0, .slice none 0 0, .slice none 0 0, .string ⟨#[]⟩, .int .u64 0, .int .u64 0, .int .u64 0, .int .u64 0] #[.int .u64 (q.pos : Int), .int .u64 (q.slot.l : Int), .bool q.slot.signed, .int .u64 (q.slot.sig.index : Int), .slice wa q.slot.sig.wots.length wc, .slice pa q.slot.sig.path.length pc, .string ⟨q.part.root.toArray⟩, .int .u64 (q.part.weight : Int), .int .u64 (q.part.first : Int), .int .u64 (q.part.life : Int), .int .u64 (q.part.keys : Int)] wz
  s : SigL (w0.heap.size + 2) S q.slot.sig wa pa wz
  b : q.slot.l < 18446744073709551616
section
variable {w0 wz wy : World} {cb rb : Nat} {S : (List UInt8)} {st st2 : St} {q : RevR} {wa pa : Option Addr} {wc pc : Nat}
theorem Rv.call (h : Rv w0 cb rb S st q wa pa wc pc wz) (ho : Duo cb rb wz wy) (hc : Curs cb rb S st2 wy) : Rv w0 cb rb S st2 q wa pa wc pc wy :=
  ⟨h.r.call ho hc, h.s.duo ho (by have := h.r.lt.1; omega) (by have := h.r.lt.2; omega), h.b⟩
theorem Rv.next (h : Rv w0 cb rb S st q wa pa wc pc wz) (hb : Below wz.heap.size wz wy) : Rv w0 cb rb S st q wa pa wc pc wy := h.call (Duo.below hb) (h.r.c.next hb)
theorem Rv.pos (h : Rv w0 cb rb S st q wa pa wc pc wz) (n : Nat) : Rv w0 cb rb S st { q with pos := n } wa pa wc pc (wz.setCell ⟨w0.heap.size + 1, 0, none⟩ (.int .u64 (n : Int))) :=
  ⟨h.r.set 0 _, h.s.only (Only.set (w0.heap.size + 1) 0 (.int .u64 (n : Int)) wz) (by omega), h.b⟩
theorem Rv.part (h : Rv w0 cb rb S st q wa pa wc pc wz) (p : PartR) : Rv w0 cb rb S st { q with part := p } wa pa wc pc ((((((wz).setCell ⟨w0.heap.size + 1, 6, none⟩ (.string ⟨p.root.toArray⟩)).setCell ⟨w0.heap.size + 1, 7, none⟩ (.int .u64 (p.weight : Int))).setCell ⟨w0.heap.size + 1, 8, none⟩ (.int .u64 (p.first : Int))).setCell ⟨w0.heap.size + 1, 9, none⟩ (.int .u64 (p.life : Int))).setCell ⟨w0.heap.size + 1, 10, none⟩ (.int .u64 (p.keys : Int))) := by
  have ho := ((((Only.set (w0.heap.size + 1) 6 (.string ⟨p.root.toArray⟩) wz).trans (Only.set (w0.heap.size + 1) 7 (.int .u64 (p.weight : Int)) _)).trans (Only.set (w0.heap.size + 1) 8 (.int .u64 (p.first : Int)) _)).trans (Only.set (w0.heap.size + 1) 9 (.int .u64 (p.life : Int)) _)).trans (Only.set (w0.heap.size + 1) 10 (.int .u64 (p.keys : Int)) _)
  exact ⟨(((((h.r).set 6 _).set 7 _).set 8 _).set 9 _).set 10 _, h.s.only ho (by omega), h.b⟩
theorem Rv.slot (h : Rv w0 cb rb S st q wa pa wc pc wz) (x : SlotR) (xa xp : Option Addr) (xc xd : Nat) (hx : SigL (w0.heap.size + 2) S x.sig xa xp wz) (hl : x.l < 18446744073709551616) : Rv w0 cb rb S st { q with slot := x } xa xp xc xd ((((((wz).setCell ⟨w0.heap.size + 1, 1, none⟩ (.int .u64 (x.l : Int))).setCell ⟨w0.heap.size + 1, 2, none⟩ (.bool x.signed)).setCell ⟨w0.heap.size + 1, 3, none⟩ (.int .u64 (x.sig.index : Int))).setCell ⟨w0.heap.size + 1, 4, none⟩ (.slice xa x.sig.wots.length xc)).setCell ⟨w0.heap.size + 1, 5, none⟩ (.slice xp x.sig.path.length xd)) := by
  have ho := ((((Only.set (w0.heap.size + 1) 1 (.int .u64 (x.l : Int)) wz).trans (Only.set (w0.heap.size + 1) 2 (.bool x.signed) _)).trans (Only.set (w0.heap.size + 1) 3 (.int .u64 (x.sig.index : Int)) _)).trans (Only.set (w0.heap.size + 1) 4 (.slice xa x.sig.wots.length xc) _)).trans (Only.set (w0.heap.size + 1) 5 (.slice xp x.sig.path.length xd) _)
  exact ⟨(((((h.r).set 1 _).set 2 _).set 3 _).set 4 _).set 5 _, hx.only ho (by omega), hl⟩
end
set_option maxRecDepth 100000 in
set_option maxHeartbeats 8000000 in
theorem creveal_any {cb rb : Nat} {S : (List UInt8)} {st : St} {w : World} (hS : S.length ≤ 60000) (h : Curs cb rb S st w) :
    Calls Tryz.prog 70 #[.pointer (some ⟨cb, 0, none⟩)] w fun e w' => ∃ (q : RevR) (wa pa : Option Addr) (wc pc : Nat), e = .returned (revV ⟨q, wa, wc, pa, pc⟩) ∧ Hid (SigL w.heap.size S q.slot.sig wa pa w') ∧ Hid (CGot cb rb S (runS S revC.get st) q w w') := by
  have hS6 : S.length ≤ 1000000 := by omega
  have HPR := Lib.hid (fun (st : St) (wz : World) (h : Curs cb rb S st wz) => cpairs_any hS6 h)
  have HK := Lib.hid (show ∀ (last : (List UInt8)) (st : St) (wz : World), Curs cb rb S st wz → Calls Tryz.prog 65 #[.pointer (some ⟨cb, 0, none⟩), .string ⟨#[112, 113, 115]⟩, .string ⟨last.toArray⟩] wz (fun e w' => ∃ t : (List UInt8), e = .returned (.string ⟨t.toArray⟩) ∧ Hid (CGot cb rb S (runS S (keyG (revFs.map (·.key)) last) st) t wz w')) from fun last st wz h => ckey_any [112, 113, 115] (by decide) last hS6 h)
  have HN := Lib.hid (fun (st : St) (wz : World) (h : Curs cb rb S st wz) => cnum_any hS6 h)
  have HPT := Lib.hid (fun (st : St) (wz : World) (h : Curs cb rb S st wz) => cpart_any hS6 h)
  have HSL := Lib.hid (fun (st : St) (wz : World) (h : Curs cb rb S st wz) => cslot_any hS h)
  have HF := Lib.hid (fun (st : St) (wz : World) (h : Curs cb rb S st wz) (b : Bool) => fail5 h b)
  have HS5 := Lib.hid hS
  have R := Lib.hid (show Rv w cb rb S st zRev none none 0 0 ((w.alloc (.cells #[.int .u64 0, .int .u64 0, .bool false, .int .u64 0, .slice none 0 0, .slice none 0 0, .string ⟨#[]⟩, .int .u64 0, .int .u64 0, .int .u64 0, .int .u64 0] 57)).alloc (.cells #[.int .u64 0, .int .u64 0, .bool false, .int .u64 0, .slice none 0 0, .slice none 0 0, .string ⟨#[]⟩, .int .u64 0, .int .u64 0, .int .u64 0, .int .u64 0] 57)) from ⟨Rd.start h 57 #[.int .u64 0, .int .u64 0, .bool false, .int .u64 0, .slice none 0 0, .slice none 0 0, .string ⟨#[]⟩, .int .u64 0, .int .u64 0, .int .u64 0, .int .u64 0], SigL.zero _ _ _, by decide⟩)
  obtain ⟨tot, hT⟩ : ∃ tot, allS S revFs zRev st = tot := ⟨_, rfl⟩
  have HE := Lib.hid (show ∀ q, Got tot q → _ from hT ▸ map_run S revFs zRev (fun p => !p.part.root.isEmpty) st)
  have HTOT := Lib.hid hT
  clear h hS hS6 hT
  go_enter Tryz.func70, Tryz.ntmps70
  go_upto_region 2 with fail
  change Code.wp _ _ _ _ ((w.alloc (.cells #[.int .u64 0, .int .u64 0, .bool false, .int .u64 0, .slice none 0 0, .slice none 0 0, .string ⟨#[]⟩, .int .u64 0, .int .u64 0, .int .u64 0, .int .u64 0] 57)).alloc (.cells #[.int .u64 0, .int .u64 0, .bool false, .int .u64 0, .slice none 0 0, .slice none 0 0, .string ⟨#[]⟩, .int .u64 0, .int .u64 0, .int .u64 0, .int .u64 0] 57))
  generalize (w.alloc (.cells #[.int .u64 0, .int .u64 0, .bool false, .int .u64 0, .slice none 0 0, .slice none 0 0, .string ⟨#[]⟩, .int .u64 0, .int .u64 0, .int .u64 0, .int .u64 0] 57)).alloc (.cells #[.int .u64 0, .int .u64 0, .bool false, .int .u64 0, .slice none 0 0, .slice none 0 0, .string ⟨#[]⟩, .int .u64 0, .int .u64 0, .int .u64 0, .int .u64 0] 57) = w1 at *
  go_wp2_with fail
  refine (HPR.out _ _ R.out.r.c).mono ?_
  rintro e w2 ⟨n, rfl, hn, HQ⟩
  have PI := Lib.hid (HTOT.out ▸ PInv.start S revFs zRev st n HQ.out.g)
  have R := Lib.hid (R.out.call HQ.out.o HQ.out.c)
  have HNN := Lib.hid hn
  clear hn HQ HPR HTOT
  generalize endS (runS S sizeG st) = st1 at *
  go_wp2_with fail
  go_loopw [5, 6] (fun l i wr => ∃ (k : Nat) (last : (List UInt8)) (q : RevR) (wa pa : Option Addr) (wc pc : Nat) (st2 : St), k ≤ n ∧ l = .string ⟨last.toArray⟩ ∧ i = .int .u64 (k : Int) ∧ Hid (Rv w cb rb S st2 q wa pa wc pc wr) ∧ Hid (PInv S revFs tot (n - k) q last st2))
    (fun _ i _ => n - (intOf i).toNat)
  case atStart => exact ⟨0, [], zRev, none, none, 0, 0, st1, Nat.zero_le _, rfl, rfl, R, PI⟩
  case round =>
    obtain ⟨k, last, q, wa, pa, wc, pc, st2, hk, rfl, rfl, R, PI⟩ := hrel
    have HB := Lib.hid (bad_any R.out.r.c)
    by_cases hlt : k < n
    · have kd : decide ((k : Int) < (n : Int)) = true := decide_eq_true (by omega)
      have k3 : (k : Int) ≤ 65536 := by have := HNN.out; omega
      have k4 : (0 : Int) ≤ (k : Int) := by omega
      have HLT := Lib.hid hlt
      clear hlt hk
      cases st2 with
      | error f =>
        have PD := Lib.hid (PI.out.done (.inr rfl))
        simp only [badS] at HB
        clear PI HN HPT HSL HK
        have z6 := (lit_cell R.out.r.p 6).trans rfl
        go_wp2_with (go_at_call 64; refine HB.out.mono ?_; rintro e w4 ⟨rfl, rfl⟩)
        refine (HF.out _ _ R.out.r.c _).mono ?_
        rintro e w5 ⟨rfl, hc, ho⟩
        have hc2 : Curs cb rb S (failS (q.part.root.isEmpty) 5 (.error f)) w5 := by first | (simpa using hc) | (simp at hc ⊢; exact hc)
        obtain ⟨g1, g2⟩ := HE.out q PD.out.2
        simp only [Bool.not_not, PD.out.1] at g1
        rw [g1] at hc2
        have R5 := Lib.hid (R.out.call (Duo.only ho) hc2)
        have G2 := Lib.hid g2
        clear hc hc2 ho g1 g2 R HE PD z6
        have y0 := (lit_cell R5.out.r.p 0).trans rfl; have x0 := (lit_cell R5.out.r.r 0).trans rfl; have f0 := lit_free R5.out.r.r 0
        have y1 := (lit_cell R5.out.r.p 1).trans rfl; have x1 := (lit_cell R5.out.r.r 1).trans rfl; have f1 := lit_free R5.out.r.r 1
        have y2 := (lit_cell R5.out.r.p 2).trans rfl; have x2 := (lit_cell R5.out.r.r 2).trans rfl; have f2 := lit_free R5.out.r.r 2
        have y3 := (lit_cell R5.out.r.p 3).trans rfl; have x3 := (lit_cell R5.out.r.r 3).trans rfl; have f3 := lit_free R5.out.r.r 3
        have y4 := (lit_cell R5.out.r.p 4).trans rfl; have x4 := (lit_cell R5.out.r.r 4).trans rfl; have f4 := lit_free R5.out.r.r 4
        have y5 := (lit_cell R5.out.r.p 5).trans rfl; have x5 := (lit_cell R5.out.r.r 5).trans rfl; have f5 := lit_free R5.out.r.r 5
        have y6 := (lit_cell R5.out.r.p 6).trans rfl; have x6 := (lit_cell R5.out.r.r 6).trans rfl; have f6 := lit_free R5.out.r.r 6
        have y7 := (lit_cell R5.out.r.p 7).trans rfl; have x7 := (lit_cell R5.out.r.r 7).trans rfl; have f7 := lit_free R5.out.r.r 7
        have y8 := (lit_cell R5.out.r.p 8).trans rfl; have x8 := (lit_cell R5.out.r.r 8).trans rfl; have f8 := lit_free R5.out.r.r 8
        have y9 := (lit_cell R5.out.r.p 9).trans rfl; have x9 := (lit_cell R5.out.r.r 9).trans rfl; have f9 := lit_free R5.out.r.r 9
        have y10 := (lit_cell R5.out.r.p 10).trans rfl; have x10 := (lit_cell R5.out.r.r 10).trans rfl; have f10 := lit_free R5.out.r.r 10
        go_wp2
        have hx7 := lit_set (k := 10) (.int .u64 (q.part.keys : Int)) (lit_set (k := 9) (.int .u64 (q.part.life : Int)) (lit_set (k := 8) (.int .u64 (q.part.first : Int)) (lit_set (k := 7) (.int .u64 (q.part.weight : Int)) (lit_set (k := 6) (.string ⟨q.part.root.toArray⟩) (lit_set (k := 5) (.slice pa q.slot.sig.path.length pc) (lit_set (k := 4) (.slice wa q.slot.sig.wots.length wc) (lit_set (k := 3) (.int .u64 (q.slot.sig.index : Int)) (lit_set (k := 2) (.bool q.slot.signed) (lit_set (k := 1) (.int .u64 (q.slot.l : Int)) (lit_set (k := 0) (.int .u64 (q.pos : Int)) (R5.out.r.r)))))))))))
        have ho7 := ((((((((((Only.set (w.heap.size) 0 (.int .u64 (q.pos : Int)) w5).trans (Only.set (w.heap.size) 1 (.int .u64 (q.slot.l : Int)) _)).trans (Only.set (w.heap.size) 2 (.bool q.slot.signed) _)).trans (Only.set (w.heap.size) 3 (.int .u64 (q.slot.sig.index : Int)) _)).trans (Only.set (w.heap.size) 4 (.slice wa q.slot.sig.wots.length wc) _)).trans (Only.set (w.heap.size) 5 (.slice pa q.slot.sig.path.length pc) _)).trans (Only.set (w.heap.size) 6 (.string ⟨q.part.root.toArray⟩) _)).trans (Only.set (w.heap.size) 7 (.int .u64 (q.part.weight : Int)) _)).trans (Only.set (w.heap.size) 8 (.int .u64 (q.part.first : Int)) _)).trans (Only.set (w.heap.size) 9 (.int .u64 (q.part.life : Int)) _)).trans (Only.set (w.heap.size) 10 (.int .u64 (q.part.keys : Int)) _)
        obtain ⟨hC, hO⟩ := R5.out.r.fin ho7
        have hL := (R5.out.s.only ho7 (by omega)).weak (lo2 := w.heap.size) (by omega)
        clear ho7
        generalize (((((((((((w5).setCell ⟨w.heap.size, 0, none⟩ (.int .u64 (q.pos : Int))).setCell ⟨w.heap.size, 1, none⟩ (.int .u64 (q.slot.l : Int))).setCell ⟨w.heap.size, 2, none⟩ (.bool q.slot.signed)).setCell ⟨w.heap.size, 3, none⟩ (.int .u64 (q.slot.sig.index : Int))).setCell ⟨w.heap.size, 4, none⟩ (.slice wa q.slot.sig.wots.length wc)).setCell ⟨w.heap.size, 5, none⟩ (.slice pa q.slot.sig.path.length pc)).setCell ⟨w.heap.size, 6, none⟩ (.string ⟨q.part.root.toArray⟩)).setCell ⟨w.heap.size, 7, none⟩ (.int .u64 (q.part.weight : Int))).setCell ⟨w.heap.size, 8, none⟩ (.int .u64 (q.part.first : Int))).setCell ⟨w.heap.size, 9, none⟩ (.int .u64 (q.part.life : Int))).setCell ⟨w.heap.size, 10, none⟩ (.int .u64 (q.part.keys : Int)) = w7 at *
        have v0 := (lit_cell hx7 0).trans rfl
        have v1 := (lit_cell hx7 1).trans rfl
        have v2 := (lit_cell hx7 2).trans rfl
        have v3 := (lit_cell hx7 3).trans rfl
        have v4 := (lit_cell hx7 4).trans rfl
        have v5 := (lit_cell hx7 5).trans rfl
        have v6 := (lit_cell hx7 6).trans rfl
        have v7 := (lit_cell hx7 7).trans rfl
        have v8 := (lit_cell hx7 8).trans rfl
        have v9 := (lit_cell hx7 9).trans rfl
        have v10 := (lit_cell hx7 10).trans rfl
        refine bodyPost_ret (v := revV ⟨q, wa, wc, pa, pc⟩) (by simp [results, Tryz.results70, go_sem, v0, v1, v2, v3, v4, v5, v6, v7, v8, v9, v10]) rfl ⟨q, wa, pa, wc, pc, rfl, Lib.hid hL, Lib.hid ⟨G2.out, hC, hO⟩⟩
      | ok a =>
        simp only [badS] at HB
        rw [show n - k = (n - (k + 1)) + 1 by have := HLT.out; omega] at PI
        go_upto_region 7 with (go_at_call 64; refine HB.out.mono ?_; rintro e w4 ⟨rfl, rfl⟩)
        go_wp2_with fail
        refine (HK.out _ _ _ R.out.r.c).mono ?_
        rintro e w3 ⟨t, rfl, HQ⟩
        have KI := Lib.hid (PI.out.key rev_rise t HQ.out.g)
        have R3 := Lib.hid (R.out.call HQ.out.o HQ.out.c)
        generalize endS (runS S (keyG (revFs.map (·.key)) last) (.ok a)) = st3 at *
        clear HQ R PI HB HK HE
        have HZ := Lib.hid (show w.heap.size + 2 ≤ w3.heap.size by have := lit_lt R3.out.r.p; omega)
        by_cases e0 : t = [112]
        · subst e0
          go_wp2_with fail
          refine (HN.out _ _ R3.out.r.c).mono ?_
          rintro e w4 ⟨x, rfl, hx, HX⟩
          have R4 := Lib.hid (R3.out.call HX.out.o HX.out.c)
          have z := (lit_cell R4.out.r.p 0).trans rfl
          have f := lit_free R4.out.r.p 0
          clear hx R3 HPT HSL HF
          go_wp2
          go_roundw
          case rel => exact ⟨k + 1, [112], { q with pos := x }, wa, pa, wc, pc, _, HLT.out, rfl, by go_num, Lib.hid (R4.out.pos x), Lib.hid (KI.out.arm (numFld 112 (fun p : RevR => p.pos) (fun (p : RevR) v => { p with pos := v })) rev_rise (by simp [revFs]) x HX.out.g)⟩
          case measure => have := HLT.out; simp [intOf] <;> omega
        · by_cases e1 : t = [113]
          · subst e1
            go_wp2_with fail
            refine (HPT.out _ _ R3.out.r.c).mono ?_
            rintro e w4 ⟨p, rfl, HX⟩
            have R4 := Lib.hid (R3.out.call HX.out.o HX.out.c)
            have z6 := (lit_cell R4.out.r.p 6).trans rfl; have z7 := (lit_cell R4.out.r.p 7).trans rfl; have z8 := (lit_cell R4.out.r.p 8).trans rfl; have z9 := (lit_cell R4.out.r.p 9).trans rfl; have z10 := (lit_cell R4.out.r.p 10).trans rfl
            have f6 := lit_free R4.out.r.p 6; have f7 := lit_free R4.out.r.p 7; have f8 := lit_free R4.out.r.p 8; have f9 := lit_free R4.out.r.p 9; have f10 := lit_free R4.out.r.p 10
            clear R3 HN HSL HF
            go_wp2
            go_roundw
            case rel => exact ⟨k + 1, [113], { q with part := p }, wa, pa, wc, pc, _, HLT.out, rfl, by go_num, Lib.hid (R4.out.part p), Lib.hid (KI.out.arm rpartFld rev_rise (by simp [revFs]) p HX.out.g)⟩
            case measure => have := HLT.out; simp [intOf] <;> omega
          · by_cases e2 : t = [115]
            · subst e2
              go_wp2_with fail
              refine (HSL.out _ _ R3.out.r.c).mono ?_
              rintro e w4 ⟨x, xa, xp, xc, xd, rfl, HL, HX⟩
              have R4 := Lib.hid (R3.out.call HX.out.o HX.out.c)
              have R5 := Lib.hid (R4.out.slot x xa xp xc xd (HL.out.1.weak HZ.out) HL.out.2)
              have z1 := (lit_cell R4.out.r.p 1).trans rfl; have z2 := (lit_cell R4.out.r.p 2).trans rfl; have z3 := (lit_cell R4.out.r.p 3).trans rfl; have z4 := (lit_cell R4.out.r.p 4).trans rfl; have z5 := (lit_cell R4.out.r.p 5).trans rfl
              have f1 := lit_free R4.out.r.p 1; have f2 := lit_free R4.out.r.p 2; have f3 := lit_free R4.out.r.p 3; have f4 := lit_free R4.out.r.p 4; have f5 := lit_free R4.out.r.p 5
              have HNZ := Lib.hid (nz_run S slotC slotZ st3 x HX.out.g)
              have HXL := Lib.hid HL.out.2
              clear R3 R4 HL HX HN HPT HSL HZ
              go_upto_region 15 with fail
              generalize (((((w4).setCell ⟨w.heap.size + 1, 1, none⟩ (.int .u64 (x.l : Int))).setCell ⟨w.heap.size + 1, 2, none⟩ (.bool x.signed)).setCell ⟨w.heap.size + 1, 3, none⟩ (.int .u64 (x.sig.index : Int))).setCell ⟨w.heap.size + 1, 4, none⟩ (.slice xa x.sig.wots.length xc)).setCell ⟨w.heap.size + 1, 5, none⟩ (.slice xp x.sig.path.length xd) = w5 at *
              clear z1 z2 z3 z4 z5 f1 f2 f3 f4 f5
              have z1 := (lit_cell R5.out.r.p 1).trans rfl; have z2 := (lit_cell R5.out.r.p 2).trans rfl; have z3 := (lit_cell R5.out.r.p 3).trans rfl; have z4 := (lit_cell R5.out.r.p 4).trans rfl; have z5 := (lit_cell R5.out.r.p 5).trans rfl
              have HLY := Lib.hid (laySlot_any x xa xp xc xd w5 ⟨(R5.out.s.laid HS5.out).1.ws, (R5.out.s.laid HS5.out).1.ps⟩ HXL.out (R5.out.s.laid HS5.out).2)
              generalize endS (runS S slotC.get st3) = st4 at *
              have H80 := Lib.hid (slot80 x)
              go_wp2_with fail
              refine HLY.out.mono ?_
              rintro e w6 ⟨rfl, b6⟩
              have R6 := Lib.hid (R5.out.next b6)
              clear b6 HLY R5 z1 z2 z3 z4 z5
              generalize mapP (slotF x) = MM at *
              cases hz : slotZ x with
              | true =>
                obtain rfl := H80.out.2 hz
                rw [hz] at HNZ
                clear hz H80
                go_wp2_with fail
                refine (HF.out _ _ R6.out.r.c _).mono ?_
                rintro e w7 ⟨rfl, hc, ho⟩
                have hc2 : Curs cb rb S (failS true 5 st4) w7 := by simpa using hc
                rw [HNZ.out.1] at hc2
                have R7 := Lib.hid (R6.out.call (Duo.only ho) hc2)
                clear hc hc2 ho R6 HF
                go_wp2
                go_roundw
                case rel => exact ⟨k + 1, [115], { q with slot := x }, xa, xp, xc, xd, _, HLT.out, rfl, by go_num, R7, Lib.hid (KI.out.arm (nzFld 115 slotC slotZ (fun p : RevR => p.slot) (fun (p : RevR) v => { p with slot := v })) rev_rise (by simp [revFs]) x HNZ.out.2)⟩
                case measure => have := HLT.out; simp [intOf] <;> omega
              | false =>
                have hne : (MM == [128]) = false := by rw [beq_eq_false_iff_ne]; intro e; rw [H80.out.1 e] at hz; cases hz
                have hne2 : ¬ MM = [128] := by intro e; rw [H80.out.1 e] at hz; cases hz
                rw [hz] at HNZ
                clear hz H80
                go_wp2_with fail
                refine (HF.out _ _ R6.out.r.c _).mono ?_
                rintro e w7 ⟨rfl, hc, ho⟩
                have hc2 : Curs cb rb S (failS false 5 st4) w7 := by first | exact hc | simpa [hne, hne2] using hc
                rw [HNZ.out.1] at hc2
                have R7 := Lib.hid (R6.out.call (Duo.only ho) hc2)
                clear hc hc2 ho R6 HF hne hne2
                go_wp2
                go_roundw
                case rel => exact ⟨k + 1, [115], { q with slot := x }, xa, xp, xc, xd, _, HLT.out, rfl, by go_num, R7, Lib.hid (KI.out.arm (nzFld 115 slotC slotZ (fun p : RevR => p.slot) (fun (p : RevR) v => { p with slot := v })) rev_rise (by simp [revFs]) x HNZ.out.2)⟩
                case measure => have := HLT.out; simp [intOf] <;> omega
            · have f0 : (t == [112]) = false := by simpa using e0
              have f1 : (t == [113]) = false := by simpa using e1
              have f2 : (t == [115]) = false := by simpa using e2
              have KN := Lib.hid (KI.out.none (t := t) (by simp only [revFs, List.mem_cons, List.not_mem_nil, or_false, forall_eq_or_imp, forall_eq, numFld, rpartFld, nzFld]; exact ⟨fun h => e0 h.symm, fun h => e1 h.symm, fun h => e2 h.symm⟩) (n - (k + 1)) q t)
              clear e0 e1 e2 KI HN HPT HSL HF
              go_wp2
              go_roundw
              case rel => exact ⟨k + 1, t, q, wa, pa, wc, pc, st3, HLT.out, rfl, by go_num, R3, KN⟩
              case measure => have := HLT.out; simp [intOf] <;> omega
    · have k1 : ¬ (k : Int) < (n : Int) := by omega
      obtain rfl : k = n := by omega
      have PD := Lib.hid (PI.out.done (.inl (Nat.sub_self _)))
      clear PI HN HPT HSL HK hlt hk
      have z6 := (lit_cell R.out.r.p 6).trans rfl
      go_wp2_with (go_at_call 64; refine HB.out.mono ?_; rintro e w4 ⟨rfl, rfl⟩)
      refine (HF.out _ _ R.out.r.c _).mono ?_
      rintro e w5 ⟨rfl, hc, ho⟩
      have hc2 : Curs cb rb S (failS (q.part.root.isEmpty) 5 st2) w5 := by first | (simpa using hc) | (simp at hc ⊢; exact hc)
      obtain ⟨g1, g2⟩ := HE.out q PD.out.2
      simp only [Bool.not_not, PD.out.1] at g1
      rw [g1] at hc2
      have R5 := Lib.hid (R.out.call (Duo.only ho) hc2)
      have G2 := Lib.hid g2
      clear hc hc2 ho g1 g2 R HE PD z6
      have y0 := (lit_cell R5.out.r.p 0).trans rfl; have x0 := (lit_cell R5.out.r.r 0).trans rfl; have f0 := lit_free R5.out.r.r 0
      have y1 := (lit_cell R5.out.r.p 1).trans rfl; have x1 := (lit_cell R5.out.r.r 1).trans rfl; have f1 := lit_free R5.out.r.r 1
      have y2 := (lit_cell R5.out.r.p 2).trans rfl; have x2 := (lit_cell R5.out.r.r 2).trans rfl; have f2 := lit_free R5.out.r.r 2
      have y3 := (lit_cell R5.out.r.p 3).trans rfl; have x3 := (lit_cell R5.out.r.r 3).trans rfl; have f3 := lit_free R5.out.r.r 3
      have y4 := (lit_cell R5.out.r.p 4).trans rfl; have x4 := (lit_cell R5.out.r.r 4).trans rfl; have f4 := lit_free R5.out.r.r 4
      have y5 := (lit_cell R5.out.r.p 5).trans rfl; have x5 := (lit_cell R5.out.r.r 5).trans rfl; have f5 := lit_free R5.out.r.r 5
      have y6 := (lit_cell R5.out.r.p 6).trans rfl; have x6 := (lit_cell R5.out.r.r 6).trans rfl; have f6 := lit_free R5.out.r.r 6
      have y7 := (lit_cell R5.out.r.p 7).trans rfl; have x7 := (lit_cell R5.out.r.r 7).trans rfl; have f7 := lit_free R5.out.r.r 7
      have y8 := (lit_cell R5.out.r.p 8).trans rfl; have x8 := (lit_cell R5.out.r.r 8).trans rfl; have f8 := lit_free R5.out.r.r 8
      have y9 := (lit_cell R5.out.r.p 9).trans rfl; have x9 := (lit_cell R5.out.r.r 9).trans rfl; have f9 := lit_free R5.out.r.r 9
      have y10 := (lit_cell R5.out.r.p 10).trans rfl; have x10 := (lit_cell R5.out.r.r 10).trans rfl; have f10 := lit_free R5.out.r.r 10
      go_wp2
      have hx7 := lit_set (k := 10) (.int .u64 (q.part.keys : Int)) (lit_set (k := 9) (.int .u64 (q.part.life : Int)) (lit_set (k := 8) (.int .u64 (q.part.first : Int)) (lit_set (k := 7) (.int .u64 (q.part.weight : Int)) (lit_set (k := 6) (.string ⟨q.part.root.toArray⟩) (lit_set (k := 5) (.slice pa q.slot.sig.path.length pc) (lit_set (k := 4) (.slice wa q.slot.sig.wots.length wc) (lit_set (k := 3) (.int .u64 (q.slot.sig.index : Int)) (lit_set (k := 2) (.bool q.slot.signed) (lit_set (k := 1) (.int .u64 (q.slot.l : Int)) (lit_set (k := 0) (.int .u64 (q.pos : Int)) (R5.out.r.r)))))))))))
      have ho7 := ((((((((((Only.set (w.heap.size) 0 (.int .u64 (q.pos : Int)) w5).trans (Only.set (w.heap.size) 1 (.int .u64 (q.slot.l : Int)) _)).trans (Only.set (w.heap.size) 2 (.bool q.slot.signed) _)).trans (Only.set (w.heap.size) 3 (.int .u64 (q.slot.sig.index : Int)) _)).trans (Only.set (w.heap.size) 4 (.slice wa q.slot.sig.wots.length wc) _)).trans (Only.set (w.heap.size) 5 (.slice pa q.slot.sig.path.length pc) _)).trans (Only.set (w.heap.size) 6 (.string ⟨q.part.root.toArray⟩) _)).trans (Only.set (w.heap.size) 7 (.int .u64 (q.part.weight : Int)) _)).trans (Only.set (w.heap.size) 8 (.int .u64 (q.part.first : Int)) _)).trans (Only.set (w.heap.size) 9 (.int .u64 (q.part.life : Int)) _)).trans (Only.set (w.heap.size) 10 (.int .u64 (q.part.keys : Int)) _)
      obtain ⟨hC, hO⟩ := R5.out.r.fin ho7
      have hL := (R5.out.s.only ho7 (by omega)).weak (lo2 := w.heap.size) (by omega)
      clear ho7
      generalize (((((((((((w5).setCell ⟨w.heap.size, 0, none⟩ (.int .u64 (q.pos : Int))).setCell ⟨w.heap.size, 1, none⟩ (.int .u64 (q.slot.l : Int))).setCell ⟨w.heap.size, 2, none⟩ (.bool q.slot.signed)).setCell ⟨w.heap.size, 3, none⟩ (.int .u64 (q.slot.sig.index : Int))).setCell ⟨w.heap.size, 4, none⟩ (.slice wa q.slot.sig.wots.length wc)).setCell ⟨w.heap.size, 5, none⟩ (.slice pa q.slot.sig.path.length pc)).setCell ⟨w.heap.size, 6, none⟩ (.string ⟨q.part.root.toArray⟩)).setCell ⟨w.heap.size, 7, none⟩ (.int .u64 (q.part.weight : Int))).setCell ⟨w.heap.size, 8, none⟩ (.int .u64 (q.part.first : Int))).setCell ⟨w.heap.size, 9, none⟩ (.int .u64 (q.part.life : Int))).setCell ⟨w.heap.size, 10, none⟩ (.int .u64 (q.part.keys : Int)) = w7 at *
      have v0 := (lit_cell hx7 0).trans rfl
      have v1 := (lit_cell hx7 1).trans rfl
      have v2 := (lit_cell hx7 2).trans rfl
      have v3 := (lit_cell hx7 3).trans rfl
      have v4 := (lit_cell hx7 4).trans rfl
      have v5 := (lit_cell hx7 5).trans rfl
      have v6 := (lit_cell hx7 6).trans rfl
      have v7 := (lit_cell hx7 7).trans rfl
      have v8 := (lit_cell hx7 8).trans rfl
      have v9 := (lit_cell hx7 9).trans rfl
      have v10 := (lit_cell hx7 10).trans rfl
      refine bodyPost_ret (v := revV ⟨q, wa, wc, pa, pc⟩) (by simp [results, Tryz.results70, go_sem, v0, v1, v2, v3, v4, v5, v6, v7, v8, v9, v10]) rfl ⟨q, wa, pa, wc, pc, rfl, Lib.hid hL, Lib.hid ⟨G2.out, hC, hO⟩⟩
end Go.Proofs.YtlhmmplkdjibkaaGreatDoor
