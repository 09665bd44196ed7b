/- The reference's cursor: a slot. -/
import Derived.Test.YtlhmmplkdjibkaaGreatDoorJ23
namespace Go.Proofs.YtlhmmplkdjibkaaGreatDoor
open Go.RowKit

theorem sig80 (g : SigR) : mapP (sigF g) = [128] ↔ sigZ g = true := by
  have h := sig_small g
  unfold smallP at h
  constructor
  · intro e
    cases hz : sigZ g with
    | true => rfl
    | false => rw [hz, if_pos e] at h; simp only [Bool.false_eq_true, if_false] at h; rw [e] at h; cases h
  · intro hz
    by_cases e : mapP (sigF g) = [128]
    · exact e
    · rw [hz, if_neg e, if_pos rfl] at h
      exact absurd h (by unfold mapP; simp [headP_ne])
theorem slot_rise : Rising slotFs := by simp [Rising, slotFs, numFld, nzFld, yesFld]
/-- what is kept through a slot's loop -/
structure Sl (w0 : World) (cb rb : Nat) (S : (List UInt8)) (st : St) (q : SlotR) (wa pa : Option Addr) (wc pc : Nat) (wz : World) : Prop where
  r : Rd w0 cb rb S st 53 #[.int .u64 0, .bool false, .int .u64 0, .slice none 0 0, .slice none 0 0] #[.int .u64 (q.l : Int), .bool q.signed, .int .u64 (q.sig.index : Int), .slice wa q.sig.wots.length wc, .slice pa q.sig.path.length pc] wz
  s : SigL (w0.heap.size + 2) S q.sig wa pa wz
  b : q.l < 18446744073709551616
section
variable {w0 wz wy : World} {cb rb : Nat} {S : (List UInt8)} {st st2 : St} {q : SlotR} {wa pa : Option Addr} {wc pc : Nat}
theorem Sl.call (h : Sl w0 cb rb S st q wa pa wc pc wz) (ho : Duo cb rb wz wy) (hc : Curs cb rb S st2 wy) : Sl w0 cb rb S st2 q wa pa wc pc wy :=
  ⟨h.r.call ho hc, h.s.duo ho (by have := h.r.lt.1; omega) (by have := h.r.lt.2; omega), h.b⟩
theorem Sl.next (h : Sl w0 cb rb S st q wa pa wc pc wz) (hb : Below wz.heap.size wz wy) : Sl w0 cb rb S st q wa pa wc pc wy := h.call (Duo.below hb) (h.r.c.next hb)
theorem Sl.num (h : Sl w0 cb rb S st q wa pa wc pc wz) (n : Nat) (hn : n < 18446744073709551616) : Sl w0 cb rb S st { q with l := n } wa pa wc pc (wz.setCell ⟨w0.heap.size + 1, 0, none⟩ (.int .u64 (n : Int))) :=
  ⟨h.r.set 0 _, h.s.only (Only.set (w0.heap.size + 1) 0 (.int .u64 (n : Int)) wz) (by omega), hn⟩
theorem Sl.yes (h : Sl w0 cb rb S st q wa pa wc pc wz) : Sl w0 cb rb S st { q with signed := true } wa pa wc pc (wz.setCell ⟨w0.heap.size + 1, 1, none⟩ (.bool true)) :=
  ⟨h.r.set 1 _, h.s.only (Only.set (w0.heap.size + 1) 1 (.bool true) wz) (by omega), h.b⟩
theorem Sl.sig (h : Sl w0 cb rb S st q wa pa wc pc wz) (g : SigR) (xa xp : Option Addr) (xc xd : Nat) (hg : SigL (w0.heap.size + 2) S g xa xp wz) :
    Sl w0 cb rb S st { q with sig := g } xa xp xc xd (((wz.setCell ⟨w0.heap.size + 1, 2, none⟩ (.int .u64 (g.index : Int))).setCell ⟨w0.heap.size + 1, 3, none⟩ (.slice xa g.wots.length xc)).setCell ⟨w0.heap.size + 1, 4, none⟩ (.slice xp g.path.length xd)) := by
  have ho := ((Only.set (w0.heap.size + 1) 2 (.int .u64 (g.index : Int)) wz).trans (Only.set (w0.heap.size + 1) 3 (.slice xa g.wots.length xc) _)).trans (Only.set (w0.heap.size + 1) 4 (.slice xp g.path.length xd) _)
  exact ⟨((h.r.set 2 _).set 3 _).set 4 _, hg.only ho (by omega), h.b⟩
end
theorem SigL.laid {lo : Nat} {S : (List UInt8)} {g : SigR} {wa pa : Option Addr} {w : World} (h : SigL lo S g wa pa w) (hS : S.length ≤ 60000) : SigV g wa pa w ∧ RSig g :=
  ⟨⟨h.fw.strs, h.fp.strs⟩, ⟨h.i, by have := h.wl; omega, by have := h.pl; omega, fun x hx => Nat.le_trans (h.wt x hx) hS, fun x hx => Nat.le_trans (h.pt x hx) hS⟩⟩
set_option maxRecDepth 100000 in
set_option maxHeartbeats 4000000 in
theorem cslot_any {cb rb : Nat} {S : (List UInt8)} {st : St} {w : World} (hS : S.length ≤ 60000) (h : Curs cb rb S st w) :
    Calls Tryz.prog 126 #[.pointer (some ⟨cb, 0, none⟩)] w fun e w' => ∃ (q : SlotR) (wa pa : Option Addr) (wc pc : Nat), e = .returned (slotV ⟨q, wa, wc, pa, pc⟩) ∧ Hid (SigL w.heap.size S q.sig wa pa w' ∧ q.l < 18446744073709551616) ∧ Hid (CGot cb rb S (runS S slotC.get st) q w w') := by
  have hS6 : S.length ≤ 1000000 := by omega
  have HPR := Lib.hid (fun (st : St) (wz : World) (h : Curs cb rb S st wz) => cpairs_any hS6 h)
  have HK := Lib.hid (show ∀ (last : (List UInt8)) (st : St) (wz : World), Curs cb rb S st wz → Calls Tryz.prog 65 #[.pointer (some ⟨cb, 0, none⟩), .string ⟨#[103, 108, 115]⟩, .string ⟨last.toArray⟩] wz (fun e w' => ∃ t : (List UInt8), e = .returned (.string ⟨t.toArray⟩) ∧ Hid (CGot cb rb S (runS S (keyG (slotFs.map (·.key)) last) st) t wz w')) from fun last st wz h => ckey_any [103, 108, 115] (by decide) last hS6 h)
  have HN := Lib.hid (fun (st : St) (wz : World) (h : Curs cb rb S st wz) => cnum_any hS6 h)
  have HSG := Lib.hid (fun (st : St) (wz : World) (h : Curs cb rb S st wz) => csig_any hS6 h)
  have HTK := Lib.hid (show ∀ (st : St) (wz : World), Curs cb rb S st wz → Calls Tryz.prog 69 #[.pointer (some ⟨cb, 0, none⟩), .int .i64 0] wz _ from fun st wz h => take_any 0 (by decide) hS6 h)
  have HF := Lib.hid (fun (st : St) (wz : World) (h : Curs cb rb S st wz) (b : Bool) => fail5 h b)
  have HS5 := Lib.hid hS
  have R := Lib.hid (show Sl w cb rb S st zSlot none none 0 0 ((w.alloc (.cells #[.int .u64 0, .bool false, .int .u64 0, .slice none 0 0, .slice none 0 0] 53)).alloc (.cells #[.int .u64 0, .bool false, .int .u64 0, .slice none 0 0, .slice none 0 0] 53)) from ⟨Rd.start h 53 #[.int .u64 0, .bool false, .int .u64 0, .slice none 0 0, .slice none 0 0], SigL.zero _ _ _, by decide⟩)
  obtain ⟨tot, hT⟩ : ∃ tot, allS S slotFs zSlot st = tot := ⟨_, rfl⟩
  have HE := Lib.hid (show ∀ q, Got tot q → _ from hT ▸ map_run S slotFs zSlot (fun _ => true) st)
  have HTOT := Lib.hid hT
  clear h hS hS6 hT
  go_enter Tryz.func126, Tryz.ntmps126
  go_upto_region 2 with fail
  change Code.wp _ _ _ _ ((w.alloc (.cells #[.int .u64 0, .bool false, .int .u64 0, .slice none 0 0, .slice none 0 0] 53)).alloc (.cells #[.int .u64 0, .bool false, .int .u64 0, .slice none 0 0, .slice none 0 0] 53))
  generalize (w.alloc (.cells #[.int .u64 0, .bool false, .int .u64 0, .slice none 0 0, .slice none 0 0] 53)).alloc (.cells #[.int .u64 0, .bool false, .int .u64 0, .slice none 0 0, .slice none 0 0] 53) = w1 at *
  go_wp2_with fail
  refine (HPR.out _ _ R.out.r.c).mono ?_
  rintro e w2 ⟨n, rfl, hn, HQ⟩
  have PI := Lib.hid (HTOT.out ▸ PInv.start S slotFs zSlot st n HQ.out.g)
  have R := Lib.hid (R.out.call HQ.out.o HQ.out.c)
  have HNN := Lib.hid hn
  clear hn HQ HPR HTOT
  generalize endS (runS S sizeG st) = st1 at *
  go_wp2_with fail
  go_loopw [5, 6] (fun l i wr => ∃ (k : Nat) (last : (List UInt8)) (q : SlotR) (wa pa : Option Addr) (wc pc : Nat) (st2 : St), k ≤ n ∧ l = .string ⟨last.toArray⟩ ∧ i = .int .u64 (k : Int) ∧ Hid (Sl w cb rb S st2 q wa pa wc pc wr) ∧ Hid (PInv S slotFs tot (n - k) q last st2))
    (fun _ i _ => n - (intOf i).toNat)
  case atStart => exact ⟨0, [], zSlot, none, none, 0, 0, st1, Nat.zero_le _, rfl, rfl, R, PI⟩
  case round =>
    obtain ⟨k, last, q, wa, pa, wc, pc, st2, hk, rfl, rfl, R, PI⟩ := hrel
    have HB := Lib.hid (bad_any R.out.r.c)
    by_cases hlt : k < n
    · have kd : decide ((k : Int) < (n : Int)) = true := decide_eq_true (by omega)
      have k3 : (k : Int) ≤ 65536 := by have := HNN.out; omega
      have k4 : (0 : Int) ≤ (k : Int) := by omega
      have HLT := Lib.hid hlt
      clear hlt hk
      cases st2 with
      | error f =>
        have PD := Lib.hid (PI.out.done (.inr rfl))
        simp only [badS] at HB
        clear PI HN HSG HTK HF HK
        have y0 := (lit_cell R.out.r.p 0).trans rfl; have x0 := (lit_cell R.out.r.r 0).trans rfl; have f0 := lit_free R.out.r.r 0
        have y1 := (lit_cell R.out.r.p 1).trans rfl; have x1 := (lit_cell R.out.r.r 1).trans rfl; have f1 := lit_free R.out.r.r 1
        have y2 := (lit_cell R.out.r.p 2).trans rfl; have x2 := (lit_cell R.out.r.r 2).trans rfl; have f2 := lit_free R.out.r.r 2
        have y3 := (lit_cell R.out.r.p 3).trans rfl; have x3 := (lit_cell R.out.r.r 3).trans rfl; have f3 := lit_free R.out.r.r 3
        have y4 := (lit_cell R.out.r.p 4).trans rfl; have x4 := (lit_cell R.out.r.r 4).trans rfl; have f4 := lit_free R.out.r.r 4
        go_wp2_with (go_at_call 64; refine HB.out.mono ?_; rintro e w4 ⟨rfl, rfl⟩)
        have hx7 := lit_set (k := 4) (.slice pa q.sig.path.length pc) (lit_set (k := 3) (.slice wa q.sig.wots.length wc) (lit_set (k := 2) (.int .u64 (q.sig.index : Int)) (lit_set (k := 1) (.bool q.signed) (lit_set (k := 0) (.int .u64 (q.l : Int)) (R.out.r.r)))))
        have ho7 := ((((Only.set w.heap.size 0 (.int .u64 (q.l : Int)) w4).trans (Only.set w.heap.size 1 (.bool q.signed) _)).trans (Only.set w.heap.size 2 (.int .u64 (q.sig.index : Int)) _)).trans (Only.set w.heap.size 3 (.slice wa q.sig.wots.length wc) _)).trans (Only.set w.heap.size 4 (.slice pa q.sig.path.length pc) _)
        obtain ⟨hC, hO⟩ := R.out.r.fin ho7
        have hL := (R.out.s.only ho7 (by omega)).weak (lo2 := w.heap.size) (by omega)
        have hB := R.out.b
        clear ho7
        generalize (((((w4).setCell ⟨w.heap.size, 0, none⟩ (.int .u64 (q.l : Int))).setCell ⟨w.heap.size, 1, none⟩ (.bool q.signed)).setCell ⟨w.heap.size, 2, none⟩ (.int .u64 (q.sig.index : Int))).setCell ⟨w.heap.size, 3, none⟩ (.slice wa q.sig.wots.length wc)).setCell ⟨w.heap.size, 4, none⟩ (.slice pa q.sig.path.length pc) = w7 at *
        have v0 := (lit_cell hx7 0).trans rfl
        have v1 := (lit_cell hx7 1).trans rfl
        have v2 := (lit_cell hx7 2).trans rfl
        have v3 := (lit_cell hx7 3).trans rfl
        have v4 := (lit_cell hx7 4).trans rfl
        obtain ⟨g1, g2⟩ := HE.out q PD.out.2
        rw [show (!true) = false from rfl, failS_false, PD.out.1] at g1
        refine bodyPost_ret (v := slotV ⟨q, wa, wc, pa, pc⟩) (by simp [results, Tryz.results126, go_sem, v0, v1, v2, v3, v4]) rfl ⟨q, wa, pa, wc, pc, rfl, Lib.hid ⟨hL, hB⟩, Lib.hid ⟨g2, g1 ▸ hC, hO⟩⟩
      | ok a =>
        simp only [badS] at HB
        rw [show n - k = (n - (k + 1)) + 1 by have := HLT.out; omega] at PI
        go_upto_region 7 with (go_at_call 64; refine HB.out.mono ?_; rintro e w4 ⟨rfl, rfl⟩)
        go_wp2_with fail
        refine (HK.out _ _ _ R.out.r.c).mono ?_
        rintro e w3 ⟨t, rfl, HQ⟩
        have KI := Lib.hid (PI.out.key slot_rise t HQ.out.g)
        have R3 := Lib.hid (R.out.call HQ.out.o HQ.out.c)
        generalize endS (runS S (keyG (slotFs.map (·.key)) last) (.ok a)) = st3 at *
        clear HQ R PI HB HK HE
        have HZ := Lib.hid (show w.heap.size + 2 ≤ w3.heap.size by have := lit_lt R3.out.r.p; omega)
        by_cases e0 : t = [103]
        · subst e0
          go_wp2_with fail
          refine (HSG.out _ _ R3.out.r.c).mono ?_
          rintro e w4 ⟨g, xa, xp, xc, xd, rfl, HL, HX⟩
          have R4 := Lib.hid (R3.out.call HX.out.o HX.out.c)
          have R5 := Lib.hid (R4.out.sig g xa xp xc xd (HL.out.weak HZ.out))
          have z2 := (lit_cell R4.out.r.p 2).trans rfl; have z3 := (lit_cell R4.out.r.p 3).trans rfl; have z4 := (lit_cell R4.out.r.p 4).trans rfl
          have f2 := lit_free R4.out.r.p 2; have f3 := lit_free R4.out.r.p 3; have f4 := lit_free R4.out.r.p 4
          have HNZ := Lib.hid (nz_run S sigC sigZ st3 g HX.out.g)
          clear R3 R4 HL HX HN HTK HSG HZ
          go_upto_region 11 with fail
          generalize ((w4.setCell ⟨w.heap.size + 1, 2, none⟩ (.int .u64 (g.index : Int))).setCell ⟨w.heap.size + 1, 3, none⟩ (.slice xa g.wots.length xc)).setCell ⟨w.heap.size + 1, 4, none⟩ (.slice xp g.path.length xd) = w5 at *
          clear z2 z3 z4 f2 f3 f4
          have z2 := (lit_cell R5.out.r.p 2).trans rfl; have z3 := (lit_cell R5.out.r.p 3).trans rfl; have z4 := (lit_cell R5.out.r.p 4).trans rfl
          have HLY := Lib.hid (laySig_any g xa xp xc xd w5 (R5.out.s.laid HS5.out).1 (R5.out.s.laid HS5.out).2)
          generalize endS (runS S sigC.get st3) = st4 at *
          have H80 := Lib.hid (sig80 g)
          go_wp2_with fail
          refine HLY.out.mono ?_
          rintro e w6 ⟨rfl, b6⟩
          have R6 := Lib.hid (R5.out.next b6)
          clear b6 HLY R5 z2 z3 z4
          generalize mapP (sigF g) = MM at *
          cases hz : sigZ g with
          | true =>
            obtain rfl := H80.out.2 hz
            rw [hz] at HNZ
            clear hz H80
            go_wp2_with fail
            refine (HF.out _ _ R6.out.r.c _).mono ?_
            rintro e w7 ⟨rfl, hc, ho⟩
            have hc2 : Curs cb rb S (failS true 5 st4) w7 := by simpa using hc
            rw [HNZ.out.1] at hc2
            have R7 := Lib.hid (R6.out.call (Duo.only ho) hc2)
            clear hc hc2 ho R6 HF
            go_wp2
            go_roundw
            case rel => exact ⟨k + 1, [103], { q with sig := g }, xa, xp, xc, xd, _, HLT.out, rfl, by go_num, R7, Lib.hid (KI.out.arm (nzFld 103 sigC sigZ (fun p : SlotR => p.sig) (fun (p : SlotR) v => { p with sig := v })) slot_rise (by simp [slotFs]) g HNZ.out.2)⟩
            case measure => have := HLT.out; simp [intOf] <;> omega
          | false =>
            have hne : (MM == [128]) = false := by rw [beq_eq_false_iff_ne]; intro e; rw [H80.out.1 e] at hz; cases hz
            have hne2 : ¬ MM = [128] := by intro e; rw [H80.out.1 e] at hz; cases hz
            rw [hz] at HNZ
            clear hz H80
            go_wp2_with fail
            refine (HF.out _ _ R6.out.r.c _).mono ?_
            rintro e w7 ⟨rfl, hc, ho⟩
            have hc2 : Curs cb rb S (failS false 5 st4) w7 := by first | exact hc | simpa [hne, hne2] using hc
            rw [HNZ.out.1] at hc2
            have R7 := Lib.hid (R6.out.call (Duo.only ho) hc2)
            clear hc hc2 ho R6 HF hne hne2
            go_wp2
            go_roundw
            case rel => exact ⟨k + 1, [103], { q with sig := g }, xa, xp, xc, xd, _, HLT.out, rfl, by go_num, R7, Lib.hid (KI.out.arm (nzFld 103 sigC sigZ (fun p : SlotR => p.sig) (fun (p : SlotR) v => { p with sig := v })) slot_rise (by simp [slotFs]) g HNZ.out.2)⟩
            case measure => have := HLT.out; simp [intOf] <;> omega
        · by_cases e1 : t = [108]
          · subst e1
            go_wp2_with fail
            refine (HN.out _ _ R3.out.r.c).mono ?_
            rintro e w4 ⟨x, rfl, hx, HX⟩
            have HXL := Lib.hid hx
            have R4 := Lib.hid (R3.out.call HX.out.o HX.out.c)
            have z := (lit_cell R4.out.r.p 0).trans rfl
            have f := lit_free R4.out.r.p 0
            clear hx R3 HSG HTK
            go_wp2
            go_roundw
            case rel => exact ⟨k + 1, [108], { q with l := x }, wa, pa, wc, pc, _, HLT.out, rfl, by go_num, Lib.hid (R4.out.num x HXL.out), Lib.hid (KI.out.arm (numFld 108 (fun p : SlotR => p.l) (fun (p : SlotR) v => { p with l := v })) slot_rise (by simp [slotFs]) x HX.out.g)⟩
            case measure => have := HLT.out; simp [intOf] <;> omega
          · by_cases e2 : t = [115]
            · subst e2
              go_wp2_with fail
              refine (HTK.out _ _ R3.out.r.c).mono ?_
              rintro e w4 ⟨x, t2, rfl, HX⟩
              have R4 := Lib.hid (R3.out.call HX.out.o HX.out.c)
              have HY := Lib.hid (yes_run S st3 x t2 HX.out.g)
              clear R3 HSG HN HX
              generalize endS (runS S (takeE 0) st3) = st4 at *
              go_wp2_with fail
              refine (HF.out _ _ R4.out.r.c _).mono ?_
              rintro e w5 ⟨rfl, hc, ho⟩
              have hc2 : Curs cb rb S (failS (!(x == 1)) 5 st4) w5 := by
                by_cases h1 : x = 1
                · subst h1; simpa using hc
                · have h2 : ((x : Int) == 1) = false := by rw [beq_eq_false_iff_ne]; omega
                  have h3 : (x == 1) = false := by simpa using h1
                  have h4 : ((x : Int) != 1) = true := by rw [bne_iff_ne]; omega
                  rw [h3]
                  first | exact hc | (rw [h4] at hc; exact hc) | simpa [h2, h4] using hc
              rw [HY.out.1] at hc2
              have R5 := Lib.hid (R4.out.call (Duo.only ho) hc2)
              have z := (lit_cell R5.out.r.p 1).trans rfl
              have f := lit_free R5.out.r.p 1
              clear hc hc2 ho R4 HF
              go_wp2
              go_roundw
              case rel => exact ⟨k + 1, [115], { q with signed := true }, wa, pa, wc, pc, _, HLT.out, rfl, by go_num, Lib.hid R5.out.yes, Lib.hid (KI.out.arm (yesFld 115 (fun p : SlotR => p.signed) (fun (p : SlotR) v => { p with signed := v })) slot_rise (by simp [slotFs]) true HY.out.2)⟩
              case measure => have := HLT.out; simp [intOf] <;> omega
            · have f0 : (t == [103]) = false := by simpa using e0
              have f1 : (t == [108]) = false := by simpa using e1
              have f2 : (t == [115]) = false := by simpa using e2
              have KN := Lib.hid (KI.out.none (t := t) (by simp only [slotFs, List.mem_cons, List.not_mem_nil, or_false, forall_eq_or_imp, forall_eq, numFld, nzFld, yesFld]; exact ⟨fun h => e0 h.symm, fun h => e1 h.symm, fun h => e2 h.symm⟩) (n - (k + 1)) q t)
              clear e0 e1 e2 KI HN HSG HTK HF
              go_wp2
              go_roundw
              case rel => exact ⟨k + 1, t, q, wa, pa, wc, pc, st3, HLT.out, rfl, by go_num, R3, KN⟩
              case measure => have := HLT.out; simp [intOf] <;> omega
    · have k1 : ¬ (k : Int) < (n : Int) := by omega
      obtain rfl : k = n := by omega
      have PD := Lib.hid (PI.out.done (.inl (Nat.sub_self _)))
      clear PI HN HSG HTK HF HK hlt hk
      have y0 := (lit_cell R.out.r.p 0).trans rfl; have x0 := (lit_cell R.out.r.r 0).trans rfl; have f0 := lit_free R.out.r.r 0
      have y1 := (lit_cell R.out.r.p 1).trans rfl; have x1 := (lit_cell R.out.r.r 1).trans rfl; have f1 := lit_free R.out.r.r 1
      have y2 := (lit_cell R.out.r.p 2).trans rfl; have x2 := (lit_cell R.out.r.r 2).trans rfl; have f2 := lit_free R.out.r.r 2
      have y3 := (lit_cell R.out.r.p 3).trans rfl; have x3 := (lit_cell R.out.r.r 3).trans rfl; have f3 := lit_free R.out.r.r 3
      have y4 := (lit_cell R.out.r.p 4).trans rfl; have x4 := (lit_cell R.out.r.r 4).trans rfl; have f4 := lit_free R.out.r.r 4
      go_wp2_with (go_at_call 64; refine HB.out.mono ?_; rintro e w4 ⟨rfl, rfl⟩)
      have hx7 := lit_set (k := 4) (.slice pa q.sig.path.length pc) (lit_set (k := 3) (.slice wa q.sig.wots.length wc) (lit_set (k := 2) (.int .u64 (q.sig.index : Int)) (lit_set (k := 1) (.bool q.signed) (lit_set (k := 0) (.int .u64 (q.l : Int)) (R.out.r.r)))))
      have ho7 := ((((Only.set w.heap.size 0 (.int .u64 (q.l : Int)) wr).trans (Only.set w.heap.size 1 (.bool q.signed) _)).trans (Only.set w.heap.size 2 (.int .u64 (q.sig.index : Int)) _)).trans (Only.set w.heap.size 3 (.slice wa q.sig.wots.length wc) _)).trans (Only.set w.heap.size 4 (.slice pa q.sig.path.length pc) _)
      obtain ⟨hC, hO⟩ := R.out.r.fin ho7
      have hL := (R.out.s.only ho7 (by omega)).weak (lo2 := w.heap.size) (by omega)
      have hB := R.out.b
      clear ho7
      generalize (((((wr).setCell ⟨w.heap.size, 0, none⟩ (.int .u64 (q.l : Int))).setCell ⟨w.heap.size, 1, none⟩ (.bool q.signed)).setCell ⟨w.heap.size, 2, none⟩ (.int .u64 (q.sig.index : Int))).setCell ⟨w.heap.size, 3, none⟩ (.slice wa q.sig.wots.length wc)).setCell ⟨w.heap.size, 4, none⟩ (.slice pa q.sig.path.length pc) = w7 at *
      have v0 := (lit_cell hx7 0).trans rfl
      have v1 := (lit_cell hx7 1).trans rfl
      have v2 := (lit_cell hx7 2).trans rfl
      have v3 := (lit_cell hx7 3).trans rfl
      have v4 := (lit_cell hx7 4).trans rfl
      obtain ⟨g1, g2⟩ := HE.out q PD.out.2
      rw [show (!true) = false from rfl, failS_false, PD.out.1] at g1
      refine bodyPost_ret (v := slotV ⟨q, wa, wc, pa, pc⟩) (by simp [results, Tryz.results126, go_sem, v0, v1, v2, v3, v4]) rfl ⟨q, wa, pa, ⟨wc, pc, rfl⟩, Lib.hid ⟨hL, hB⟩, Lib.hid ⟨g2, g1 ▸ hC, hO⟩⟩
end Go.Proofs.YtlhmmplkdjibkaaGreatDoor
