/- The reference's cursor: a slot. -/
import Derived.Test.YtgdhljbcclbfaaaGreatDoorJ38
import Derived.Test.YtgdhljbcclbfaaaGreatDoorJ35
import Derived.Test.YtgdhljbcclbfaaaGreatDoorJ27
namespace Go.Proofs.YtgdhljbcclbfaaaGreatDoor
open Go.RowKit

theorem sig80 (g : SigR) : mapP (sigF g) = [128] ↔ sigZ g = true := by
  have h := sig_small g
  unfold smallP at h
  constructor
  · intro e
    cases hz : sigZ g with
    | true => rfl
    | false => rw [hz, if_pos e] at h; simp only [Bool.false_eq_true, if_false] at h; rw [e] at h; cases h
  · intro hz
    by_cases e : mapP (sigF g) = [128]
    · exact e
    · rw [hz, if_neg e, if_pos rfl] at h
      exact absurd h (by unfold mapP; simp [headP_ne])
theorem slot_rise : Rising slotFs := by simp [Rising, slotFs, numFld, nzFld, yesFld]
/-- what is kept through a slot's loop -/
structure Sl (w0 : World) (cb rb : Nat) (S : (List UInt8)) (st : St) (q : SlotR) (wa pa : Option Addr) (wc pc : Nat) (wz : World) : Prop where
  r : Rd w0 cb rb S st 48 #[.int .u64 0, .bool false, .int .u64 0, .slice none 0 0, .slice none 0 0] #[.int .u64 (q.l : Int), .bool q.signed, .int .u64 (q.sig.index : Int), .slice wa q.sig.wots.length wc, .slice pa q.sig.path.length pc] wz
  s : SigL (w0.heap.size + 2) S q.sig wa pa wz
  b : q.l < 18446744073709551616
section
variable {w0 wz wy : World} {cb rb : Nat} {S : (List UInt8)} {st st2 : St} {q : SlotR} {wa pa : Option Addr} {wc pc : Nat}
theorem Sl.call (h : Sl w0 cb rb S st q wa pa wc pc wz) (ho : Duo cb rb wz wy) (hc : Curs cb rb S st2 wy) : Sl w0 cb rb S st2 q wa pa wc pc wy :=
  ⟨h.r.call ho hc, h.s.duo ho (by have := h.r.lt.1; omega) (by have := h.r.lt.2; omega), h.b⟩
theorem Sl.next (h : Sl w0 cb rb S st q wa pa wc pc wz) (hb : Below wz.heap.size wz wy) : Sl w0 cb rb S st q wa pa wc pc wy := h.call (Duo.below hb) (h.r.c.next hb)
theorem Sl.num (h : Sl w0 cb rb S st q wa pa wc pc wz) (n : Nat) (hn : n < 18446744073709551616) : Sl w0 cb rb S st { q with l := n } wa pa wc pc (wz.setCell ⟨w0.heap.size + 1, 0, none⟩ (.int .u64 (n : Int))) :=
  ⟨h.r.set 0 _, h.s.only (Only.set (w0.heap.size + 1) 0 (.int .u64 (n : Int)) wz) (by omega), hn⟩
theorem Sl.yes (h : Sl w0 cb rb S st q wa pa wc pc wz) : Sl w0 cb rb S st { q with signed := true } wa pa wc pc (wz.setCell ⟨w0.heap.size + 1, 1, none⟩ (.bool true)) :=
  ⟨h.r.set 1 _, h.s.only (Only.set (w0.heap.size + 1) 1 (.bool true) wz) (by omega), h.b⟩
theorem Sl.sig (h : Sl w0 cb rb S st q wa pa wc pc wz) (g : SigR) (xa xp : Option Addr) (xc xd : Nat) (hg : SigL (w0.heap.size + 2) S g xa xp wz) :
    Sl w0 cb rb S st { q with sig := g } xa xp xc xd (((wz.setCell ⟨w0.heap.size + 1, 2, none⟩ (.int .u64 (g.index : Int))).setCell ⟨w0.heap.size + 1, 3, none⟩ (.slice xa g.wots.length xc)).setCell ⟨w0.heap.size + 1, 4, none⟩ (.slice xp g.path.length xd)) := by
  have ho := ((Only.set (w0.heap.size + 1) 2 (.int .u64 (g.index : Int)) wz).trans (Only.set (w0.heap.size + 1) 3 (.slice xa g.wots.length xc) _)).trans (Only.set (w0.heap.size + 1) 4 (.slice xp g.path.length xd) _)
  exact ⟨((h.r.set 2 _).set 3 _).set 4 _, hg.only ho (by omega), h.b⟩
end
theorem SigL.laid {lo : Nat} {S : (List UInt8)} {g : SigR} {wa pa : Option Addr} {w : World} (h : SigL lo S g wa pa w) (hS : S.length ≤ 5000) : SigV g wa pa w ∧ RSig g :=
  ⟨⟨h.fw.strs, h.fp.strs⟩, ⟨h.i, by have := h.wl; omega, by have := h.pl; omega, fun x hx => Nat.le_trans (h.wt x hx) hS, fun x hx => Nat.le_trans (h.pt x hx) hS⟩⟩
set_option maxRecDepth 100000 in
set_option maxHeartbeats 4000000 in
theorem cslot_any {cb rb : Nat} {S : (List UInt8)} {st : St} {w : World} (hS : S.length ≤ 5000) (h : Curs cb rb S st w) :
    Calls Tryz.prog 56 #[.pointer (some ⟨cb, 0, none⟩)] w fun e w' => ∃ (q : SlotR) (wa pa : Option Addr) (wc pc : Nat), e = .returned (slotV ⟨q, wa, wc, pa, pc⟩) ∧ Hid (SigL w.heap.size S q.sig wa pa w' ∧ q.l < 18446744073709551616) ∧ Hid (CGot cb rb S (runS S slotC.get st) q w w') := by
  have hS6 : S.length ≤ 1000000 := by omega
  have HPR := Lib.hid (fun (st : St) (wz : World) (h : Curs cb rb S st wz) => cpairs_any hS6 h)
  have HK := Lib.hid (show ∀ (last : (List UInt8)) (st : St) (wz : World), Curs cb rb S st wz → Calls Tryz.prog 92 #[.pointer (some ⟨cb, 0, none⟩), .string ⟨#[103, 108, 115]⟩, .string ⟨last.toArray⟩] wz (fun e w' => ∃ t : (List UInt8), e = .returned (.string ⟨t.toArray⟩) ∧ Hid (CGot cb rb S (runS S (keyG (slotFs.map (·.key)) last) st) t wz w')) from fun last st wz h => ckey_any [103, 108, 115] (by decide) last hS6 h)
  have HN := Lib.hid (fun (st : St) (wz : World) (h : Curs cb rb S st wz) => cnum_any hS6 h)
  have HSG := Lib.hid (fun (st : St) (wz : World) (h : Curs cb rb S st wz) => csig_any hS6 h)
  have HTK := Lib.hid (show ∀ (st : St) (wz : World), Curs cb rb S st wz → Calls Tryz.prog 109 #[.pointer (some ⟨cb, 0, none⟩), .int .i64 0] wz _ from fun st wz h => take_any 0 (by decide) hS6 h)
  have HF := Lib.hid (fun (st : St) (wz : World) (h : Curs cb rb S st wz) (b : Bool) => fail5 h b)
  have HS5 := Lib.hid hS
  have R := Lib.hid (show Sl w cb rb S st zSlot none none 0 0 ((w.alloc (.cells #[.int .u64 0, .bool false, .int .u64 0, .slice none 0 0, .slice none 0 0] 48)).alloc (.cells #[.int .u64 0, .bool false, .int .u64 0, .slice none 0 0, .slice none 0 0] 48)) from ⟨Rd.start h 48 #[.int .u64 0, .bool false, .int .u64 0, .slice none 0 0, .slice none 0 0], SigL.zero _ _ _, by decide⟩)
  obtain ⟨tot, hT⟩ : ∃ tot, allS S slotFs zSlot st = tot := ⟨_, rfl⟩
  have HE := Lib.hid (show ∀ q, Got tot q → _ from hT ▸ map_run S slotFs zSlot (fun _ => true) st)
  have HTOT := Lib.hid hT
  clear h hS hS6 hT
  go_enter Tryz.func56, Tryz.ntmps56
  go_upto_region 2 with fail
  change Code.wp _ _ _ _ ((w.alloc (.cells #[.int .u64 0, .bool false, .int .u64 0, .slice none 0 0, .slice none 0 0] 48)).alloc (.cells #[.int .u64 0, .bool false, .int .u64 0, .slice none 0 0, .slice none 0 0] 48))
  generalize (w.alloc (.cells #[.int .u64 0, .bool false, .int .u64 0, .slice none 0 0, .slice none 0 0] 48)).alloc (.cells #[.int .u64 0, .bool false, .int .u64 0, .slice none 0 0, .slice none 0 0] 48) = w1 at *
  go_wp2_with fail
  refine (HPR.out _ _ R.out.r.c).mono ?_
  rintro e w2 ⟨n, rfl, hn, HQ⟩
  have PI := Lib.hid (HTOT.out ▸ PInv.start S slotFs zSlot st n HQ.out.g)
  have R := Lib.hid (R.out.call HQ.out.o HQ.out.c)
  have HNN := Lib.hid hn
  clear hn HQ HPR HTOT
  generalize endS (runS S sizeG st) = st1 at *
  go_wp2_with fail
  go_loopw [5, 6] (fun l i wr => ∃ (k : Nat) (last : (List UInt8)) (q : SlotR) (wa pa : Option Addr) (wc pc : Nat) (st2 : St), k ≤ n ∧ l = .string ⟨last.toArray⟩ ∧ i = .int .u64 (k : Int) ∧ Hid (Sl w cb rb S st2 q wa pa wc pc wr) ∧ Hid (PInv S slotFs tot (n - k) q last st2))
    (fun _ i _ => n - (intOf i).toNat)
  case atStart => exact ⟨0, [], zSlot, none, none, 0, 0, st1, Nat.zero_le _, rfl, rfl, R, PI⟩
  case round =>
    obtain ⟨k, last, q, wa, pa, wc, pc, st2, hk, rfl, rfl, R, PI⟩ := hrel
    have HB := Lib.hid (bad_any R.out.r.c)
    by_cases hlt : k < n
    · have kd : decide ((k : Int) < (n : Int)) = true := decide_eq_true (by omega)
      have k3 : (k : Int) ≤ 65536 := by have := HNN.out; omega
      have k4 : (0 : Int) ≤ (k : Int) := by omega
      have HLT := Lib.hid hlt
      clear hlt hk
      cases st2 with
      | error f =>
        have PD := Lib.hid (PI.out.done (.inr rfl))
        simp only [badS] at HB
        clear PI HN HSG HTK HF HK
        have y0 := (lit_cell R.out.r.p 0).trans rfl; have x0 := (lit_cell R.out.r.r 0).trans rfl; have f0 := lit_free R.out.r.r 0
        have y1 := (lit_cell R.out.r.p 1).trans rfl; have x1 := (lit_cell R.out.r.r 1).trans rfl; have f1 := lit_free R.out.r.r 1
        have y2 := (lit_cell R.out.r.p 2).trans rfl; have x2 := (lit_cell R.out.r.r 2).trans rfl; have f2 := lit_free R.out.r.r 2
        have y3 := (lit_cell R.out.r.p 3).trans rfl; have x3 := (lit_cell R.out.r.r 3).trans rfl; have f3 := lit_free R.out.r.r 3
        have y4 := (lit_cell R.out.r.p 4).trans rfl; have x4 := (lit_cell R.out.r.r 4).trans rfl; have f4 := lit_free R.out.r.r 4
        go_wp2_with (go_at_call 91; refine HB.out.mono ?_; rintro e w4 ⟨rfl, rfl⟩)
        have hx7 := lit_set (k := 4) (.slice pa q.sig.path.length pc) (lit_set (k := 3) (.slice wa q.sig.wots.length wc) (lit_set (k := 2) (.int .u64 (q.sig.index : Int)) (lit_set (k := 1) (.bool q.signed) (lit_set (k := 0) (.int .u64 (q.l : Int)) (R.out.r.r)))))
        have ho7 := ((((Only.set w.heap.size 0 (.int .u64 (q.l : Int)) w4).trans (Only.set w.heap.size 1 (.bool q.signed) _)).trans (Only.set w.heap.size 2 (.int .u64 (q.sig.index : Int)) _)).trans (Only.set w.heap.size 3 (.slice wa q.sig.wots.length wc) _)).trans (Only.set w.heap.size 4 (.slice pa q.sig.path.length pc) _)
        obtain ⟨hC, hO⟩ := R.out.r.fin ho7
        have hL := (R.out.s.only ho7 (by omega)).weak (lo2 := w.heap.size) (by omega)
        have hB := R.out.b
        clear ho7
        generalize (((((w4).setCell ⟨w.heap.size, 0, none⟩ (.int .u64 (q.l : Int))).setCell ⟨w.heap.size, 1, none⟩ (.bool q.signed)).setCell ⟨w.heap.size, 2, none⟩ (.int .u64 (q.sig.index : Int))).setCell ⟨w.heap.size, 3, none⟩ (.slice wa q.sig.wots.length wc)).setCell ⟨w.heap.size, 4, none⟩ (.slice pa q.sig.path.length pc) = w7 at *
        have v0 := (lit_cell hx7 0).trans rfl
        have v1 := (lit_cell hx7 1).trans rfl
        have v2 := (lit_cell hx7 2).trans rfl
        have v3 := (lit_cell hx7 3).trans rfl
        have v4 := (lit_cell hx7 4).trans rfl
        obtain ⟨g1, g2⟩ := HE.out q PD.out.2
        rw [show (!true) = false from rfl, failS_false, PD.out.1] at g1
        refine bodyPost_ret (v := slotV ⟨q, wa, wc, pa, pc⟩) (by simp [results, Tryz.results56, go_sem, v0, v1, v2, v3, v4]) rfl ⟨q, wa, pa, wc, pc, rfl, Lib.hid ⟨hL, hB⟩, Lib.hid ⟨g2, g1 ▸ hC, hO⟩⟩
      | ok a =>
        simp only [badS] at HB
        rw [show n - k = (n - (k + 1)) + 1 by have := HLT.out; omega] at PI
        go_upto_region 7 with (go_at_call 91; refine HB.out.mono ?_; rintro e w4 ⟨rfl, rfl⟩)
        go_wp2_with fail
        refine (HK.out _ _ _ R.out.r.c).mono ?_
        rintro e w3 ⟨t, rfl, HQ⟩
        have KI := Lib.hid (PI.out.key slot_rise t HQ.out.g)
        have R3 := Lib.hid (R.out.call HQ.out.o HQ.out.c)
        generalize endS (runS S (keyG (slotFs.map (·.key)) last) (.ok a)) = st3 at *
        clear HQ R PI HB HK HE
        have HZ := Lib.hid (show w.heap.size + 2 ≤ w3.heap.size by have := lit_lt R3.out.r.p; omega)
        by_cases e0 : t = [103]
        · subst e0
          go_wp2_with fail
          refine (HSG.out _ _ R3.out.r.c).mono ?_
          rintro e w4 ⟨g, xa, xp, xc, xd, rfl, HL, HX⟩
          have R4 := Lib.hid (R3.out.call HX.out.o HX.out.c)
          have R5 := Lib.hid (R4.out.sig g xa xp xc xd (HL.out.weak HZ.out))
          have z2 := (lit_cell R4.out.r.p 2).trans rfl; have z3 := (lit_cell R4.out.r.p 3).trans rfl; have z4 := (lit_cell R4.out.r.p 4).trans rfl
          have f2 := lit_free R4.out.r.p 2; have f3 := lit_free R4.out.r.p 3; have f4 := lit_free R4.out.r.p 4
          have HNZ := Lib.hid (nz_run S sigC sigZ st3 g HX.out.g)
          clear R3 R4 HL HX HN HTK HSG HZ
          go_upto_region 11 with fail
          generalize ((w4.setCell ⟨w.heap.size + 1, 2, none⟩ (.int .u64 (g.index : Int))).setCell ⟨w.heap.size + 1, 3, none⟩ (.slice xa g.wots.length xc)).setCell ⟨w.heap.size + 1, 4, none⟩ (.slice xp g.path.length xd) = w5 at *
          clear z2 z3 z4 f2 f3 f4
          have z2 := (lit_cell R5.out.r.p 2).trans rfl; have z3 := (lit_cell R5.out.r.p 3).trans rfl; have z4 := (lit_cell R5.out.r.p 4).trans rfl
          have HLY := Lib.hid (laySig_any g xa xp xc xd w5 (R5.out.s.laid HS5.out).1 (R5.out.s.laid HS5.out).2)
          generalize endS (runS S sigC.get st3) = st4 at *
          have H80 := Lib.hid (sig80 g)
          go_wp2_with fail
          refine HLY.out.mono ?_
          rintro e w6 ⟨rfl, b6⟩
          have R6 := Lib.hid (R5.out.next b6)
          clear b6 HLY R5 z2 z3 z4
          generalize mapP (sigF g) = MM at *
          cases hz : sigZ g with
          | true =>
            obtain rfl := H80.out.2 hz
            rw [hz] at HNZ
            clear hz H80
            go_wp2_with fail
            refine (HF.out _ _ R6.out.r.c _).mono ?_
            rintro e w7 ⟨rfl, hc, ho⟩
            have hc2 : Curs cb rb S (failS true 5 st4) w7 := by simpa using hc
            rw [HNZ.out.1] at hc2
            have R7 := Lib.hid (R6.out.call (Duo.only ho) hc2)
            clear hc hc2 ho R6 HF
            go_wp2
            go_roundw
            case rel => exact ⟨k + 1, [103], { q with sig := g }, xa, xp, xc, xd, _, HLT.out, rfl, by go_num, R7, Lib.hid (KI.out.arm (nzFld 103 sigC sigZ (fun p : SlotR => p.sig) (fun (p : SlotR) v => { p with sig := v })) slot_rise (by simp [slotFs]) g HNZ.out.2)⟩
            case measure => have := HLT.out; simp [intOf] <;> omega
          | false =>
            have hne : (MM == [128]) = false := by rw [beq_eq_false_iff_ne]; intro e; rw [H80.out.1 e] at hz; cases hz
            have hne2 : ¬ MM = [128] := by intro e; rw [H80.out.1 e] at hz; cases hz
            rw [hz] at HNZ
            clear hz H80
            go_wp2_with fail
            refine (HF.out _ _ R6.out.r.c _).mono ?_
            rintro e w7 ⟨rfl, hc, ho⟩
            have hc2 : Curs cb rb S (failS false 5 st4) w7 := by first | exact hc | simpa [hne, hne2] using hc
            rw [HNZ.out.1] at hc2
            have R7 := Lib.hid (R6.out.call (Duo.only ho) hc2)
            clear hc hc2 ho R6 HF hne hne2
            go_wp2
            go_roundw
            case rel => exact ⟨k + 1, [103], { q with sig := g }, xa, xp, xc, xd, _, HLT.out, rfl, by go_num, R7, Lib.hid (KI.out.arm (nzFld 103 sigC sigZ (fun p : SlotR => p.sig) (fun (p : SlotR) v => { p with sig := v })) slot_rise (by simp [slotFs]) g HNZ.out.2)⟩
            case measure => have := HLT.out; simp [intOf] <;> omega
        · by_cases e1 : t = [108]
          · subst e1
            go_wp2_with fail
            refine (HN.out _ _ R3.out.r.c).mono ?_
            rintro e w4 ⟨x, rfl, hx, HX⟩
            have HXL := Lib.hid hx
            have R4 := Lib.hid (R3.out.call HX.out.o HX.out.c)
            have z := (lit_cell R4.out.r.p 0).trans rfl
            have f := lit_free R4.out.r.p 0
            clear hx R3 HSG HTK
            go_wp2
            go_roundw
            case rel => exact ⟨k + 1, [108], { q with l := x }, wa, pa, wc, pc, _, HLT.out, rfl, by go_num, Lib.hid (R4.out.num x HXL.out), Lib.hid (KI.out.arm (numFld 108 (fun p : SlotR => p.l) (fun (p : SlotR) v => { p with l := v })) slot_rise (by simp [slotFs]) x HX.out.g)⟩
            case measure => have := HLT.out; simp [intOf] <;> omega
          · by_cases e2 : t = [115]
            · subst e2
              go_wp2_with fail
              refine (HTK.out _ _ R3.out.r.c).mono ?_
              rintro e w4 ⟨x, t2, rfl, HX⟩
              have R4 := Lib.hid (R3.out.call HX.out.o HX.out.c)
              have HY := Lib.hid (yes_run S st3 x t2 HX.out.g)
              clear R3 HSG HN HX
              generalize endS (runS S (takeE 0) st3) = st4 at *
              go_wp2_with fail
              refine (HF.out _ _ R4.out.r.c _).mono ?_
              rintro e w5 ⟨rfl, hc, ho⟩
              have hc2 : Curs cb rb S (failS (!(x == 1)) 5 st4) w5 := by
                by_cases h1 : x = 1
                · subst h1; simpa using hc
                · have h2 : ((x : Int) == 1) = false := by rw [beq_eq_false_iff_ne]; omega
                  have h3 : (x == 1) = false := by simpa using h1
                  have h4 : ((x : Int) != 1) = true := by rw [bne_iff_ne]; omega
                  rw [h3]
                  first | exact hc | (rw [h4] at hc; exact hc) | simpa [h2, h4] using hc
              rw [HY.out.1] at hc2
              have R5 := Lib.hid (R4.out.call (Duo.only ho) hc2)
              have z := (lit_cell R5.out.r.p 1).trans rfl
              have f := lit_free R5.out.r.p 1
              clear hc hc2 ho R4 HF
              go_wp2
              go_roundw
              case rel => exact ⟨k + 1, [115], { q with signed := true }, wa, pa, wc, pc, _, HLT.out, rfl, by go_num, Lib.hid R5.out.yes, Lib.hid (KI.out.arm (yesFld 115 (fun p : SlotR => p.signed) (fun (p : SlotR) v => { p with signed := v })) slot_rise (by simp [slotFs]) true HY.out.2)⟩
              case measure => have := HLT.out; simp [intOf] <;> omega
            · have f0 : (t == [103]) = false := by simpa using e0
              have f1 : (t == [108]) = false := by simpa using e1
              have f2 : (t == [115]) = false := by simpa using e2
              have KN := Lib.hid (KI.out.none (t := t) (by simp only [slotFs, List.mem_cons, List.not_mem_nil, or_false, forall_eq_or_imp, forall_eq, numFld, nzFld, yesFld]; exact ⟨fun h => e0 h.symm, fun h => e1 h.symm, fun h => e2 h.symm⟩) (n - (k + 1)) q t)
              clear e0 e1 e2 KI HN HSG HTK HF
              go_wp2
              go_roundw
              case rel => exact ⟨k + 1, t, q, wa, pa, wc, pc, st3, HLT.out, rfl, by go_num, R3, KN⟩
              case measure => have := HLT.out; simp [intOf] <;> omega
    · have k1 : ¬ (k : Int) < (n : Int) := by omega
      obtain rfl : k = n := by omega
      have PD := Lib.hid (PI.out.done (.inl (Nat.sub_self _)))
      clear PI HN HSG HTK HF HK hlt hk
      have y0 := (lit_cell R.out.r.p 0).trans rfl; have x0 := (lit_cell R.out.r.r 0).trans rfl; have f0 := lit_free R.out.r.r 0
      have y1 := (lit_cell R.out.r.p 1).trans rfl; have x1 := (lit_cell R.out.r.r 1).trans rfl; have f1 := lit_free R.out.r.r 1
      have y2 := (lit_cell R.out.r.p 2).trans rfl; have x2 := (lit_cell R.out.r.r 2).trans rfl; have f2 := lit_free R.out.r.r 2
      have y3 := (lit_cell R.out.r.p 3).trans rfl; have x3 := (lit_cell R.out.r.r 3).trans rfl; have f3 := lit_free R.out.r.r 3
      have y4 := (lit_cell R.out.r.p 4).trans rfl; have x4 := (lit_cell R.out.r.r 4).trans rfl; have f4 := lit_free R.out.r.r 4
      go_wp2_with (go_at_call 91; refine HB.out.mono ?_; rintro e w4 ⟨rfl, rfl⟩)
      have hx7 := lit_set (k := 4) (.slice pa q.sig.path.length pc) (lit_set (k := 3) (.slice wa q.sig.wots.length wc) (lit_set (k := 2) (.int .u64 (q.sig.index : Int)) (lit_set (k := 1) (.bool q.signed) (lit_set (k := 0) (.int .u64 (q.l : Int)) (R.out.r.r)))))
      have ho7 := ((((Only.set w.heap.size 0 (.int .u64 (q.l : Int)) wr).trans (Only.set w.heap.size 1 (.bool q.signed) _)).trans (Only.set w.heap.size 2 (.int .u64 (q.sig.index : Int)) _)).trans (Only.set w.heap.size 3 (.slice wa q.sig.wots.length wc) _)).trans (Only.set w.heap.size 4 (.slice pa q.sig.path.length pc) _)
      obtain ⟨hC, hO⟩ := R.out.r.fin ho7
      have hL := (R.out.s.only ho7 (by omega)).weak (lo2 := w.heap.size) (by omega)
      have hB := R.out.b
      clear ho7
      generalize (((((wr).setCell ⟨w.heap.size, 0, none⟩ (.int .u64 (q.l : Int))).setCell ⟨w.heap.size, 1, none⟩ (.bool q.signed)).setCell ⟨w.heap.size, 2, none⟩ (.int .u64 (q.sig.index : Int))).setCell ⟨w.heap.size, 3, none⟩ (.slice wa q.sig.wots.length wc)).setCell ⟨w.heap.size, 4, none⟩ (.slice pa q.sig.path.length pc) = w7 at *
      have v0 := (lit_cell hx7 0).trans rfl
      have v1 := (lit_cell hx7 1).trans rfl
      have v2 := (lit_cell hx7 2).trans rfl
      have v3 := (lit_cell hx7 3).trans rfl
      have v4 := (lit_cell hx7 4).trans rfl
      obtain ⟨g1, g2⟩ := HE.out q PD.out.2
      rw [show (!true) = false from rfl, failS_false, PD.out.1] at g1
      refine bodyPost_ret (v := slotV ⟨q, wa, wc, pa, pc⟩) (by simp [results, Tryz.results56, go_sem, v0, v1, v2, v3, v4]) rfl ⟨q, wa, pa, ⟨wc, pc, rfl⟩, Lib.hid ⟨hL, hB⟩, Lib.hid ⟨g2, g1 ▸ hC, hO⟩⟩
end Go.Proofs.YtgdhljbcclbfaaaGreatDoor
/- The reference's ReadSlot. -/
namespace Go.Proofs.YtgdhljbcclbfaaaGreatDoor
open Go.RowKit

theorem drew_facts2 {B X Y lo : Nat} {S : (List UInt8)} {g : SigR} {wa pa : Option Addr} {w wf : World} {a b : Option Obj} (h : SigL lo S g wa pa wf ∧ Below B w wf ∧ wf.heap[X]? = a ∧ wf.heap[Y]? = b) : SigL lo S g wa pa wf.drew ∧ Below B w wf.drew ∧ wf.drew.heap[X]? = a ∧ wf.drew.heap[Y]? = b :=
  ⟨⟨h.1.fw.to (fun _ _ _ => rfl) (Nat.le_refl _), h.1.fp.to (fun _ _ _ => rfl) (Nat.le_refl _), h.1.i, h.1.wl, h.1.pl, h.1.wt, h.1.pt⟩, h.2.1.drew, h.2.2.1, h.2.2.2⟩
theorem SigL.next {lo : Nat} {S : (List UInt8)} {g : SigR} {wa pa : Option Addr} {w w' : World} (h : SigL lo S g wa pa w) (hb : Below w.heap.size w w') : SigL lo S g wa pa w' :=
  ⟨h.fw.to (fun k _ hk => hb.block k hk) hb.size, h.fp.to (fun k _ hk => hb.block k hk) hb.size, h.i, h.wl, h.pl, h.wt, h.pt⟩
theorem SigL.slotM {lo : Nat} {S : (List UInt8)} {q : SlotR} {wa pa : Option Addr} {w : World} (h : SigL lo S q.sig wa pa w) (wc pc : Nat) : SlotM ⟨q, wa, wc, pa, pc⟩ w := ⟨h.fw.strs, h.fp.strs⟩
set_option maxRecDepth 100000 in
set_option maxHeartbeats 2000000 in
theorem rReadslot_any (S : (List UInt8)) (w : World) (hS : S.length ≤ 5000) :
    Calls Tryz.prog 22 #[.string ⟨S.toArray⟩] w fun e w' => ∃ (q : SlotR) (wa pa : Option Addr) (wc pc : Nat) (f : Nat × Nat), e = .returned (.tuple #[slotV ⟨q, wa, wc, pa, pc⟩, .agg #[.int .i64 (f.1 : Int), .int .i64 (f.2 : Int)]]) ∧ Hid (RdAns slotC.get S zSlot q f ∧ SlotM ⟨q, wa, wc, pa, pc⟩ w') ∧ Below w.heap.size w w' := by
  have hb0 : Below w.heap.size w ((w.alloc (.cells #[.int .u64 0, .bool false, .int .u64 0, .slice none 0 0, .slice none 0 0] 48)).alloc (.cells #[.int .i64 0, .int .i64 0] 38)) := (by0 w _).alloc (by simp) _
  have hx0 : ((w.alloc (.cells #[.int .u64 0, .bool false, .int .u64 0, .slice none 0 0, .slice none 0 0] 48)).alloc (.cells #[.int .i64 0, .int .i64 0] 38)).heap[w.heap.size]? = some (.cells #[.int .u64 0, .bool false, .int .u64 0, .slice none 0 0, .slice none 0 0] 48 (0, 0)) := lit_old _ (heap_alloc_new w _)
  have hf0 : ((w.alloc (.cells #[.int .u64 0, .bool false, .int .u64 0, .slice none 0 0, .slice none 0 0] 48)).alloc (.cells #[.int .i64 0, .int .i64 0] 38)).heap[w.heap.size + 1]? = some (.cells #[.int .i64 0, .int .i64 0] 38 (0, 0)) := by
    rw [show w.heap.size + 1 = (w.alloc (.cells #[.int .u64 0, .bool false, .int .u64 0, .slice none 0 0, .slice none 0 0] 48)).heap.size by simp]; exact heap_alloc_new _ _
  have hz0 : ((w.alloc (.cells #[.int .u64 0, .bool false, .int .u64 0, .slice none 0 0, .slice none 0 0] 48)).alloc (.cells #[.int .i64 0, .int .i64 0] 38)).heap.size = w.heap.size + 2 := by simp
  have H0 := Lib.hid (And.intro hb0 (And.intro hx0 (And.intro hf0 hz0)))
  have HBG := Lib.hid (fun wz => cbegin_any S wz)
  have HP := Lib.hid (fun cb rb (wz : World) (h : Curs cb rb S (.ok 0) wz) => cslot_any hS h)
  have HEN := Lib.hid (fun cb rb st (wz : World) (h : Curs cb rb S st wz) => cend_any (by omega) h)
  clear hb0 hx0 hf0 hz0 hS
  go_enter Tryz.func22, Tryz.ntmps22
  go_upto_region 1 with fail
  change Code.wp _ _ _ _ ((w.alloc (.cells #[.int .u64 0, .bool false, .int .u64 0, .slice none 0 0, .slice none 0 0] 48)).alloc (.cells #[.int .i64 0, .int .i64 0] 38))
  generalize (w.alloc (.cells #[.int .u64 0, .bool false, .int .u64 0, .slice none 0 0, .slice none 0 0] 48)).alloc (.cells #[.int .i64 0, .int .i64 0] 38) = w1 at *
  go_wp2_with fail
  refine (HBG.out _).mono ?_
  rintro e w2 ⟨cb, rb, rfl, HC⟩
  have R := Lib.hid (show Rr w cb rb S (.ok 0) 48 #[.int .u64 0, .bool false, .int .u64 0, .slice none 0 0, .slice none 0 0] w2 from by
    obtain ⟨h1, h2, h3, h4⟩ := HC.out
    obtain ⟨g1, g2, g3, g4⟩ := H0.out
    exact ⟨h1, g1.trans (h4.mono g1.size), (h4.block _ (lit_lt g2)).trans g2, (h4.block _ (lit_lt g3)).trans g3, ⟨by omega, by omega⟩⟩)
  have HLT := Lib.hid (show cb < w2.heap.size ∧ rb < w2.heap.size ∧ w.heap.size + 1 < w2.heap.size from ⟨R.out.c.lt, R.out.c.rt, lit_lt R.out.f⟩)
  clear HC H0 HBG
  go_upto_region 3 with (go_at_call 56; refine (HP.out _ _ _ R.out.c).mono ?_; rintro e w3 ⟨q, wa, pa, wc, pc, rfl, HL, HQ⟩)
  change Code.wp _ _ _ _ (w3.alloc (.cells #[.int .u64 (q.l : Int), .bool q.signed, .int .u64 (q.sig.index : Int), .slice wa q.sig.wots.length wc, .slice pa q.sig.path.length pc] 48))
  have HG := Lib.hid HQ.out.g
  have R3 := Lib.hid (R.out.call HQ.out.o HQ.out.c)
  have HLM := Lib.hid (HL.out.1.next (by0 w3 (.cells #[.int .u64 (q.l : Int), .bool q.signed, .int .u64 (q.sig.index : Int), .slice wa q.sig.wots.length wc, .slice pa q.sig.path.length pc] 48)))
  have R := Lib.hid ((R.out.call HQ.out.o HQ.out.c).next (by0 w3 (.cells #[.int .u64 (q.l : Int), .bool q.signed, .int .u64 (q.sig.index : Int), .slice wa q.sig.wots.length wc, .slice pa q.sig.path.length pc] 48)))
  have HX := Lib.hid (heap_alloc_new w3 (.cells #[.int .u64 (q.l : Int), .bool q.signed, .int .u64 (q.sig.index : Int), .slice wa q.sig.wots.length wc, .slice pa q.sig.path.length pc] 48))
  have HPL := Lib.hid (show w3.heap.size ≠ cb ∧ w3.heap.size ≠ rb from ⟨Nat.ne_of_gt HQ.out.c.lt, Nat.ne_of_gt HQ.out.c.rt⟩)
  have HP3 := Lib.hid (show w.heap.size + 2 ≤ w3.heap.size from by have h1 := HQ.out.c.lt; have h2 := R3.out.lt; omega)
  generalize w3.alloc (.cells #[.int .u64 (q.l : Int), .bool q.signed, .int .u64 (q.sig.index : Int), .slice wa q.sig.wots.length wc, .slice pa q.sig.path.length pc] 48) = w4 at *
  generalize w3.heap.size = P at *
  clear HP HQ HL R3
  have HWR := Lib.hid (show RdLast _ S q _ from whole_run S slotC.get q HG.out (fun f hf => by
    have k := R.out.c.nz f
    rw [hf] at k
    exact k rfl))
  generalize endS (runS S slotC.get (.ok 0)) = st at *
  go_upto_region 4 with (go_at_call 48; refine (HEN.out _ _ _ _ R.out.c).mono ?_; rintro e w5 ⟨rfl, ho⟩)
  change Code.wp _ _ _ _ (w5.alloc (.cells #[.int .i64 ((lastS S st).1 : Int), .int .i64 ((lastS S st).2 : Int)] 38))
  have hb := by0 w5 (.cells #[.int .i64 ((lastS S st).1 : Int), .int .i64 ((lastS S st).2 : Int)] 38)
  have hx5 := (ho.block _ (lit_lt HX.out) HPL.out.1 HPL.out.2).trans HX.out
  have HX := Lib.hid ((hb.block _ (lit_lt hx5)).trans hx5)
  have HLP := Lib.hid (lit_lt hx5)
  have HLM := Lib.hid ((HLM.out.duo ho HLT.out.1 HLT.out.2.1).next hb)
  have HO := Lib.hid (show Below w.heap.size w _ ∧ _ ∧ _ from by
    have h1 := R.out.lt; have h2 := R.out.o
    have hz : Below w.heap.size w w5 := h2.trans ⟨ho.os, ho.tape, ho.output, ho.size, fun k hk => ho.block k (Nat.lt_of_lt_of_le hk h2.size) (by omega) (by omega)⟩
    have hr := (ho.block _ (lit_lt R.out.r) (by omega) (by omega)).trans R.out.r
    have hf := (ho.block _ (lit_lt R.out.f) (by omega) (by omega)).trans R.out.f
    exact ⟨hz.trans (hb.mono hz.size), (hb.block _ (lit_lt hr)).trans hr, (hb.block _ (lit_lt hf)).trans hf⟩)
  have HGF := Lib.hid (heap_alloc_new w5 (.cells #[.int .i64 ((lastS S st).1 : Int), .int .i64 ((lastS S st).2 : Int)] 38))
  clear hx5 ho hb HEN HG R HPL
  generalize w5.alloc (.cells #[.int .i64 ((lastS S st).1 : Int), .int .i64 ((lastS S st).2 : Int)] 38) = w6 at *
  have HPG := Lib.hid (show w.heap.size + 2 ≤ P ∧ w.heap.size + 2 ≤ w5.heap.size from ⟨HP3.out, by have h1 := HLP.out; have h2 := HP3.out; omega⟩)
  generalize w5.heap.size = G at *
  generalize lastS S st = F at *
  obtain ⟨c, b⟩ := F
  simp only at HGF HWR
  have HNE := Lib.hid (show P ≠ w.heap.size ∧ G ≠ w.heap.size ∧ P ≠ w.heap.size + 1 ∧ G ≠ w.heap.size + 1 from by
    have h1 := HPG.out; omega)
  have n1 := HNE.out.1; have n2 := HNE.out.2.1; have n3 := HNE.out.2.2.1; have n4 := HNE.out.2.2.2
  have n5 := n1.symm; have n6 := n2.symm; have n7 := n3.symm; have n8 := n4.symm
  have g0 := (lit_cell HGF.out 0).trans rfl; have g1 := (lit_cell HGF.out 1).trans rfl
  have y0 := (lit_cell HX.out 0).trans rfl; have x0 := (lit_cell HO.out.2.1 0).trans rfl; have p0 := lit_free HO.out.2.1 0
  have y1 := (lit_cell HX.out 1).trans rfl; have x1 := (lit_cell HO.out.2.1 1).trans rfl; have p1 := lit_free HO.out.2.1 1
  have y2 := (lit_cell HX.out 2).trans rfl; have x2 := (lit_cell HO.out.2.1 2).trans rfl; have p2 := lit_free HO.out.2.1 2
  have y3 := (lit_cell HX.out 3).trans rfl; have x3 := (lit_cell HO.out.2.1 3).trans rfl; have p3 := lit_free HO.out.2.1 3
  have y4 := (lit_cell HX.out 4).trans rfl; have x4 := (lit_cell HO.out.2.1 4).trans rfl; have p4 := lit_free HO.out.2.1 4
  have t0 := (lit_cell HO.out.2.2 0).trans rfl; have s0 := lit_free HO.out.2.2 0
  have t1 := (lit_cell HO.out.2.2 1).trans rfl; have s1 := lit_free HO.out.2.2 1
  by_cases hc : c = 0
  · subst hc
    clear HGF HX HNE HPG HLP HP3
    go_upto_region 6 with fail
    go_region
    go_wp2
    clear x0 p0 y0 x1 p1 y1 x2 p2 y2 x3 p3 y3 x4 p4 y4 t0 t1 s0 s1 g0 g1 n1 n2 n3 n4 n5 n6 n7 n8
    have KEY := drew_facts2 (show SigL w2.heap.size S q.sig wa pa ((((((((w6).setCell ⟨w.heap.size, 0, none⟩ (.int .u64 (q.l : Int))).setCell ⟨w.heap.size, 1, none⟩ (.bool q.signed)).setCell ⟨w.heap.size, 2, none⟩ (.int .u64 (q.sig.index : Int))).setCell ⟨w.heap.size, 3, none⟩ (.slice wa q.sig.wots.length wc)).setCell ⟨w.heap.size, 4, none⟩ (.slice pa q.sig.path.length pc)).setCell ⟨w.heap.size + 1, 0, none⟩ (.int .i64 0)).setCell ⟨w.heap.size + 1, 1, none⟩ (.int .i64 (b : Int))) ∧ Below w.heap.size w ((((((((w6).setCell ⟨w.heap.size, 0, none⟩ (.int .u64 (q.l : Int))).setCell ⟨w.heap.size, 1, none⟩ (.bool q.signed)).setCell ⟨w.heap.size, 2, none⟩ (.int .u64 (q.sig.index : Int))).setCell ⟨w.heap.size, 3, none⟩ (.slice wa q.sig.wots.length wc)).setCell ⟨w.heap.size, 4, none⟩ (.slice pa q.sig.path.length pc)).setCell ⟨w.heap.size + 1, 0, none⟩ (.int .i64 0)).setCell ⟨w.heap.size + 1, 1, none⟩ (.int .i64 (b : Int))) ∧ ((((((((w6).setCell ⟨w.heap.size, 0, none⟩ (.int .u64 (q.l : Int))).setCell ⟨w.heap.size, 1, none⟩ (.bool q.signed)).setCell ⟨w.heap.size, 2, none⟩ (.int .u64 (q.sig.index : Int))).setCell ⟨w.heap.size, 3, none⟩ (.slice wa q.sig.wots.length wc)).setCell ⟨w.heap.size, 4, none⟩ (.slice pa q.sig.path.length pc)).setCell ⟨w.heap.size + 1, 0, none⟩ (.int .i64 0)).setCell ⟨w.heap.size + 1, 1, none⟩ (.int .i64 (b : Int))).heap[w.heap.size]? = some (.cells #[.int .u64 (q.l : Int), .bool q.signed, .int .u64 (q.sig.index : Int), .slice wa q.sig.wots.length wc, .slice pa q.sig.path.length pc] 48 (0, 0)) ∧ ((((((((w6).setCell ⟨w.heap.size, 0, none⟩ (.int .u64 (q.l : Int))).setCell ⟨w.heap.size, 1, none⟩ (.bool q.signed)).setCell ⟨w.heap.size, 2, none⟩ (.int .u64 (q.sig.index : Int))).setCell ⟨w.heap.size, 3, none⟩ (.slice wa q.sig.wots.length wc)).setCell ⟨w.heap.size, 4, none⟩ (.slice pa q.sig.path.length pc)).setCell ⟨w.heap.size + 1, 0, none⟩ (.int .i64 0)).setCell ⟨w.heap.size + 1, 1, none⟩ (.int .i64 (b : Int))).heap[w.heap.size + 1]? = some (.cells #[.int .i64 0, .int .i64 (b : Int)] 38 (0, 0)) from by
      have hB := HO.out.1
      have hT : Only w.heap.size w6 ((((((w6).setCell ⟨w.heap.size, 0, none⟩ (.int .u64 (q.l : Int))).setCell ⟨w.heap.size, 1, none⟩ (.bool q.signed)).setCell ⟨w.heap.size, 2, none⟩ (.int .u64 (q.sig.index : Int))).setCell ⟨w.heap.size, 3, none⟩ (.slice wa q.sig.wots.length wc)).setCell ⟨w.heap.size, 4, none⟩ (.slice pa q.sig.path.length pc)) := ((((Only.set w.heap.size 0 (.int .u64 (q.l : Int)) _).trans (Only.set w.heap.size 1 (.bool q.signed) _)).trans (Only.set w.heap.size 2 (.int .u64 (q.sig.index : Int)) _)).trans (Only.set w.heap.size 3 (.slice wa q.sig.wots.length wc) _)).trans (Only.set w.heap.size 4 (.slice pa q.sig.path.length pc) _)
      have hF : Only (w.heap.size + 1) ((((((w6).setCell ⟨w.heap.size, 0, none⟩ (.int .u64 (q.l : Int))).setCell ⟨w.heap.size, 1, none⟩ (.bool q.signed)).setCell ⟨w.heap.size, 2, none⟩ (.int .u64 (q.sig.index : Int))).setCell ⟨w.heap.size, 3, none⟩ (.slice wa q.sig.wots.length wc)).setCell ⟨w.heap.size, 4, none⟩ (.slice pa q.sig.path.length pc)) ((((((((w6).setCell ⟨w.heap.size, 0, none⟩ (.int .u64 (q.l : Int))).setCell ⟨w.heap.size, 1, none⟩ (.bool q.signed)).setCell ⟨w.heap.size, 2, none⟩ (.int .u64 (q.sig.index : Int))).setCell ⟨w.heap.size, 3, none⟩ (.slice wa q.sig.wots.length wc)).setCell ⟨w.heap.size, 4, none⟩ (.slice pa q.sig.path.length pc)).setCell ⟨w.heap.size + 1, 0, none⟩ (.int .i64 0)).setCell ⟨w.heap.size + 1, 1, none⟩ (.int .i64 (b : Int))) := (Only.set (w.heap.size + 1) 0 (.int .i64 0) _).trans (Only.set (w.heap.size + 1) 1 (.int .i64 (b : Int)) _)
      have hxT := lit_set (k := 4) (.slice pa q.sig.path.length pc) (lit_set (k := 3) (.slice wa q.sig.wots.length wc) (lit_set (k := 2) (.int .u64 (q.sig.index : Int)) (lit_set (k := 1) (.bool q.signed) (lit_set (k := 0) (.int .u64 (q.l : Int)) (HO.out.2.1)))))
      have hfT := (hT.block (w.heap.size + 1) (lit_lt HO.out.2.2) (by omega)).trans HO.out.2.2
      have h2 := HLT.out.2.2
      exact ⟨(HLM.out.only hT (by omega)).only hF (by omega), hB.trans ((hT.below (Nat.le_refl _) hB.size).trans (hF.below (by omega) (Nat.le_trans hB.size hT.size))), (hF.block _ (lit_lt hxT) (by omega)).trans hxT, lit_set (k := 1) (.int .i64 (b : Int)) (lit_set (k := 0) (.int .i64 0) hfT)⟩)
    obtain ⟨w7, hw⟩ : ∃ w7, ((((((((w6).setCell ⟨w.heap.size, 0, none⟩ (.int .u64 (q.l : Int))).setCell ⟨w.heap.size, 1, none⟩ (.bool q.signed)).setCell ⟨w.heap.size, 2, none⟩ (.int .u64 (q.sig.index : Int))).setCell ⟨w.heap.size, 3, none⟩ (.slice wa q.sig.wots.length wc)).setCell ⟨w.heap.size, 4, none⟩ (.slice pa q.sig.path.length pc)).setCell ⟨w.heap.size + 1, 0, none⟩ (.int .i64 0)).setCell ⟨w.heap.size + 1, 1, none⟩ (.int .i64 (b : Int))).drew = w7 := ⟨_, rfl⟩
    rw [hw] at KEY ⊢
    clear hw
    obtain ⟨k0, k1, k2, k3⟩ := KEY
    have v0 := (lit_cell k2 0).trans rfl
    have v1 := (lit_cell k2 1).trans rfl
    have v2 := (lit_cell k2 2).trans rfl
    have v3 := (lit_cell k2 3).trans rfl
    have v4 := (lit_cell k2 4).trans rfl
    have u0 := (lit_cell k3 0).trans rfl
    have u1 := (lit_cell k3 1).trans rfl
    refine bodyPost_ret (v := .tuple #[.agg #[.int .u64 (q.l : Int), .bool q.signed, .int .u64 (q.sig.index : Int), .slice wa q.sig.wots.length wc, .slice pa q.sig.path.length pc], .agg #[.int .i64 0, .int .i64 (b : Int)]]) (by simp [results, Tryz.results22, go_sem, v0, v1, v2, v3, v4, u0, u1]) rfl ⟨q, wa, pa, wc, pc, (0, b), rfl, Lib.hid ⟨rd_good HWR.out _, k0.slotM wc pc⟩, k1⟩
  · have hcf : ((c : Int) == 0) = false := by rw [beq_eq_false_iff_ne]; omega
    have hcf2 : ((c : Int) != 0) = true := by rw [bne_iff_ne]; omega
    have HC0 := Lib.hid hc
    clear hc HGF HX HNE HPG HLP HP3
    go_upto_region 5 with fail
    go_region
    go_wp2
    clear x0 p0 y0 x1 p1 y1 x2 p2 y2 x3 p3 y3 x4 p4 y4 t0 t1 s0 s1 g0 g1 n1 n2 n3 n4 n5 n6 n7 n8
    have KEY := drew_facts2 (show SigL w2.heap.size S q.sig wa pa ((((((((w6).setCell ⟨w.heap.size, 0, none⟩ (.int .u64 0)).setCell ⟨w.heap.size, 1, none⟩ (.bool false)).setCell ⟨w.heap.size, 2, none⟩ (.int .u64 0)).setCell ⟨w.heap.size, 3, none⟩ (.slice none 0 0)).setCell ⟨w.heap.size, 4, none⟩ (.slice none 0 0)).setCell ⟨w.heap.size + 1, 0, none⟩ (.int .i64 (c : Int))).setCell ⟨w.heap.size + 1, 1, none⟩ (.int .i64 (b : Int))) ∧ Below w.heap.size w ((((((((w6).setCell ⟨w.heap.size, 0, none⟩ (.int .u64 0)).setCell ⟨w.heap.size, 1, none⟩ (.bool false)).setCell ⟨w.heap.size, 2, none⟩ (.int .u64 0)).setCell ⟨w.heap.size, 3, none⟩ (.slice none 0 0)).setCell ⟨w.heap.size, 4, none⟩ (.slice none 0 0)).setCell ⟨w.heap.size + 1, 0, none⟩ (.int .i64 (c : Int))).setCell ⟨w.heap.size + 1, 1, none⟩ (.int .i64 (b : Int))) ∧ ((((((((w6).setCell ⟨w.heap.size, 0, none⟩ (.int .u64 0)).setCell ⟨w.heap.size, 1, none⟩ (.bool false)).setCell ⟨w.heap.size, 2, none⟩ (.int .u64 0)).setCell ⟨w.heap.size, 3, none⟩ (.slice none 0 0)).setCell ⟨w.heap.size, 4, none⟩ (.slice none 0 0)).setCell ⟨w.heap.size + 1, 0, none⟩ (.int .i64 (c : Int))).setCell ⟨w.heap.size + 1, 1, none⟩ (.int .i64 (b : Int))).heap[w.heap.size]? = some (.cells #[.int .u64 0, .bool false, .int .u64 0, .slice none 0 0, .slice none 0 0] 48 (0, 0)) ∧ ((((((((w6).setCell ⟨w.heap.size, 0, none⟩ (.int .u64 0)).setCell ⟨w.heap.size, 1, none⟩ (.bool false)).setCell ⟨w.heap.size, 2, none⟩ (.int .u64 0)).setCell ⟨w.heap.size, 3, none⟩ (.slice none 0 0)).setCell ⟨w.heap.size, 4, none⟩ (.slice none 0 0)).setCell ⟨w.heap.size + 1, 0, none⟩ (.int .i64 (c : Int))).setCell ⟨w.heap.size + 1, 1, none⟩ (.int .i64 (b : Int))).heap[w.heap.size + 1]? = some (.cells #[.int .i64 (c : Int), .int .i64 (b : Int)] 38 (0, 0)) from by
      have hB := HO.out.1
      have hT : Only w.heap.size w6 ((((((w6).setCell ⟨w.heap.size, 0, none⟩ (.int .u64 0)).setCell ⟨w.heap.size, 1, none⟩ (.bool false)).setCell ⟨w.heap.size, 2, none⟩ (.int .u64 0)).setCell ⟨w.heap.size, 3, none⟩ (.slice none 0 0)).setCell ⟨w.heap.size, 4, none⟩ (.slice none 0 0)) := ((((Only.set w.heap.size 0 (.int .u64 0) _).trans (Only.set w.heap.size 1 (.bool false) _)).trans (Only.set w.heap.size 2 (.int .u64 0) _)).trans (Only.set w.heap.size 3 (.slice none 0 0) _)).trans (Only.set w.heap.size 4 (.slice none 0 0) _)
      have hF : Only (w.heap.size + 1) ((((((w6).setCell ⟨w.heap.size, 0, none⟩ (.int .u64 0)).setCell ⟨w.heap.size, 1, none⟩ (.bool false)).setCell ⟨w.heap.size, 2, none⟩ (.int .u64 0)).setCell ⟨w.heap.size, 3, none⟩ (.slice none 0 0)).setCell ⟨w.heap.size, 4, none⟩ (.slice none 0 0)) ((((((((w6).setCell ⟨w.heap.size, 0, none⟩ (.int .u64 0)).setCell ⟨w.heap.size, 1, none⟩ (.bool false)).setCell ⟨w.heap.size, 2, none⟩ (.int .u64 0)).setCell ⟨w.heap.size, 3, none⟩ (.slice none 0 0)).setCell ⟨w.heap.size, 4, none⟩ (.slice none 0 0)).setCell ⟨w.heap.size + 1, 0, none⟩ (.int .i64 (c : Int))).setCell ⟨w.heap.size + 1, 1, none⟩ (.int .i64 (b : Int))) := (Only.set (w.heap.size + 1) 0 (.int .i64 (c : Int)) _).trans (Only.set (w.heap.size + 1) 1 (.int .i64 (b : Int)) _)
      have hxT := lit_set (k := 4) (.slice none 0 0) (lit_set (k := 3) (.slice none 0 0) (lit_set (k := 2) (.int .u64 0) (lit_set (k := 1) (.bool false) (lit_set (k := 0) (.int .u64 0) (HO.out.2.1)))))
      have hfT := (hT.block (w.heap.size + 1) (lit_lt HO.out.2.2) (by omega)).trans HO.out.2.2
      have h2 := HLT.out.2.2
      exact ⟨(HLM.out.only hT (by omega)).only hF (by omega), hB.trans ((hT.below (Nat.le_refl _) hB.size).trans (hF.below (by omega) (Nat.le_trans hB.size hT.size))), (hF.block _ (lit_lt hxT) (by omega)).trans hxT, lit_set (k := 1) (.int .i64 (b : Int)) (lit_set (k := 0) (.int .i64 (c : Int)) hfT)⟩)
    obtain ⟨w7, hw⟩ : ∃ w7, ((((((((w6).setCell ⟨w.heap.size, 0, none⟩ (.int .u64 0)).setCell ⟨w.heap.size, 1, none⟩ (.bool false)).setCell ⟨w.heap.size, 2, none⟩ (.int .u64 0)).setCell ⟨w.heap.size, 3, none⟩ (.slice none 0 0)).setCell ⟨w.heap.size, 4, none⟩ (.slice none 0 0)).setCell ⟨w.heap.size + 1, 0, none⟩ (.int .i64 (c : Int))).setCell ⟨w.heap.size + 1, 1, none⟩ (.int .i64 (b : Int))).drew = w7 := ⟨_, rfl⟩
    rw [hw] at KEY ⊢
    clear hw
    obtain ⟨k0, k1, k2, k3⟩ := KEY
    have v0 := (lit_cell k2 0).trans rfl
    have v1 := (lit_cell k2 1).trans rfl
    have v2 := (lit_cell k2 2).trans rfl
    have v3 := (lit_cell k2 3).trans rfl
    have v4 := (lit_cell k2 4).trans rfl
    have u0 := (lit_cell k3 0).trans rfl
    have u1 := (lit_cell k3 1).trans rfl
    refine bodyPost_ret (v := .tuple #[.agg #[.int .u64 0, .bool false, .int .u64 0, .slice none 0 0, .slice none 0 0], .agg #[.int .i64 (c : Int), .int .i64 (b : Int)]]) (by simp [results, Tryz.results22, go_sem, v0, v1, v2, v3, v4, u0, u1]) rfl ⟨zSlot, none, none, 0, 0, (c, b), rfl, Lib.hid ⟨rd_bad HWR.out HC0.out, ⟨.inl rfl, .inl rfl⟩⟩, k1⟩
end Go.Proofs.YtgdhljbcclbfaaaGreatDoor
/- The law's slot, again: the lists that it cuts lie in new memory. -/
namespace Go.Proofs.YtgdhljbcclbfaaaGreatDoor
open Go.RowKit

set_option maxRecDepth 100000 in
set_option maxHeartbeats 1000000 in
theorem cutslot2_any (x : SlotE) (w : World) (hM : SlotM x w) (hwl : x.r.sig.wots.length ≤ maxLen) (hwe : ∀ i (h : i < x.r.sig.wots.length), x.r.sig.wots[i].length ≤ maxLen) (hpl : x.r.sig.path.length ≤ maxLen) (hpe : ∀ i (h : i < x.r.sig.path.length), x.r.sig.path[i].length ≤ maxLen) :
    Calls Tryz.prog 18 #[slotV x] w fun e w' => (∃ y : SlotE, y.r = slotTo x.r ∧ e = .returned (slotV y) ∧ Fresh w.heap.size y.wa y.r.sig.wots w' ∧ Fresh w.heap.size y.pa y.r.sig.path w') ∧ Below w.heap.size w w' := by
  obtain ⟨⟨l, sg, ⟨ix, ws, ps⟩⟩, wa, wc, pa, pc⟩ := x
  obtain ⟨hws, hps⟩ := hM
  simp only at hws hps hwl hwe hpl hpe
  have hb0 : Below w.heap.size w ((w.alloc (.cells #[.int .u64 (l : Int), .bool sg, .int .u64 (ix : Int), .slice wa ws.length wc, .slice pa ps.length pc] 48)).alloc (.cells #[.int .u64 0, .bool false, .int .u64 0, .slice none 0 0, .slice none 0 0] 48)) := (by0 w _).alloc (by simp) _
  have hz0 : ((w.alloc (.cells #[.int .u64 (l : Int), .bool sg, .int .u64 (ix : Int), .slice wa ws.length wc, .slice pa ps.length pc] 48)).alloc (.cells #[.int .u64 0, .bool false, .int .u64 0, .slice none 0 0, .slice none 0 0] 48)).heap.size = w.heap.size + 1 + 1 := by simp
  have hx0 : ((w.alloc (.cells #[.int .u64 (l : Int), .bool sg, .int .u64 (ix : Int), .slice wa ws.length wc, .slice pa ps.length pc] 48)).alloc (.cells #[.int .u64 0, .bool false, .int .u64 0, .slice none 0 0, .slice none 0 0] 48)).heap[w.heap.size]? = some (.cells #[.int .u64 (l : Int), .bool sg, .int .u64 (ix : Int), .slice wa ws.length wc, .slice pa ps.length pc] 48 (0, 0)) := lit_old _ (heap_alloc_new w _)
  have hr0 : ((w.alloc (.cells #[.int .u64 (l : Int), .bool sg, .int .u64 (ix : Int), .slice wa ws.length wc, .slice pa ps.length pc] 48)).alloc (.cells #[.int .u64 0, .bool false, .int .u64 0, .slice none 0 0, .slice none 0 0] 48)).heap[w.heap.size + 1]? = some (.cells #[.int .u64 0, .bool false, .int .u64 0, .slice none 0 0, .slice none 0 0] 48 (0, 0)) := by
    rw [show w.heap.size + 1 = (w.alloc (.cells #[.int .u64 (l : Int), .bool sg, .int .u64 (ix : Int), .slice wa ws.length wc, .slice pa ps.length pc] 48)).heap.size by simp]; exact heap_alloc_new _ _
  have HB := Lib.hid hb0
  have HZ := Lib.hid hz0
  have HX := Lib.hid hx0
  have HR := Lib.hid hr0
  have HT1 := Lib.hid (fun (wz : World) (h : Strs wa ws wz) => texts_any wa wc 70 ws wz (by decide) hwl hwe h)
  have HT2 := Lib.hid (fun (wz : World) (h : Strs pa ps wz) => texts_any pa pc 20 ps wz (by decide) hpl hpe h)
  have HWS := Lib.hid hws
  have HPS := Lib.hid hps
  clear hb0 hz0 hx0 hr0 hwl hwe hpl hpe hws hps
  go_enter Tryz.func18, Tryz.ntmps18
  go_upto_region 1 with fail
  change Code.wp _ _ _ _ ((w.alloc (.cells #[.int .u64 (l : Int), .bool sg, .int .u64 (ix : Int), .slice wa ws.length wc, .slice pa ps.length pc] 48)).alloc (.cells #[.int .u64 0, .bool false, .int .u64 0, .slice none 0 0, .slice none 0 0] 48))
  generalize (w.alloc (.cells #[.int .u64 (l : Int), .bool sg, .int .u64 (ix : Int), .slice wa ws.length wc, .slice pa ps.length pc] 48)).alloc (.cells #[.int .u64 0, .bool false, .int .u64 0, .slice none 0 0, .slice none 0 0] 48) = w1 at *
  have hz := HZ.out
  have p3 := (lit_cell HX.out 3).trans rfl
  go_upto_region 2 with (go_at_call 51; refine (HT1.out _ (HWS.out.below (Nat.le_refl _) HB.out)).mono ?_; rintro e w2 ⟨ao, cp, rfl, hS1, hb2⟩; have hX2 := (hb2.block w.heap.size (by omega)).trans HX.out; have q3 := (lit_cell hX2 3).trans rfl; have f3 := lit_free hX2 3)
  have hz2 := hb2.size
  have hb02 := HB.out.trans (hb2.mono (by omega))
  have hR2 := (hb2.block (w.heap.size + 1) (by omega)).trans HR.out
  have hx3 := lit_set (k := 3) (.slice ao (textsTo ws 70).length cp) hX2
  have ho3 := Only.set w.heap.size 3 (.slice ao (textsTo ws 70).length cp) w2
  have hb03 := hb02.trans (ho3.below (Nat.le_refl _) hb02.size)
  have hS3 := hS1.to (fun k hk hl => ho3.block k hl (by omega)) ho3.size
  have hR3 := (ho3.block (w.heap.size + 1) (by omega) (by omega)).trans hR2
  have hz3 : (w2.setCell ⟨w.heap.size, 3, none⟩ (.slice ao (textsTo ws 70).length cp)).heap.size = w2.heap.size := by simp
  generalize w2.setCell ⟨w.heap.size, 3, none⟩ (.slice ao (textsTo ws 70).length cp) = w3 at *
  have p4 := (lit_cell hx3 4).trans rfl
  clear hS1 ho3 hX2 hR2 q3 f3 p3
  go_upto_region 3 with (go_at_call 51; refine (HT2.out _ (HPS.out.below (Nat.le_refl _) hb03)).mono ?_; rintro e w4 ⟨bo, dp, rfl, hS2, hb4⟩; have hX4 := (hb4.block w.heap.size (by omega)).trans hx3; have q4 := (lit_cell hX4 4).trans rfl; have f4 := lit_free hX4 4)
  have hz4 := hb4.size
  have hb04 := hb03.trans (hb4.mono (by omega))
  have hS4 := hS3.to (fun k hk hl => hb4.block k (by omega)) hb4.size
  have hR4 := (hb4.block (w.heap.size + 1) (by omega)).trans hR3
  have hx5 := lit_set (k := 4) (.slice bo (textsTo ps 20).length dp) hX4
  have ho5 := Only.set w.heap.size 4 (.slice bo (textsTo ps 20).length dp) w4
  have hb05 := hb04.trans (ho5.below (Nat.le_refl _) hb04.size)
  have hS5 := hS4.to (fun k hk hl => ho5.block k hl (by omega)) ho5.size
  have hT5 := hS2.to (fun k hk hl => ho5.block k hl (by omega)) ho5.size
  have hR5 := (ho5.block (w.heap.size + 1) (by omega) (by omega)).trans hR4
  have hz5 : (w4.setCell ⟨w.heap.size, 4, none⟩ (.slice bo (textsTo ps 20).length dp)).heap.size = w4.heap.size := by simp
  generalize w4.setCell ⟨w.heap.size, 4, none⟩ (.slice bo (textsTo ps 20).length dp) = w5 at *
  have a0 := (lit_cell hx5 0).trans rfl; have a1 := (lit_cell hx5 1).trans rfl; have a2 := (lit_cell hx5 2).trans rfl; have a3 := (lit_cell hx5 3).trans rfl; have a4 := (lit_cell hx5 4).trans rfl
  have b0 := (lit_cell hR5 0).trans rfl; have b1 := (lit_cell hR5 1).trans rfl; have b2 := (lit_cell hR5 2).trans rfl; have b3 := (lit_cell hR5 3).trans rfl; have b4 := (lit_cell hR5 4).trans rfl
  have f0 := lit_free hR5 0; have f1 := lit_free hR5 1; have f2 := lit_free hR5 2; have f3 := lit_free hR5 3; have f4' := lit_free hR5 4
  clear hS2 hS3 hS4 hR3 hR4 hX4 q4 f4 p4 ho5 HT1 HT2
  go_wp2
  have hx7 := lit_set (k := 4) (.slice bo (textsTo ps 20).length dp) (lit_set (k := 3) (.slice ao (textsTo ws 70).length cp) (lit_set (k := 2) (.int .u64 (ix : Int)) (lit_set (k := 1) (.bool sg) (lit_set (k := 0) (.int .u64 (l : Int)) (hR5)))))
  have ho7 := ((((Only.set (w.heap.size + 1) 0 (.int .u64 (l : Int)) w5).trans (Only.set (w.heap.size + 1) 1 (.bool sg) _)).trans (Only.set (w.heap.size + 1) 2 (.int .u64 (ix : Int)) _)).trans (Only.set (w.heap.size + 1) 3 (.slice ao (textsTo ws 70).length cp) _)).trans (Only.set (w.heap.size + 1) 4 (.slice bo (textsTo ps 20).length dp) _)
  have hb07 := hb05.trans (ho7.below (by omega) hb05.size)
  have hS7 := (hS5.to (fun k hk hl => ho7.block k hl (by omega)) ho7.size).weak (lo2 := w.heap.size) (by omega)
  have hT7 := (hT5.to (fun k hk hl => ho7.block k hl (by omega)) ho7.size).weak (lo2 := w.heap.size) (by omega)
  generalize (((((w5).setCell ⟨w.heap.size + 1, 0, none⟩ (.int .u64 (l : Int))).setCell ⟨w.heap.size + 1, 1, none⟩ (.bool sg)).setCell ⟨w.heap.size + 1, 2, none⟩ (.int .u64 (ix : Int))).setCell ⟨w.heap.size + 1, 3, none⟩ (.slice ao (textsTo ws 70).length cp)).setCell ⟨w.heap.size + 1, 4, none⟩ (.slice bo (textsTo ps 20).length dp) = w7 at *
  have z0 := (lit_cell hx7 0).trans rfl; have z1 := (lit_cell hx7 1).trans rfl; have z2 := (lit_cell hx7 2).trans rfl; have z3 := (lit_cell hx7 3).trans rfl; have z4 := (lit_cell hx7 4).trans rfl
  refine bodyPost_ret (v := slotV ⟨slotTo ⟨l, sg, ⟨ix, ws, ps⟩⟩, ao, cp, bo, dp⟩) (by simp [results, Tryz.results18, go_sem, z0, z1, z2, z3, z4, slotTo]) rfl ⟨⟨_, rfl, rfl, hS7, hT7⟩, hb07⟩
end Go.Proofs.YtgdhljbcclbfaaaGreatDoor
