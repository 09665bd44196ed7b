/- The reference's cursor: a participant, a message, a light header. -/
import Derived.Test.YtlhmmplkdjibkaaGreatDoorJ19
import Derived.Test.YtlhmmplkdjibkaaGreatDoorJ14
namespace Go.Proofs.YtlhmmplkdjibkaaGreatDoor
open Go.RowKit

theorem part_rise : Rising partFs := by simp [Rising, partFs, numFld, digFld]
set_option maxRecDepth 100000 in
set_option maxHeartbeats 2000000 in
theorem cpart_any {cb rb : Nat} {S : (List UInt8)} {st : St} {w : World} (hS : S.length ≤ 1000000) (h : Curs cb rb S st w) :
    Calls Tryz.prog 125 #[.pointer (some ⟨cb, 0, none⟩)] w fun e w' => ∃ q : PartR, e = .returned (partV q) ∧ Hid (CGot cb rb S (runS S partC.get st) q w w') := by
  have HPR := Lib.hid (fun (st : St) (wz : World) (h : Curs cb rb S st wz) => cpairs_any hS h)
  have HK := Lib.hid (show ∀ (last : (List UInt8)) (st : St) (wz : World), Curs cb rb S st wz → Calls Tryz.prog 65 #[.pointer (some ⟨cb, 0, none⟩), .string ⟨#[102, 107, 108, 114, 119]⟩, .string ⟨last.toArray⟩] wz (fun e w' => ∃ t : (List UInt8), e = .returned (.string ⟨t.toArray⟩) ∧ Hid (CGot cb rb S (runS S (keyG (partFs.map (·.key)) last) st) t wz w')) from fun last st wz h => ckey_any [102, 107, 108, 114, 119] (by decide) last hS h)
  have HN := Lib.hid (fun (st : St) (wz : World) (h : Curs cb rb S st wz) => cnum_any hS h)
  have HD := Lib.hid (fun (st : St) (wz : World) (h : Curs cb rb S st wz) => cdigest_any hS h)
  have HF := Lib.hid (fun (st : St) (wz : World) (h : Curs cb rb S st wz) (b : Bool) => fail5 h b)
  have R := Lib.hid (Rd.start h 55 #[.string ⟨#[]⟩, .int .u64 0, .int .u64 0, .int .u64 0, .int .u64 0])
  obtain ⟨tot, hT⟩ : ∃ tot, allS S partFs zPart st = tot := ⟨_, rfl⟩
  have HE := Lib.hid (show ∀ q, Got tot q → _ from hT ▸ map_run S partFs zPart (fun p => !p.root.isEmpty) st)
  have HTOT := Lib.hid hT
  clear h hS hT
  go_enter Tryz.func125, Tryz.ntmps125
  go_upto_region 2 with fail
  change Code.wp _ _ _ _ ((w.alloc (.cells #[.string ⟨#[]⟩, .int .u64 0, .int .u64 0, .int .u64 0, .int .u64 0] 55)).alloc (.cells #[.string ⟨#[]⟩, .int .u64 0, .int .u64 0, .int .u64 0, .int .u64 0] 55))
  generalize (w.alloc (.cells #[.string ⟨#[]⟩, .int .u64 0, .int .u64 0, .int .u64 0, .int .u64 0] 55)).alloc (.cells #[.string ⟨#[]⟩, .int .u64 0, .int .u64 0, .int .u64 0, .int .u64 0] 55) = w1 at *
  go_wp2_with fail
  refine (HPR.out _ _ R.out.c).mono ?_
  rintro e w2 ⟨n, rfl, hn, HQ⟩
  have PI := Lib.hid (HTOT.out ▸ PInv.start S partFs zPart st n HQ.out.g)
  have R := Lib.hid (R.out.call HQ.out.o HQ.out.c)
  have HNN := Lib.hid hn
  clear hn HQ HPR HTOT
  generalize endS (runS S sizeG st) = st1 at *
  go_wp2_with fail
  go_loopw [5, 6] (fun l i wr => ∃ (k : Nat) (last : (List UInt8)) (q : PartR) (st2 : St), k ≤ n ∧ l = .string ⟨last.toArray⟩ ∧ i = .int .u64 (k : Int) ∧ Hid (Rd w cb rb S st2 55 #[.string ⟨#[]⟩, .int .u64 0, .int .u64 0, .int .u64 0, .int .u64 0] #[.string ⟨q.root.toArray⟩, .int .u64 (q.weight : Int), .int .u64 (q.first : Int), .int .u64 (q.life : Int), .int .u64 (q.keys : Int)] wr) ∧ Hid (PInv S partFs tot (n - k) q last st2))
    (fun _ i _ => n - (intOf i).toNat)
  case atStart => exact ⟨0, [], zPart, st1, Nat.zero_le _, rfl, rfl, R, PI⟩
  case round =>
    obtain ⟨k, last, q, st2, hk, rfl, rfl, R, PI⟩ := hrel
    have HB := Lib.hid (bad_any R.out.c)
    by_cases hlt : k < n
    · have kd : decide ((k : Int) < (n : Int)) = true := decide_eq_true (by omega)
      have k3 : (k : Int) ≤ 65536 := by have := HNN.out; omega
      have k4 : (0 : Int) ≤ (k : Int) := by omega
      have HLT := Lib.hid hlt
      clear hlt hk
      cases st2 with
      | error f =>
        have PD := Lib.hid (PI.out.done (.inr rfl))
        simp only [badS] at HB
        clear PI HN HD HK
        have z0 := (lit_cell R.out.p 0).trans rfl
        go_wp2_with (go_at_call 64; refine HB.out.mono ?_; rintro e w4 ⟨rfl, rfl⟩)
        refine (HF.out _ _ R.out.c _).mono ?_
        rintro e w5 ⟨rfl, hc, ho⟩
        have hc2 : Curs cb rb S (failS (q.root.isEmpty) 5 (.error f)) w5 := by first | (simpa using hc) | (simpa [id] using hc) | (simp [id] at hc ⊢; exact hc)
        obtain ⟨g1, g2⟩ := HE.out q PD.out.2
        simp only [Bool.not_not, PD.out.1] at g1
        first | rw [g1] at hc2 | rw [← Bool.or_assoc, g1] at hc2
        have R5 := Lib.hid (R.out.call (Duo.only ho) hc2)
        have G2 := Lib.hid g2
        clear hc hc2 ho g1 g2 R HE PD z0
        have y0 := (lit_cell R5.out.p 0).trans rfl
        have y1 := (lit_cell R5.out.p 1).trans rfl
        have y2 := (lit_cell R5.out.p 2).trans rfl
        have y3 := (lit_cell R5.out.p 3).trans rfl
        have y4 := (lit_cell R5.out.p 4).trans rfl
        have x0 := (lit_cell R5.out.r 0).trans rfl; have f0 := lit_free R5.out.r 0
        have x1 := (lit_cell R5.out.r 1).trans rfl; have f1 := lit_free R5.out.r 1
        have x2 := (lit_cell R5.out.r 2).trans rfl; have f2 := lit_free R5.out.r 2
        have x3 := (lit_cell R5.out.r 3).trans rfl; have f3 := lit_free R5.out.r 3
        have x4 := (lit_cell R5.out.r 4).trans rfl; have f4 := lit_free R5.out.r 4
        go_wp2
        have hx7 := lit_set (k := 4) (.int .u64 (q.keys : Int)) (lit_set (k := 3) (.int .u64 (q.life : Int)) (lit_set (k := 2) (.int .u64 (q.first : Int)) (lit_set (k := 1) (.int .u64 (q.weight : Int)) (lit_set (k := 0) (.string ⟨q.root.toArray⟩) (R5.out.r)))))
        have ho7 := ((((Only.set w.heap.size 0 (.string ⟨q.root.toArray⟩) w5).trans (Only.set w.heap.size 1 (.int .u64 (q.weight : Int)) _)).trans (Only.set w.heap.size 2 (.int .u64 (q.first : Int)) _)).trans (Only.set w.heap.size 3 (.int .u64 (q.life : Int)) _)).trans (Only.set w.heap.size 4 (.int .u64 (q.keys : Int)) _)
        obtain ⟨hC, hO⟩ := R5.out.fin ho7
        clear ho7
        generalize (((((w5).setCell ⟨w.heap.size, 0, none⟩ (.string ⟨q.root.toArray⟩)).setCell ⟨w.heap.size, 1, none⟩ (.int .u64 (q.weight : Int))).setCell ⟨w.heap.size, 2, none⟩ (.int .u64 (q.first : Int))).setCell ⟨w.heap.size, 3, none⟩ (.int .u64 (q.life : Int))).setCell ⟨w.heap.size, 4, none⟩ (.int .u64 (q.keys : Int)) = w7 at *
        have v0 := (lit_cell hx7 0).trans rfl
        have v1 := (lit_cell hx7 1).trans rfl
        have v2 := (lit_cell hx7 2).trans rfl
        have v3 := (lit_cell hx7 3).trans rfl
        have v4 := (lit_cell hx7 4).trans rfl
        refine bodyPost_ret (v := partV q) (by simp [results, Tryz.results125, go_sem, v0, v1, v2, v3, v4]) rfl ⟨q, rfl, Lib.hid ⟨G2.out, hC, hO⟩⟩
      | ok a =>
        simp only [badS] at HB
        rw [show n - k = (n - (k + 1)) + 1 by have := HLT.out; omega] at PI
        go_upto_region 7 with (go_at_call 64; refine HB.out.mono ?_; rintro e w4 ⟨rfl, rfl⟩)
        go_wp2_with fail
        refine (HK.out _ _ _ R.out.c).mono ?_
        rintro e w3 ⟨t, rfl, HQ⟩
        have KI := Lib.hid (PI.out.key part_rise t HQ.out.g)
        have R3 := Lib.hid (R.out.call HQ.out.o HQ.out.c)
        generalize endS (runS S (keyG (partFs.map (·.key)) last) (.ok a)) = st3 at *
        clear HQ R PI HB HK HF HE
        by_cases e0 : t = [102]
        ·
          subst e0
          go_wp2_with fail
          refine (HN.out _ _ R3.out.c).mono ?_
          rintro e w4 ⟨x, rfl, hx, HX⟩
          have R4 := Lib.hid (R3.out.call HX.out.o HX.out.c)
          have z := (lit_cell R4.out.p 2).trans rfl
          have f := lit_free R4.out.p 2
          clear hx R3
          go_wp2
          go_roundw
          case rel => exact ⟨k + 1, [102], { q with first := x }, _, HLT.out, rfl, by go_num, Lib.hid (R4.out.set 2 (.int .u64 (x : Int))), Lib.hid (KI.out.arm (numFld 102 (fun p : PartR => p.first) (fun (p : PartR) v => { p with first := v })) part_rise (by simp [partFs]) x HX.out.g)⟩
          case measure => have := HLT.out; simp [intOf] <;> omega
        · skip
          by_cases e1 : t = [107]
          ·
            subst e1
            go_wp2_with fail
            refine (HN.out _ _ R3.out.c).mono ?_
            rintro e w4 ⟨x, rfl, hx, HX⟩
            have R4 := Lib.hid (R3.out.call HX.out.o HX.out.c)
            have z := (lit_cell R4.out.p 4).trans rfl
            have f := lit_free R4.out.p 4
            clear hx R3
            go_wp2
            go_roundw
            case rel => exact ⟨k + 1, [107], { q with keys := x }, _, HLT.out, rfl, by go_num, Lib.hid (R4.out.set 4 (.int .u64 (x : Int))), Lib.hid (KI.out.arm (numFld 107 (fun p : PartR => p.keys) (fun (p : PartR) v => { p with keys := v })) part_rise (by simp [partFs]) x HX.out.g)⟩
            case measure => have := HLT.out; simp [intOf] <;> omega
          · skip
            by_cases e2 : t = [108]
            ·
              subst e2
              go_wp2_with fail
              refine (HN.out _ _ R3.out.c).mono ?_
              rintro e w4 ⟨x, rfl, hx, HX⟩
              have R4 := Lib.hid (R3.out.call HX.out.o HX.out.c)
              have z := (lit_cell R4.out.p 3).trans rfl
              have f := lit_free R4.out.p 3
              clear hx R3
              go_wp2
              go_roundw
              case rel => exact ⟨k + 1, [108], { q with life := x }, _, HLT.out, rfl, by go_num, Lib.hid (R4.out.set 3 (.int .u64 (x : Int))), Lib.hid (KI.out.arm (numFld 108 (fun p : PartR => p.life) (fun (p : PartR) v => { p with life := v })) part_rise (by simp [partFs]) x HX.out.g)⟩
              case measure => have := HLT.out; simp [intOf] <;> omega
            · skip
              by_cases e3 : t = [114]
              ·
                subst e3
                go_wp2_with fail
                refine (HD.out _ _ R3.out.c).mono ?_
                rintro e w4 ⟨x, rfl, hx, HX⟩
                have R4 := Lib.hid (R3.out.call HX.out.o HX.out.c)
                have z := (lit_cell R4.out.p 0).trans rfl
                have f := lit_free R4.out.p 0
                clear hx R3
                go_wp2
                go_roundw
                case rel => exact ⟨k + 1, [114], { q with root := x }, _, HLT.out, rfl, by go_num, Lib.hid (R4.out.set 0 (.string ⟨x.toArray⟩)), Lib.hid (KI.out.arm (digFld 114 (fun p : PartR => p.root) (fun (p : PartR) v => { p with root := v })) part_rise (by simp [partFs]) x HX.out.g)⟩
                case measure => have := HLT.out; simp [intOf] <;> omega
              · skip
                by_cases e4 : t = [119]
                ·
                  subst e4
                  go_wp2_with fail
                  refine (HN.out _ _ R3.out.c).mono ?_
                  rintro e w4 ⟨x, rfl, hx, HX⟩
                  have R4 := Lib.hid (R3.out.call HX.out.o HX.out.c)
                  have z := (lit_cell R4.out.p 1).trans rfl
                  have f := lit_free R4.out.p 1
                  clear hx R3
                  go_wp2
                  go_roundw
                  case rel => exact ⟨k + 1, [119], { q with weight := x }, _, HLT.out, rfl, by go_num, Lib.hid (R4.out.set 1 (.int .u64 (x : Int))), Lib.hid (KI.out.arm (numFld 119 (fun p : PartR => p.weight) (fun (p : PartR) v => { p with weight := v })) part_rise (by simp [partFs]) x HX.out.g)⟩
                  case measure => have := HLT.out; simp [intOf] <;> omega
                · skip
                  have f0 : (t == [102]) = false := by simpa using e0
                  have f1 : (t == [107]) = false := by simpa using e1
                  have f2 : (t == [108]) = false := by simpa using e2
                  have f3 : (t == [114]) = false := by simpa using e3
                  have f4 : (t == [119]) = false := by simpa using e4
                  have KN := Lib.hid (KI.out.none (t := t) (by simp only [partFs, List.mem_cons, List.not_mem_nil, or_false, forall_eq_or_imp, forall_eq, numFld, digFld]; exact ⟨fun h => e0 h.symm, fun h => e1 h.symm, fun h => e2 h.symm, fun h => e3 h.symm, fun h => e4 h.symm⟩) (n - (k + 1)) q t)
                  clear e0 e1 e2 e3 e4 KI HN HD
                  go_wp2
                  go_roundw
                  case rel => exact ⟨k + 1, t, q, st3, HLT.out, rfl, by go_num, R3, KN⟩
                  case measure => have := HLT.out; simp [intOf] <;> omega
    · have k1 : ¬ (k : Int) < (n : Int) := by omega
      obtain rfl : k = n := by omega
      have PD := Lib.hid (PI.out.done (.inl (Nat.sub_self _)))
      clear PI HN HD HK hlt hk
      have z0 := (lit_cell R.out.p 0).trans rfl
      go_wp2_with (go_at_call 64; refine HB.out.mono ?_; rintro e w4 ⟨rfl, rfl⟩)
      refine (HF.out _ _ R.out.c _).mono ?_
      rintro e w5 ⟨rfl, hc, ho⟩
      have hc2 : Curs cb rb S (failS (q.root.isEmpty) 5 st2) w5 := by first | (simpa using hc) | (simpa [id] using hc) | (simp [id] at hc ⊢; exact hc)
      obtain ⟨g1, g2⟩ := HE.out q PD.out.2
      simp only [Bool.not_not, PD.out.1] at g1
      first | rw [g1] at hc2 | rw [← Bool.or_assoc, g1] at hc2
      have R5 := Lib.hid (R.out.call (Duo.only ho) hc2)
      have G2 := Lib.hid g2
      clear hc hc2 ho g1 g2 R HE PD z0
      have y0 := (lit_cell R5.out.p 0).trans rfl
      have y1 := (lit_cell R5.out.p 1).trans rfl
      have y2 := (lit_cell R5.out.p 2).trans rfl
      have y3 := (lit_cell R5.out.p 3).trans rfl
      have y4 := (lit_cell R5.out.p 4).trans rfl
      have x0 := (lit_cell R5.out.r 0).trans rfl; have f0 := lit_free R5.out.r 0
      have x1 := (lit_cell R5.out.r 1).trans rfl; have f1 := lit_free R5.out.r 1
      have x2 := (lit_cell R5.out.r 2).trans rfl; have f2 := lit_free R5.out.r 2
      have x3 := (lit_cell R5.out.r 3).trans rfl; have f3 := lit_free R5.out.r 3
      have x4 := (lit_cell R5.out.r 4).trans rfl; have f4 := lit_free R5.out.r 4
      go_wp2
      have hx7 := lit_set (k := 4) (.int .u64 (q.keys : Int)) (lit_set (k := 3) (.int .u64 (q.life : Int)) (lit_set (k := 2) (.int .u64 (q.first : Int)) (lit_set (k := 1) (.int .u64 (q.weight : Int)) (lit_set (k := 0) (.string ⟨q.root.toArray⟩) (R5.out.r)))))
      have ho7 := ((((Only.set w.heap.size 0 (.string ⟨q.root.toArray⟩) w5).trans (Only.set w.heap.size 1 (.int .u64 (q.weight : Int)) _)).trans (Only.set w.heap.size 2 (.int .u64 (q.first : Int)) _)).trans (Only.set w.heap.size 3 (.int .u64 (q.life : Int)) _)).trans (Only.set w.heap.size 4 (.int .u64 (q.keys : Int)) _)
      obtain ⟨hC, hO⟩ := R5.out.fin ho7
      clear ho7
      generalize (((((w5).setCell ⟨w.heap.size, 0, none⟩ (.string ⟨q.root.toArray⟩)).setCell ⟨w.heap.size, 1, none⟩ (.int .u64 (q.weight : Int))).setCell ⟨w.heap.size, 2, none⟩ (.int .u64 (q.first : Int))).setCell ⟨w.heap.size, 3, none⟩ (.int .u64 (q.life : Int))).setCell ⟨w.heap.size, 4, none⟩ (.int .u64 (q.keys : Int)) = w7 at *
      have v0 := (lit_cell hx7 0).trans rfl
      have v1 := (lit_cell hx7 1).trans rfl
      have v2 := (lit_cell hx7 2).trans rfl
      have v3 := (lit_cell hx7 3).trans rfl
      have v4 := (lit_cell hx7 4).trans rfl
      refine bodyPost_ret (v := partV q) (by simp [results, Tryz.results125, go_sem, v0, v1, v2, v3, v4]) rfl ⟨q, rfl, Lib.hid ⟨G2.out, hC, hO⟩⟩
end Go.Proofs.YtlhmmplkdjibkaaGreatDoor
