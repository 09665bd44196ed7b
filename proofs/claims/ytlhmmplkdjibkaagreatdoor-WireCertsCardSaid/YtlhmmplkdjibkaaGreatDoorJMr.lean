/- The reference's cursor: a certificate. -/
import Derived.Test.YtlhmmplkdjibkaaGreatDoorJMr0
import Derived.Deep.RegionLaw
import Derived.Deep.AppendLies
namespace Go.Proofs.YtlhmmplkdjibkaaGreatDoor
open Go.RowKit

theorem cert_rise : Rising certFs := by simp [Rising, certFs, numFld, digFld, listFld]
theorem Ahead.low {last t : (List UInt8)} {st st2 : St} {c c2 : CertE} {k : UInt8} (h : badS st = true ∨ (Op.bytesLess last t = true ∧ (Op.bytesLess last [112] = true → c.coins = []) ∧ (Op.bytesLess last [114] = true → c.rl = []))) (ht : t = [k]) (hk : k < 112) (hs : badS st = true → badS st2 = true) (e1 : c2.coins = c.coins) (e2 : c2.rl = c.rl) : Ahead t st2 c2 := by
  rcases h with h | ⟨h0, h1, h2⟩
  · exact .inl (hs h)
  · subst ht
    refine .inr ⟨fun _ => e1.trans (h1 (less_mono h0 hk)), fun _ => e2.trans (h2 (less_mono h0 ?_))⟩
    rw [UInt8.lt_iff_toNat_lt] at *
    have : (112 : UInt8).toNat = 112 := rfl
    have : (114 : UInt8).toNat = 114 := rfl
    omega
set_option maxRecDepth 100000 in
set_option maxHeartbeats 8000000 in
theorem ccert_any {cb rb : Nat} {S : (List UInt8)} {st : St} {w : World} (hS : S.length ≤ 60000) (h : Curs cb rb S st w) :
    Calls Tryz.prog 30 #[.pointer (some ⟨cb, 0, none⟩)] w fun e w' => ∃ c : CertE, e = .returned (certV c) ∧ Hid (CertW w.heap.size c w') ∧ Hid (CGot cb rb S (runS S certC.get st) c.r w w') := by
  have hS6 : S.length ≤ 1000000 := by omega
  have HPR := Lib.hid (fun (st : St) (wz : World) (h : Curs cb rb S st wz) => cpairs_any hS6 h)
  have HK := Lib.hid (show ∀ (last : (List UInt8)) (st : St) (wz : World), Curs cb rb S st wz → Calls Tryz.prog 65 #[.pointer (some ⟨cb, 0, none⟩), .string ⟨#[80, 83, 99, 112, 114, 119]⟩, .string ⟨last.toArray⟩] wz (fun e w' => ∃ t : (List UInt8), e = .returned (.string ⟨t.toArray⟩) ∧ Hid (CGot cb rb S (runS S (keyG (certFs.map (·.key)) last) st) t wz w')) from fun last st wz h => ckey_any [80, 83, 99, 112, 114, 119] (by decide) last hS6 h)
  have HN := Lib.hid (fun (st : St) (wz : World) (h : Curs cb rb S st wz) => cnum_any hS6 h)
  have HDG := Lib.hid (fun (st : St) (wz : World) (h : Curs cb rb S st wz) => cdigest_any hS6 h)
  have HDS := Lib.hid (show ∀ (st : St) (wz : World), Curs cb rb S st wz → Calls Tryz.prog 66 #[.pointer (some ⟨cb, 0, none⟩), .int .u64 10240] wz _ from fun (st : St) (wz : World) (h : Curs cb rb S st wz) => cdigests_any 10240 (by decide) hS6 h)
  have HLS := Lib.hid (show ∀ (st : St) (wz : World), Curs cb rb S st wz → Calls Tryz.prog 68 #[.pointer (some ⟨cb, 0, none⟩), .int .u64 640] wz _ from fun (st : St) (wz : World) (h : Curs cb rb S st wz) => clist_any 640 hS6 h)
  have HTK := Lib.hid (show ∀ (st : St) (wz : World), Curs cb rb S st wz → Calls Tryz.prog 69 #[.pointer (some ⟨cb, 0, none⟩), .int .i64 0] wz _ from fun st wz h => take_any 0 (by decide) hS6 h)
  have HRV := Lib.hid (fun (st : St) (wz : World) (h : Curs cb rb S st wz) => creveal_any hS h)
  have HF := Lib.hid (fun (st : St) (wz : World) (h : Curs cb rb S st wz) (b : Bool) => fail5 h b)
  have R := Lib.hid (show Ct w cb rb S st zC ((w.alloc (.cells #[.string ⟨#[]⟩, .int .u64 0, .slice none 0 0, .slice none 0 0, .slice none 0 0, .slice none 0 0] 27)).alloc (.cells #[.string ⟨#[]⟩, .int .u64 0, .slice none 0 0, .slice none 0 0, .slice none 0 0, .slice none 0 0] 27)) from ⟨Rd.start h 27 #[.string ⟨#[]⟩, .int .u64 0, .slice none 0 0, .slice none 0 0, .slice none 0 0, .slice none 0 0], CertW.zero _ _⟩)
  obtain ⟨tot, hT⟩ : ∃ tot, allS S certFs zCert st = tot := ⟨_, rfl⟩
  have HE := Lib.hid (show ∀ q, Got tot q → _ from hT ▸ map_run S certFs zCert (fun p => !p.root.isEmpty) st)
  have HTOT := Lib.hid hT
  clear h hS hS6 hT
  go_enter Tryz.func30, Tryz.ntmps30
  go_upto_region 2 with fail
  change Code.wp _ _ _ _ ((w.alloc (.cells #[.string ⟨#[]⟩, .int .u64 0, .slice none 0 0, .slice none 0 0, .slice none 0 0, .slice none 0 0] 27)).alloc (.cells #[.string ⟨#[]⟩, .int .u64 0, .slice none 0 0, .slice none 0 0, .slice none 0 0, .slice none 0 0] 27))
  generalize (w.alloc (.cells #[.string ⟨#[]⟩, .int .u64 0, .slice none 0 0, .slice none 0 0, .slice none 0 0, .slice none 0 0] 27)).alloc (.cells #[.string ⟨#[]⟩, .int .u64 0, .slice none 0 0, .slice none 0 0, .slice none 0 0, .slice none 0 0] 27) = w1 at *
  go_wp2_with fail
  refine (HPR.out _ _ R.out.r.c).mono ?_
  rintro e w2 ⟨n, rfl, hn, HQ⟩
  have PI := Lib.hid (HTOT.out ▸ PInv.start S certFs zCert st n HQ.out.g)
  have R := Lib.hid (R.out.call HQ.out.o HQ.out.c)
  have HNN := Lib.hid hn
  clear hn HQ HPR HTOT
  generalize endS (runS S sizeG st) = st1 at *
  go_wp2_with fail
  go_loopw [5, 6, 7, 8, 9, 10, 11, 12] (fun l i _ _ _ _ _ _ wr => ∃ (k : Nat) (last : (List UInt8)) (c : CertE) (st2 : St), k ≤ n ∧ l = .string ⟨last.toArray⟩ ∧ i = .int .u64 (k : Int) ∧ Hid (Ct w cb rb S st2 c wr) ∧ Hid (PInv S certFs tot (n - k) c.r last st2) ∧ Hid (Ahead last st2 c))
    (fun _ i _ _ _ _ _ _ _ => n - (intOf i).toNat)
  case atStart => exact ⟨0, [], zC, st1, Nat.zero_le _, rfl, rfl, R, PI, Lib.hid (.inr ⟨fun _ => rfl, fun _ => rfl⟩)⟩
  case round =>
    obtain ⟨k, last, c, st2, hk, rfl, rfl, R, PI, HAH⟩ := hrel
    have HB := Lib.hid (bad_any R.out.r.c)
    by_cases hlt : k < n
    · have kd : decide ((k : Int) < (n : Int)) = true := decide_eq_true (by omega)
      have k3 : (k : Int) ≤ 65536 := by have := HNN.out; omega
      have k4 : (0 : Int) ≤ (k : Int) := by omega
      have HLT := Lib.hid hlt
      clear hlt hk
      cases st2 with
      | error f =>
        have PD := Lib.hid (PI.out.done (.inr rfl))
        simp only [badS] at HB
        clear PI HN HDG HDS HLS HTK HRV HK HAH
        have z0 := (lit_cell R.out.r.p 0).trans rfl
        go_wp2_with (go_at_call 64; refine HB.out.mono ?_; rintro e w4 ⟨rfl, rfl⟩)
        refine (HF.out _ _ R.out.r.c _).mono ?_
        rintro e w5 ⟨rfl, hc, ho⟩
        have hc2 : Curs cb rb S (failS (c.root.isEmpty) 5 (.error f)) w5 := by first | (simpa using hc) | (simp at hc ⊢; exact hc)
        obtain ⟨g1, g2⟩ := HE.out c.r PD.out.2
        simp only [Bool.not_not, PD.out.1] at g1
        rw [show c.r.root.isEmpty = c.root.isEmpty from rfl] at g1
        rw [g1] at hc2
        have R5 := Lib.hid (R.out.call (Duo.only ho) hc2)
        have G2 := Lib.hid g2
        clear hc hc2 ho g1 g2 R HE PD z0
        have y0 := (lit_cell R5.out.r.p 0).trans rfl; have x0 := (lit_cell R5.out.r.r 0).trans rfl; have f0 := lit_free R5.out.r.r 0
        have y1 := (lit_cell R5.out.r.p 1).trans rfl; have x1 := (lit_cell R5.out.r.r 1).trans rfl; have f1 := lit_free R5.out.r.r 1
        have y2 := (lit_cell R5.out.r.p 2).trans rfl; have x2 := (lit_cell R5.out.r.r 2).trans rfl; have f2 := lit_free R5.out.r.r 2
        have y3 := (lit_cell R5.out.r.p 3).trans rfl; have x3 := (lit_cell R5.out.r.r 3).trans rfl; have f3 := lit_free R5.out.r.r 3
        have y4 := (lit_cell R5.out.r.p 4).trans rfl; have x4 := (lit_cell R5.out.r.r 4).trans rfl; have f4 := lit_free R5.out.r.r 4
        have y5 := (lit_cell R5.out.r.p 5).trans rfl; have x5 := (lit_cell R5.out.r.r 5).trans rfl; have f5 := lit_free R5.out.r.r 5
        go_wp2
        have hx7 := lit_set (k := 5) (.slice c.pa c.pp.length c.pc) (lit_set (k := 4) (.slice c.sa c.sp.length c.sc) (lit_set (k := 3) (.slice c.ca c.coins.length c.cc) (lit_set (k := 2) (.slice c.ra c.rl.length c.rc) (lit_set (k := 1) (.int .u64 (c.signed : Int)) (lit_set (k := 0) (.string ⟨c.root.toArray⟩) (R5.out.r.r))))))
        have ho7 := (((((Only.set (w.heap.size) 0 (.string ⟨c.root.toArray⟩) w5).trans (Only.set (w.heap.size) 1 (.int .u64 (c.signed : Int)) _)).trans (Only.set (w.heap.size) 2 (.slice c.ra c.rl.length c.rc) _)).trans (Only.set (w.heap.size) 3 (.slice c.ca c.coins.length c.cc) _)).trans (Only.set (w.heap.size) 4 (.slice c.sa c.sp.length c.sc) _)).trans (Only.set (w.heap.size) 5 (.slice c.pa c.pp.length c.pc) _)
        obtain ⟨hC, hO⟩ := R5.out.r.fin ho7
        have hL := (R5.out.m.keep (fun k hk hl => ho7.block k hl (by omega)) ho7.size).weak (lo2 := w.heap.size) (by omega)
        clear ho7
        generalize ((((((w5).setCell ⟨w.heap.size, 0, none⟩ (.string ⟨c.root.toArray⟩)).setCell ⟨w.heap.size, 1, none⟩ (.int .u64 (c.signed : Int))).setCell ⟨w.heap.size, 2, none⟩ (.slice c.ra c.rl.length c.rc)).setCell ⟨w.heap.size, 3, none⟩ (.slice c.ca c.coins.length c.cc)).setCell ⟨w.heap.size, 4, none⟩ (.slice c.sa c.sp.length c.sc)).setCell ⟨w.heap.size, 5, none⟩ (.slice c.pa c.pp.length c.pc) = w7 at *
        have v0 := (lit_cell hx7 0).trans rfl
        have v1 := (lit_cell hx7 1).trans rfl
        have v2 := (lit_cell hx7 2).trans rfl
        have v3 := (lit_cell hx7 3).trans rfl
        have v4 := (lit_cell hx7 4).trans rfl
        have v5 := (lit_cell hx7 5).trans rfl
        refine bodyPost_ret (v := certV c) (by simp [results, Tryz.results30, go_sem, v0, v1, v2, v3, v4, v5]) rfl ⟨c, rfl, Lib.hid hL, Lib.hid ⟨G2.out, hC, hO⟩⟩
      | ok a =>
        simp only [badS] at HB
        rw [show n - k = (n - (k + 1)) + 1 by have := HLT.out; omega] at PI
        go_upto_region 7 with (go_at_call 64; refine HB.out.mono ?_; rintro e w4 ⟨rfl, rfl⟩)
        go_wp2_with fail
        refine (HK.out _ _ _ R.out.r.c).mono ?_
        rintro e w3 ⟨t, rfl, HQ⟩
        have KI := Lib.hid (PI.out.key cert_rise t HQ.out.g)
        have R3 := Lib.hid (R.out.call HQ.out.o HQ.out.c)
        have HKL := Lib.hid (show badS (endS (runS S (keyG (certFs.map (·.key)) last) (.ok a))) = true ∨ (Op.bytesLess last t = true ∧ (Op.bytesLess last [112] = true → c.coins = []) ∧ (Op.bytesLess last [114] = true → c.rl = [])) from by
          rcases HAH.out with h | h
          · cases h
          · exact (key_less HQ.out.g).imp id fun h0 => ⟨h0, h⟩)
        generalize endS (runS S (keyG (certFs.map (·.key)) last) (.ok a)) = st3 at *
        clear HQ R PI HB HK HE HAH
        have HZ := Lib.hid (show w.heap.size + 2 ≤ w3.heap.size by have := lit_lt R3.out.r.p; omega)
        by_cases e0 : t = [80]
        · subst e0
          go_wp2_with fail
          refine (HDS.out _ _ R3.out.r.c).mono ?_
          rintro e w4 ⟨ao, cp, L, rfl, HL, HX⟩
          have R4 := Lib.hid (R3.out.call HX.out.o HX.out.c)
          have z := (lit_cell R4.out.r.p 5).trans rfl
          have f := lit_free R4.out.r.p 5
          clear R3 HN HDG HLS HTK HRV HF
          go_wp2
          go_roundw
          case rel => exact ⟨k + 1, [80], { c with pp := L, pa := ao, pc := cp }, _, HLT.out, rfl, by go_num, Lib.hid (R4.out.pp ao cp L (HL.out.2.2.weak HZ.out)), Lib.hid (KI.out.arm (listFld 80 10240 (by decide) digC (fun p : CertR => p.partProof) (fun (p : CertR) v => { p with partProof := v })) cert_rise (by simp [certFs]) L HX.out.g), Lib.hid (Ahead.low HKL.out rfl (by decide) bad_end rfl rfl)⟩
          case measure => have := HLT.out; simp [intOf] <;> omega
        · skip
          by_cases e1 : t = [83]
          · subst e1
            go_wp2_with fail
            refine (HDS.out _ _ R3.out.r.c).mono ?_
            rintro e w4 ⟨ao, cp, L, rfl, HL, HX⟩
            have R4 := Lib.hid (R3.out.call HX.out.o HX.out.c)
            have z := (lit_cell R4.out.r.p 4).trans rfl
            have f := lit_free R4.out.r.p 4
            clear R3 HN HDG HLS HTK HRV HF
            go_wp2
            go_roundw
            case rel => exact ⟨k + 1, [83], { c with sp := L, sa := ao, sc := cp }, _, HLT.out, rfl, by go_num, Lib.hid (R4.out.sp ao cp L (HL.out.2.2.weak HZ.out)), Lib.hid (KI.out.arm (listFld 83 10240 (by decide) digC (fun p : CertR => p.slotProof) (fun (p : CertR) v => { p with slotProof := v })) cert_rise (by simp [certFs]) L HX.out.g), Lib.hid (Ahead.low HKL.out rfl (by decide) bad_end rfl rfl)⟩
            case measure => have := HLT.out; simp [intOf] <;> omega
          · skip
            by_cases e2 : t = [99]
            · subst e2
              go_wp2_with fail
              refine (HDG.out _ _ R3.out.r.c).mono ?_
              rintro e w4 ⟨x, rfl, hx, HX⟩
              have R4 := Lib.hid (R3.out.call HX.out.o HX.out.c)
              have z := (lit_cell R4.out.r.p 0).trans rfl
              have f := lit_free R4.out.r.p 0
              clear hx R3 HN HDS HLS HTK HRV HF
              go_wp2
              go_roundw
              case rel => exact ⟨k + 1, [99], { c with root := x }, _, HLT.out, rfl, by go_num, Lib.hid (R4.out.root x), Lib.hid (KI.out.arm (digFld 99 (fun p : CertR => p.root) (fun (p : CertR) v => { p with root := v })) cert_rise (by simp [certFs]) x HX.out.g), Lib.hid (Ahead.low HKL.out rfl (by decide) bad_end rfl rfl)⟩
              case measure => have := HLT.out; simp [intOf] <;> omega
            · skip
              by_cases e3 : t = [112]
              · subst e3
                go_wp2_with fail
                refine (HLS.out _ _ R3.out.r.c).mono ?_
                rintro e w4 ⟨m, rfl, hm, HX⟩
                have R4 := Lib.hid (R3.out.call HX.out.o HX.out.c)
                have LI := Lib.hid (LInv.start S 640 anyC.get st3 m HX.out.g)
                have HEM := Lib.hid (show badS (endS (runS S (headG 3 640) st3)) = true ∨ c.coins = [] from HKL.out.imp bad_end fun h => h.2.1 h.1)
                have HAB := Lib.hid (fun (L : List Nat) (ao : Option Addr) (cp : Nat) (st5 : St) (hb : badS st3 = true → badS st5 = true) => show Ahead [112] st5 { c with coins := c.coins ++ L, ca := ao, cc := cp } from HKL.out.elim (fun h => .inl (hb h)) fun h => .inr ⟨fun e => by simp [Op.bytesLess] at e, fun _ => h.2.2 (less_mono h.1 (by decide))⟩)
                have HRB := Lib.hid (show badS st3 = true → badS (endS (runS S (headG 3 640) st3)) = true from bad_end)
                have HMM := Lib.hid hm
                obtain ⟨tot2, hT2⟩ : ∃ tot2, runS S (listG 640 anyC.get) st3 = tot2 := ⟨_, rfl⟩
                have HTO := Lib.hid (show ∀ x, Got tot2 x → PInv S certFs tot (n - (k + 1)) { c.r with coins := x } [112] (endS tot2) from hT2 ▸ fun x hx => KI.out.arm (listFld 112 640 (by decide) anyC (fun p : CertR => p.coins) (fun (p : CertR) v => { p with coins := v })) cert_rise (by simp [certFs]) x hx)
                rw [hT2] at LI
                clear hT2 HX hm R3 KI HKL HN HDG HDS HLS HF HRV
                generalize endS (runS S (headG 3 640) st3) = st4 at *
                go_wp2_with fail
                go_loopw [8, 9, 10] (fun i8 i9 i10 wq => ∃ (j : Nat) (L : List Nat) (ao : Option Addr) (cp : Nat) (st5 : St), j ≤ m ∧ i8 = .int .u64 (j : Int) ∧ Hid (L.length = j) ∧ Hid (Ct w cb rb S st5 { c with coins := c.coins ++ L, ca := ao, cc := cp } wq) ∧ Hid (LInv S anyC.get tot2 (m - j) L st5) ∧ Hid (badS st5 = true ∨ c.coins = []) ∧ Hid (badS st3 = true → badS st5 = true))
                  (fun i8 _ _ _ => m - (intOf i8).toNat)
                case atStart => exact ⟨0, [], c.ca, c.cc, st4, Nat.zero_le _, rfl, Lib.hid rfl, Lib.hid (by rw [List.append_nil]; exact R4.out), LI, HEM, HRB⟩
                case round =>
                  clear R4 LI HEM HRB
                  obtain ⟨j, L, ao, cp, st5, hj, rfl, HLJ, R5, LI, HEM, HRB⟩ := hrel
                  have HB := Lib.hid (bad_any R5.out.r.c)
                  by_cases hjl : j < m
                  · have jd : decide ((j : Int) < (m : Int)) = true := decide_eq_true (by omega)
                    have j3 : (j : Int) ≤ 65536 := by have := HMM.out; omega
                    have j4 : (0 : Int) ≤ (j : Int) := by omega
                    have HJL := Lib.hid hjl
                    clear hjl hj
                    cases st5 with
                    | error f =>
                      have PD := Lib.hid (LI.out.done (.inr rfl))
                      have HPI := Lib.hid (show PInv S certFs tot (n - (k + 1)) ({ c with coins := c.coins ++ L, ca := ao, cc := cp } : CertE).r [112] (.error f) from PInv.err (PD.out.1 ▸ HTO.out _ PD.out.2) rfl)
                      simp only [badS] at HB
                      clear LI HTK HEM HTO HAB PD
                      go_wp2_with (go_at_call 64; refine HB.out.mono ?_; rintro e w6 ⟨rfl, rfl⟩)
                      go_roundw
                      case rel => exact ⟨k + 1, [112], { c with coins := c.coins ++ L, ca := ao, cc := cp }, .error f, HLT.out, rfl, by go_num, R5, HPI, Lib.hid (.inl rfl)⟩
                      case measure => have := HLT.out; simp [intOf] <;> omega
                    | ok b =>
                      simp only [badS] at HB
                      have hem : c.coins = [] := by
                        rcases HEM.out with h | h
                        · cases h
                        · exact h
                      have HEM := Lib.hid hem
                      have HHB := Lib.hid (show ¬ badS st3 = true from fun e => by have := HRB.out e; cases this)
                      clear hem HRB
                      rw [show m - j = (m - (j + 1)) + 1 by have := HJL.out; omega] at LI
                      have HLN := Lib.hid (show (c.coins ++ L).length ≤ 65536 by rw [HEM.out, List.nil_append, HLJ.out]; have := HJL.out; have := HMM.out; omega)
                      obtain ⟨c2, hc2⟩ : ∃ c2 : CertE, c2 = { c with coins := c.coins ++ L, ca := ao, cc := cp } := ⟨_, rfl⟩
                      rw [← hc2] at R5
                      have HLN := Lib.hid (show c2.coins.length ≤ 65536 by rw [hc2]; exact HLN.out)
                      have HC2 := Lib.hid hc2
                      clear hc2
                      go_upto_region 20 with (go_at_call 64; refine HB.out.mono ?_; rintro e w6 ⟨rfl, rfl⟩)
                      clear HB HTO HAB
                      obtain ⟨i0, hi, hz0, hs0, hby⟩ := infoU64
                      go_upto_region 21 with ((go_at_call 69; refine (HTK.out _ _ R5.out.r.c).mono ?_; rintro e w6 ⟨X, tt, rfl, HX⟩; have HA := Lib.hid (any_run S (.ok b) X tt HX.out.g); have R6 := Lib.hid (R5.out.call HX.out.o (HA.out.1 ▸ HX.out.c)); have z3 := (lit_cell R6.out.r.p 3).trans rfl; have R6A := Lib.hid (R6.out.alloc (.cells #[.int .u64 (X : Int)] 22))))
                      go_wp2_with (at_builtin; (refine wpList_append_lies _ rfl _ _ 24 rfl (w.heap.size + 2) 22 i0 (.int .u64 0) 1 8 Tryz.underlying24 hi hz0 hs0 hby rfl (by decide) (.slice c2.ca c2.coins.length c2.cc) c2.coins.length _ rfl R6A.out.m.co ⟨w6.heap.size, 0, none⟩ 1 1 [encN X] rfl rfl (cell_one_new _ _ _) (by intro u hu; simp at hu; subst hu; rfl) (by decide) (by have := HLN.out; unfold maxLen; omega) (by have := HLN.out; omega) (by have := R6A.out.r.lt; have := lit_lt R6A.out.r.p; omega) (w6.heap.size + 1) (by rw [World.size_alloc]) ?_); intro g cap w7 hown hg _ _; have R7 := Lib.hid (R6A.out.coin X g cap hown hg); have hR7 := R6A.out.r.grown hg (fun j e => (R6A.out.m.co.lt j e).1); have y3 := (lit_cell hR7.p 3).trans rfl; have f3 := lit_free hR7.p 3; clear hR7 hown hg)
                      go_roundw
                      case rel => exact ⟨j + 1, L ++ [X], some ⟨g, 0, none⟩, cap, _, HJL.out, by go_num, Lib.hid (by rw [List.length_append, HLJ.out]; rfl), Lib.hid (by rw [← show ({ c2 with coins := c2.coins ++ [X], ca := some ⟨g, 0, none⟩, cc := cap } : CertE) = { c with coins := c.coins ++ (L ++ [X]), ca := some ⟨g, 0, none⟩, cc := cap } by rw [HC2.out]; simp]; exact R7.out), Lib.hid (LI.out.step X HA.out.2), Lib.hid (.inr HEM.out), Lib.hid (fun e => absurd e HHB.out)⟩
                      case measure => have := HJL.out; simp [intOf] <;> omega
                  · have j1 : ¬ (j : Int) < (m : Int) := by omega
                    have hjm : j = m := by omega
                    have PD := Lib.hid (LI.out.done (.inl (by rw [hjm, Nat.sub_self])))
                    have HPI := Lib.hid (show PInv S certFs tot (n - (k + 1)) ({ c with coins := c.coins ++ L, ca := ao, cc := cp } : CertE).r [112] st5 from by
                      have h1 := PD.out.1 ▸ HTO.out _ PD.out.2
                      rcases HEM.out with hb | he
                      · exact PInv.err h1 hb
                      · rw [show ({ c with coins := c.coins ++ L, ca := ao, cc := cp } : CertE).r = { c.r with coins := L } by simp [CertE.r, he]]; exact h1)
                    have HAH := Lib.hid (HAB.out L ao cp st5 HRB.out)
                    clear LI HTK HEM HTO HAB hjl hj hjm PD HRB
                    go_wp2_with (go_at_call 64; refine HB.out.mono ?_; rintro e w6 ⟨rfl, rfl⟩)
                    go_roundw
                    case rel => exact ⟨k + 1, [112], { c with coins := c.coins ++ L, ca := ao, cc := cp }, st5, HLT.out, rfl, by go_num, R5, HPI, HAH⟩
                    case measure => have := HLT.out; simp [intOf] <;> omega
              · skip
                by_cases e4 : t = [114]
                · subst e4
                  go_wp2_with fail
                  refine (HLS.out _ _ R3.out.r.c).mono ?_
                  rintro e w4 ⟨m, rfl, hm, HX⟩
                  have R4 := Lib.hid (R3.out.call HX.out.o HX.out.c)
                  have LI := Lib.hid (LInv.start S 640 revC.get st3 m HX.out.g)
                  have HEM := Lib.hid (show badS (endS (runS S (headG 3 640) st3)) = true ∨ c.rl = [] from HKL.out.imp bad_end fun h => h.2.2 h.1)
                  have HAB := Lib.hid (fun (L : List RevE) (ao : Option Addr) (cp : Nat) (st5 : St) (hb : badS st3 = true → badS st5 = true) => show Ahead [114] st5 { c with rl := c.rl ++ L, ra := ao, rc := cp } from HKL.out.elim (fun h => .inl (hb h)) fun h => .inr ⟨fun e => by simp [Op.bytesLess] at e, fun e => by simp [Op.bytesLess] at e⟩)
                  have HRB := Lib.hid (show badS st3 = true → badS (endS (runS S (headG 3 640) st3)) = true from bad_end)
                  have HMM := Lib.hid hm
                  obtain ⟨tot2, hT2⟩ : ∃ tot2, runS S (listG 640 revC.get) st3 = tot2 := ⟨_, rfl⟩
                  have HTO := Lib.hid (show ∀ x, Got tot2 x → PInv S certFs tot (n - (k + 1)) { c.r with reveals := x } [114] (endS tot2) from hT2 ▸ fun x hx => KI.out.arm (listFld 114 640 (by decide) revC (fun p : CertR => p.reveals) (fun (p : CertR) v => { p with reveals := v })) cert_rise (by simp [certFs]) x hx)
                  rw [hT2] at LI
                  clear hT2 HX hm R3 KI HKL HN HDG HDS HLS HF HTK
                  generalize endS (runS S (headG 3 640) st3) = st4 at *
                  go_wp2_with fail
                  go_loopw [12] (fun i12 wq => ∃ (j : Nat) (L : List RevE) (ao : Option Addr) (cp : Nat) (st5 : St), j ≤ m ∧ i12 = .int .u64 (j : Int) ∧ Hid (L.length = j) ∧ Hid (Ct w cb rb S st5 { c with rl := c.rl ++ L, ra := ao, rc := cp } wq) ∧ Hid (LInv S revC.get tot2 (m - j) (L.map (·.r)) st5) ∧ Hid (badS st5 = true ∨ c.rl = []) ∧ Hid (badS st3 = true → badS st5 = true))
                    (fun i12 _ => m - (intOf i12).toNat)
                  case atStart => exact ⟨0, [], c.ra, c.rc, st4, Nat.zero_le _, rfl, Lib.hid rfl, Lib.hid (by rw [List.append_nil]; exact R4.out), LI, HEM, HRB⟩
                  case round =>
                    clear R4 LI HEM HRB
                    obtain ⟨j, L, ao, cp, st5, hj, rfl, HLJ, R5, LI, HEM, HRB⟩ := hrel
                    have HB := Lib.hid (bad_any R5.out.r.c)
                    by_cases hjl : j < m
                    · have jd : decide ((j : Int) < (m : Int)) = true := decide_eq_true (by omega)
                      have j3 : (j : Int) ≤ 65536 := by have := HMM.out; omega
                      have j4 : (0 : Int) ≤ (j : Int) := by omega
                      have HJL := Lib.hid hjl
                      clear hjl hj
                      cases st5 with
                      | error f =>
                        have PD := Lib.hid (LI.out.done (.inr rfl))
                        have HPI := Lib.hid (show PInv S certFs tot (n - (k + 1)) ({ c with rl := c.rl ++ L, ra := ao, rc := cp } : CertE).r [114] (.error f) from PInv.err (PD.out.1 ▸ HTO.out _ PD.out.2) rfl)
                        simp only [badS] at HB
                        clear LI HRV HEM HTO HAB PD
                        go_wp2_with (go_at_call 64; refine HB.out.mono ?_; rintro e w6 ⟨rfl, rfl⟩)
                        go_roundw
                        case rel => exact ⟨k + 1, [114], { c with rl := c.rl ++ L, ra := ao, rc := cp }, .error f, HLT.out, rfl, by go_num, R5, HPI, Lib.hid (.inl rfl)⟩
                        case measure => have := HLT.out; simp [intOf] <;> omega
                      | ok b =>
                        simp only [badS] at HB
                        have hem : c.rl = [] := by
                          rcases HEM.out with h | h
                          · cases h
                          · exact h
                        have HEM := Lib.hid hem
                        have HHB := Lib.hid (show ¬ badS st3 = true from fun e => by have := HRB.out e; cases this)
                        clear hem HRB
                        rw [show m - j = (m - (j + 1)) + 1 by have := HJL.out; omega] at LI
                        have HLN := Lib.hid (show (c.rl ++ L).length ≤ 65536 by rw [HEM.out, List.nil_append, HLJ.out]; have := HJL.out; have := HMM.out; omega)
                        obtain ⟨c2, hc2⟩ : ∃ c2 : CertE, c2 = { c with rl := c.rl ++ L, ra := ao, rc := cp } := ⟨_, rfl⟩
                        rw [← hc2] at R5
                        have HLN := Lib.hid (show c2.rl.length ≤ 65536 by rw [hc2]; exact HLN.out)
                        have HC2 := Lib.hid hc2
                        clear hc2
                        go_upto_region 27 with (go_at_call 64; refine HB.out.mono ?_; rintro e w6 ⟨rfl, rfl⟩)
                        clear HB HTO HAB
                        obtain ⟨i0, hi, hz0, hs0, hby⟩ := infoRev
                        have R5D := Lib.hid (R5.out.call (Duo.below (Below.refl _ _).drew) (R5.out.r.c.next (Below.refl _ _).drew))
                        have z2 := (lit_cell R5D.out.r.p 2).trans rfl
                        have HSTEP := Lib.hid (fun q hq => LI.out.step q hq)
                        clear LI
                        go_region_law (first
                          | (go_simp; go_at_call 70; refine (HRV.out _ _ R5D.out.r.c).mono ?_; rintro e w8 ⟨q, wa, pa, wc, pc, rfl, hL, HX⟩; have R6 := Lib.hid (R5D.out.call HX.out.o HX.out.c); have z2' := (lit_cell R6.out.r.p 2).trans rfl; have R6A := Lib.hid (R6.out.alloc (.cells (revQ ⟨q, wa, wc, pa, pc⟩).toArray 57)); have z2a : (w8.alloc (.cells #[.int .u64 (q.pos : Int), .int .u64 (q.slot.l : Int), .bool q.slot.signed, .int .u64 (q.slot.sig.index : Int), .slice wa q.slot.sig.wots.length wc, .slice pa q.slot.sig.path.length pc, .string ⟨q.part.root.toArray⟩, .int .u64 (q.part.weight : Int), .int .u64 (q.part.first : Int), .int .u64 (q.part.life : Int), .int .u64 (q.part.keys : Int)] 57)).cell? ⟨w.heap.size + 1, 2, none⟩ = some (.slice c2.ra c2.rl.length c2.rc) := (lit_cell R6A.out.r.p 2).trans rfl; have HFR := Lib.hid (show Fresh (w.heap.size + 2) wa q.slot.sig.wots (w8.alloc (.cells (revQ ⟨q, wa, wc, pa, pc⟩).toArray 57)) ∧ Fresh (w.heap.size + 2) pa q.slot.sig.path (w8.alloc (.cells (revQ ⟨q, wa, wc, pa, pc⟩).toArray 57)) from ⟨(hL.out.fw.weak (lit_lt R5D.out.r.p)).to (fun k _ hl => heap_alloc_old _ _ hl) (by simp), (hL.out.fp.weak (lit_lt R5D.out.r.p)).to (fun k _ hl => heap_alloc_old _ _ hl) (by simp)⟩))
                          | (refine step_append_lies _ rfl (.tmp 84) (.tmp 87) 23 rfl (w.heap.size + 2) 57 i0 (.agg #[.int .u64 0, .int .u64 0, .bool false, .int .u64 0, .slice none 0 0, .slice none 0 0, .string ⟨#[]⟩, .int .u64 0, .int .u64 0, .int .u64 0, .int .u64 0]) 11 128 Tryz.underlying23 hi hz0 hs0 hby rfl (by decide) (.slice c2.ra c2.rl.length c2.rc) c2.rl.length _ rfl R6A.out.m.rv ⟨w8.heap.size, 0, none⟩ 1 1 (revQ ⟨q, wa, wc, pa, pc⟩) rfl rfl (rev_new w8 _ _) (rev_one _) (by decide) (by have := HLN.out; unfold maxLen; omega) (by have := HLN.out; omega) (lit_lt R6A.out.r.p) (w8.heap.size + 1) (by rw [World.size_alloc]) ?_; intro g cap w7 hown hg _ _; have R7 := Lib.hid (R6A.out.rev _ g cap HFR.out hown hg); have hR7 := R6A.out.r.grown hg (fun j e => (R6A.out.m.rv.lt j e).1); have y2 := (lit_cell hR7.p 2).trans rfl; have f2 := lit_free hR7.p 2; clear hR7 hown hg))
                        all_goals
                          generalize w7.setCell ⟨w.heap.size + 1, 2, none⟩ (.slice (some ⟨g, 0, none⟩) (c2.rl.length + 1) cap) = w9 at *
                          go_wp2
                          go_roundw
                          case rel => exact ⟨j + 1, L ++ [⟨q, wa, wc, pa, pc⟩], some ⟨g, 0, none⟩, cap, _, HJL.out, by go_num, Lib.hid (by rw [List.length_append, HLJ.out]; rfl), Lib.hid (by rw [← show ({ c2 with rl := c2.rl ++ [⟨q, wa, wc, pa, pc⟩], ra := some ⟨g, 0, none⟩, rc := cap } : CertE) = { c with rl := c.rl ++ (L ++ [⟨q, wa, wc, pa, pc⟩]), ra := some ⟨g, 0, none⟩, rc := cap } by rw [HC2.out]; simp]; exact R7.out), Lib.hid (by rw [List.map_append]; exact HSTEP.out q HX.out.g), Lib.hid (.inr HEM.out), Lib.hid (fun e => absurd e HHB.out)⟩
                          case measure => have := HJL.out; simp [intOf] <;> omega
                    · have j1 : ¬ (j : Int) < (m : Int) := by omega
                      have hjm : j = m := by omega
                      have PD := Lib.hid (LI.out.done (.inl (by rw [hjm, Nat.sub_self])))
                      have HPI := Lib.hid (show PInv S certFs tot (n - (k + 1)) ({ c with rl := c.rl ++ L, ra := ao, rc := cp } : CertE).r [114] st5 from by
                        have h1 := PD.out.1 ▸ HTO.out _ PD.out.2
                        rcases HEM.out with hb | he
                        · exact PInv.err h1 hb
                        · rw [show ({ c with rl := c.rl ++ L, ra := ao, rc := cp } : CertE).r = { c.r with reveals := (L.map (·.r)) } by simp [CertE.r, he]]; exact h1)
                      have HAH := Lib.hid (HAB.out L ao cp st5 HRB.out)
                      clear LI HRV HEM HTO HAB hjl hj hjm PD HRB
                      go_wp2_with (go_at_call 64; refine HB.out.mono ?_; rintro e w6 ⟨rfl, rfl⟩)
                      go_roundw
                      case rel => exact ⟨k + 1, [114], { c with rl := c.rl ++ L, ra := ao, rc := cp }, st5, HLT.out, rfl, by go_num, R5, HPI, HAH⟩
                      case measure => have := HLT.out; simp [intOf] <;> omega
                · skip
                  by_cases e5 : t = [119]
                  · subst e5
                    go_wp2_with fail
                    refine (HN.out _ _ R3.out.r.c).mono ?_
                    rintro e w4 ⟨x, rfl, hx, HX⟩
                    have R4 := Lib.hid (R3.out.call HX.out.o HX.out.c)
                    have z := (lit_cell R4.out.r.p 1).trans rfl
                    have f := lit_free R4.out.r.p 1
                    clear hx R3 HDG HDS HLS HTK HRV HF
                    go_wp2
                    go_roundw
                    case rel => exact ⟨k + 1, [119], { c with signed := x }, _, HLT.out, rfl, by go_num, Lib.hid (R4.out.signed x), Lib.hid (KI.out.arm (numFld 119 (fun p : CertR => p.signed) (fun (p : CertR) v => { p with signed := v })) cert_rise (by simp [certFs]) x HX.out.g), Lib.hid (.inr ⟨fun h => by simp [Op.bytesLess] at h, fun h => by simp [Op.bytesLess] at h⟩)⟩
                    case measure => have := HLT.out; simp [intOf] <;> omega
                  · skip
                    have f0 : (t == [80]) = false := by simpa using e0
                    have f1 : (t == [83]) = false := by simpa using e1
                    have f2 : (t == [99]) = false := by simpa using e2
                    have f3 : (t == [112]) = false := by simpa using e3
                    have f4 : (t == [114]) = false := by simpa using e4
                    have f5 : (t == [119]) = false := by simpa using e5
                    have hno : ∀ g ∈ certFs, [g.key] ≠ t := by simp only [certFs, List.mem_cons, List.not_mem_nil, or_false, forall_eq_or_imp, forall_eq, numFld, digFld, listFld]; exact ⟨fun h => e0 h.symm, fun h => e1 h.symm, fun h => e2 h.symm, fun h => e3 h.symm, fun h => e4 h.symm, fun h => e5 h.symm⟩
                    have KN := Lib.hid (KI.out.none (t := t) hno (n - (k + 1)) c.r t)
                    have HAH := Lib.hid (show Ahead t st3 c from .inl (KI.out.bad hno))
                    clear e0 e1 e2 e3 e4 e5 hno KI HN HDG HDS HLS HTK HRV HF HKL
                    go_wp2
                    go_roundw
                    case rel => exact ⟨k + 1, t, c, st3, HLT.out, rfl, by go_num, R3, KN, HAH⟩
                    case measure => have := HLT.out; simp [intOf] <;> omega
    · have k1 : ¬ (k : Int) < (n : Int) := by omega
      obtain rfl : k = n := by omega
      have PD := Lib.hid (PI.out.done (.inl (Nat.sub_self _)))
      clear PI HN HDG HDS HLS HTK HRV HK HAH hlt hk
      have z0 := (lit_cell R.out.r.p 0).trans rfl
      go_wp2_with (go_at_call 64; refine HB.out.mono ?_; rintro e w4 ⟨rfl, rfl⟩)
      refine (HF.out _ _ R.out.r.c _).mono ?_
      rintro e w5 ⟨rfl, hc, ho⟩
      have hc2 : Curs cb rb S (failS (c.root.isEmpty) 5 st2) w5 := by first | (simpa using hc) | (simp at hc ⊢; exact hc)
      obtain ⟨g1, g2⟩ := HE.out c.r PD.out.2
      simp only [Bool.not_not, PD.out.1] at g1
      rw [show c.r.root.isEmpty = c.root.isEmpty from rfl] at g1
      rw [g1] at hc2
      have R5 := Lib.hid (R.out.call (Duo.only ho) hc2)
      have G2 := Lib.hid g2
      clear hc hc2 ho g1 g2 R HE PD z0
      have y0 := (lit_cell R5.out.r.p 0).trans rfl; have x0 := (lit_cell R5.out.r.r 0).trans rfl; have f0 := lit_free R5.out.r.r 0
      have y1 := (lit_cell R5.out.r.p 1).trans rfl; have x1 := (lit_cell R5.out.r.r 1).trans rfl; have f1 := lit_free R5.out.r.r 1
      have y2 := (lit_cell R5.out.r.p 2).trans rfl; have x2 := (lit_cell R5.out.r.r 2).trans rfl; have f2 := lit_free R5.out.r.r 2
      have y3 := (lit_cell R5.out.r.p 3).trans rfl; have x3 := (lit_cell R5.out.r.r 3).trans rfl; have f3 := lit_free R5.out.r.r 3
      have y4 := (lit_cell R5.out.r.p 4).trans rfl; have x4 := (lit_cell R5.out.r.r 4).trans rfl; have f4 := lit_free R5.out.r.r 4
      have y5 := (lit_cell R5.out.r.p 5).trans rfl; have x5 := (lit_cell R5.out.r.r 5).trans rfl; have f5 := lit_free R5.out.r.r 5
      go_wp2
      have hx7 := lit_set (k := 5) (.slice c.pa c.pp.length c.pc) (lit_set (k := 4) (.slice c.sa c.sp.length c.sc) (lit_set (k := 3) (.slice c.ca c.coins.length c.cc) (lit_set (k := 2) (.slice c.ra c.rl.length c.rc) (lit_set (k := 1) (.int .u64 (c.signed : Int)) (lit_set (k := 0) (.string ⟨c.root.toArray⟩) (R5.out.r.r))))))
      have ho7 := (((((Only.set (w.heap.size) 0 (.string ⟨c.root.toArray⟩) w5).trans (Only.set (w.heap.size) 1 (.int .u64 (c.signed : Int)) _)).trans (Only.set (w.heap.size) 2 (.slice c.ra c.rl.length c.rc) _)).trans (Only.set (w.heap.size) 3 (.slice c.ca c.coins.length c.cc) _)).trans (Only.set (w.heap.size) 4 (.slice c.sa c.sp.length c.sc) _)).trans (Only.set (w.heap.size) 5 (.slice c.pa c.pp.length c.pc) _)
      obtain ⟨hC, hO⟩ := R5.out.r.fin ho7
      have hL := (R5.out.m.keep (fun k hk hl => ho7.block k hl (by omega)) ho7.size).weak (lo2 := w.heap.size) (by omega)
      clear ho7
      generalize ((((((w5).setCell ⟨w.heap.size, 0, none⟩ (.string ⟨c.root.toArray⟩)).setCell ⟨w.heap.size, 1, none⟩ (.int .u64 (c.signed : Int))).setCell ⟨w.heap.size, 2, none⟩ (.slice c.ra c.rl.length c.rc)).setCell ⟨w.heap.size, 3, none⟩ (.slice c.ca c.coins.length c.cc)).setCell ⟨w.heap.size, 4, none⟩ (.slice c.sa c.sp.length c.sc)).setCell ⟨w.heap.size, 5, none⟩ (.slice c.pa c.pp.length c.pc) = w7 at *
      have v0 := (lit_cell hx7 0).trans rfl
      have v1 := (lit_cell hx7 1).trans rfl
      have v2 := (lit_cell hx7 2).trans rfl
      have v3 := (lit_cell hx7 3).trans rfl
      have v4 := (lit_cell hx7 4).trans rfl
      have v5 := (lit_cell hx7 5).trans rfl
      refine bodyPost_ret (v := certV c) (by simp [results, Tryz.results30, go_sem, v0, v1, v2, v3, v4, v5]) rfl ⟨c, rfl, Lib.hid hL, Lib.hid ⟨G2.out, hC, hO⟩⟩
end Go.Proofs.YtlhmmplkdjibkaaGreatDoor
