/- UnpackOne: its walk, given what a reader does. -/
import Derived.Test.YtefhjncoakgbkaaDoorUl
import Derived.Test.YtefhjncoakgbkaaDoorUg
import Derived.Test.YtefhjncoakgbkaaDoorUh
import Derived.Deep.Cut
namespace Go.Proofs.YtefhjncoakgbkaaDoor
open Go.RowKit

theorem laidQ_any (s n : Nat) (T : List UInt8) (w : World) (hs : s ≤ 4) (hn : n < 18446744073709551616) (hn2 : s ≠ 0 → n < 65536) (hT : T.length ≤ 1000000) :
    Calls Tryd.prog 14 #[.int .i64 (s : Int), .int .u64 (n : Int), .string ⟨T.toArray⟩] w fun e w' => e = .returned (.string ⟨(laidQ s n T).toArray⟩) ∧ Below w.heap.size w w' := by
  obtain rfl | rfl | rfl | rfl | rfl : s = 0 ∨ s = 1 ∨ s = 2 ∨ s = 3 ∨ s = 4 := by omega
  · exact laid0 n T w hn
  · exact laid1 n T w (by have := hn2 (by decide); omega) hT
  · exact laid2 n T w (by have := hn2 (by decide); omega) hT
  · exact laid3 n T w (by have := hn2 (by decide); omega) hT
  · exact laid4 n T w (by have := hn2 (by decide); omega) hT

set_option maxRecDepth 100000 in
set_option maxHeartbeats 4000000 in
theorem one_any {G : World → Prop} {R : Nat → List UInt8 → Nat → Nat → World → Prop} (C : ReaderC G R) (S : List UInt8) (q : Nat) (w : World) (hG : G w) (hS : S.length ≤ maxLen) (hq : q < 256) :
    Calls Tryd.prog 5 #[.string ⟨S.toArray⟩, .int .u8 (q : Int)] w fun e w' => e = .returned (.bool true) ∧ Below w.heap.size w w' := by
  obtain ⟨T, hTe, hTl⟩ : ∃ T : List UInt8, T = S.take 700 ∧ T.length ≤ 700 := ⟨_, rfl, by rw [List.length_take]; omega⟩
  have HX := Lib.hid (show S.length ≤ 700 → (⟨S.toArray⟩ : ByteArray).extract 0 S.length = ⟨T.toArray⟩ from fun h => by rw [extract_list, List.drop_zero, List.take_length, hTe, List.take_of_length_le h])
  have HX2 := Lib.hid (show (⟨S.toArray⟩ : ByteArray).extract 0 700 = ⟨T.toArray⟩ by rw [extract_list, List.drop_zero, hTe])
  have hs : q % 5 ≤ 4 := by omega
  obtain ⟨q1, q2⟩ := mod5 q hq
  generalize q % 5 = s at *
  have HTl := Lib.hid hTl
  have HG := Lib.hid hG
  have HW := Lib.hid (works_u C w hG)
  have hS2 : (S.length : Int) ≤ 9223372036854775807 := by unfold maxLen at hS; omega
  clear hTe hTl hS hG hq
  go_enter Tryd.func5, Tryd.ntmps5
  go_wp2_with fail
  refine HW.out.mono ?_
  rintro e w1 ⟨rfl, hb1⟩
  have HB1 := Lib.hid hb1
  clear hb1 HW
  go_upto_region 3 with fail
  go_cut [0] from 15 (fun s0 wx => s0 = .string ⟨T.toArray⟩ ∧ wx = w1)
  case first =>
    by_cases hle : S.length ≤ 700
    · have e1 := HX.out hle
      by_cases he : S.length = 700
      · rw [he] at e1
        have k1 : (S.length : Int) = 700 := by omega
        go_wp2
        go_meet
        case rel => exact ⟨rfl, rfl⟩
      · have k1 : (S.length : Int) < 700 := by omega
        have k2 : ¬ (700 : Int) < (S.length : Int) := by omega
        go_wp2
        go_meet
        case rel => exact ⟨rfl, rfl⟩
    · have e1 := HX2.out
      have k1 : ¬ (S.length : Int) < 700 := by omega
      have k2 : (700 : Int) < (S.length : Int) := by omega
      go_wp2
      go_meet
      case rel => exact ⟨rfl, rfl⟩
  case rest =>
    obtain ⟨rfl, rfl⟩ := hcut
    clear HX HX2 hS2
    go_wp2_with fail
    refine (C.new T 65535 wc (C.gb HG.out HB1.out) (by have := HTl.out; omega) (by decide) (by decide)).mono ?_
    rintro e w2 ⟨b, hlo, rfl, hr, hb⟩
    rw [show (max (65535 : Int) 0).toNat = 65535 from rfl] at hr
    have K := Lib.hid (Rk.mk hr (C.gb (C.gb HG.out HB1.out) hb) HG.out (Nat.le_trans HB1.out.size hlo) (HB1.out.trans (hb.mono HB1.out.size)) : Rk R G w b T 0 65535 w2)
    clear hr hb hlo HB1
    go_wp2_with fail
    refine (ltake_any C b T 0 65535 s w2 K.out.r K.out.g (by have := HTl.out; omega) (Nat.zero_le _) hs).mono ?_
    rintro e w3 ⟨⟨v, rfl, hv⟩, hr, ho⟩
    have HF := Lib.hid (takeP_fits (T.drop 0) 65535 s)
    have HQ := Lib.hid (fun hc => was_any (T.drop 0) s hs hc)
    rw [List.drop_zero] at hv hr HF HQ ⊢
    have K := Lib.hid (K.out.only C ho hr)
    clear ho hr
    generalize takeP T 65535 s = P at *
    obtain ⟨pn, pt, pc, pm⟩ := P
    by_cases hc : pc = 0
    · subst hc
      obtain ⟨Rr, hTr0, hLm0⟩ := HQ.out rfl
      have hTr : T = laidQ s pn pt ++ Rr := hTr0
      have hLm : (laidQ s pn pt).length = pm := hLm0
      clear hTr0 hLm0
      obtain rfl : v = .nilIface := hv
      have HL := Lib.hid (fun w => laidQ_any s pn pt w hs HF.out.n64 HF.out.n16 (by have := HF.out.tl; have := HTl.out; show pt.length ≤ _; have h : pt.length ≤ T.length := HF.out.tl; omega))
      generalize laidQ s pn pt = B at *
      have hBT : B.length ≤ T.length := by rw [hTr, List.length_append]; omega
      have hex : (⟨T.toArray⟩ : ByteArray).extract 0 B.length = ⟨B.toArray⟩ := by rw [extract_list, List.drop_zero, hTr, List.take_left' rfl]
      have K := Lib.hid (show Rk R G w b T B.length 65535 w3 by have h := K.out; rw [hLm]; simpa using h)
      have l1 : (B.length : Int) ≤ (T.length : Int) := by omega
      have l2 : ¬ (T.length : Int) < (B.length : Int) := by omega
      have HBT := Lib.hid hBT
      clear HQ HF hTr hLm hBT
      go_wp2_with fail
      refine (HL.out _).mono ?_
      rintro e w4 ⟨rfl, hb⟩
      have K := Lib.hid (K.out.next C hb)
      clear hb HL
      go_wp2_with fail
      refine (C.fin b T B.length 65535 w4 K.out.r K.out.g (by have := HTl.out; omega) HBT.out).mono ?_
      rintro e w5 ⟨v5, rfl, hv, hb⟩
      have K := Lib.hid (K.out.next C hb)
      clear hb
      by_cases hlt : B.length < T.length
      · rw [if_pos hlt] at hv
        have HV := Lib.hid hv
        have l3 : (B.length : Int) < (T.length : Int) := by omega
        have l4 : ((B.length : Int) == (T.length : Int)) = false := by rw [beq_eq_false_iff_ne]; omega
        clear hv hlt
        go_wp2_with fail
        refine (fault_any _ 5 B.length v5 w5 (C.ge K.out.g) HV.out).mono ?_
        rintro e w6 ⟨rfl, hb⟩
        have K := Lib.hid (K.out.next C hb)
        clear hb
        go_wp2
        go_ret
        exact ⟨rfl, K.out.o⟩
      · rw [if_neg hlt] at hv
        have HV := Lib.hid hv
        have l4 : (B.length : Int) = (T.length : Int) := by have := HBT.out; omega
        have HLT := Lib.hid hlt
        clear hv hlt
        go_wp2_with fail
        refine (fault_any _ 0 B.length v5 w5 (C.ge K.out.g) HV.out).mono ?_
        rintro e w6 ⟨rfl, hb⟩
        have K := Lib.hid (K.out.next C hb)
        clear hb
        go_wp2_with fail
        refine (C.fin b T B.length 65535 w6 K.out.r K.out.g (by have := HTl.out; omega) HBT.out).mono ?_
        rintro e w7 ⟨v7, rfl, hv, hb⟩
        rw [if_neg HLT.out] at hv
        obtain rfl : v7 = .nilIface := hv
        have K := Lib.hid (K.out.next C hb)
        clear hb
        go_wp2
        go_ret
        exact ⟨rfl, K.out.o⟩
    · have hpn : pn = 0 := (HF.out.bad hc).2
      have hpt : pt = [] := by
        by_cases h12 : s = 1 ∨ s = 2
        · have h : pn = pt.length := HF.out.t12 h12
          rw [hpn] at h
          exact List.eq_nil_of_length_eq_zero h.symm
        · exact HF.out.t0 h12
      subst hpn hpt
      unfold ErrV at hv
      rw [if_neg (by show ¬ ((pc : Nat) : Int) = 0; omega)] at hv
      obtain ⟨f, _, rfl, _, _⟩ := hv
      clear HQ HF
      go_wp2
      go_ret
      exact ⟨rfl, K.out.o⟩
end Go.Proofs.YtefhjncoakgbkaaDoor
