/- UnpackReads: its walk, given what a reader does. -/
import Derived.Test.YtefhjncoakgbkaaDoorUg
import Derived.Test.YtefhjncoakgbkaaDoorBc
import Derived.Deep.Cut
namespace Go.Proofs.YtefhjncoakgbkaaDoor
open Go.RowKit

/-- the two readers, at one place -/
structure Two (R : Nat → List UInt8 → Nat → Nat → World → Prop) (G : World → Prop) (w0 : World) (bp br : Nat) (T : List UInt8) (a m : Nat) (wz : World) : Prop where
  k : Rk R G w0 bp T a m wz
  f : RefAt br T a m wz
  lo : w0.heap.size ≤ br
  ne : br ≠ bp
  ha : a ≤ T.length
theorem Two.next {G : World → Prop} {R : Nat → List UInt8 → Nat → Nat → World → Prop} (C : ReaderC G R) {w0 wz wa : World} {bp br : Nat} {T : List UInt8} {a m : Nat} (h : Two R G w0 bp br T a m wz) (hb : Below wz.heap.size wz wa) : Two R G w0 bp br T a m wa :=
  ⟨h.k.next C hb, (hb.block _ (lit_lt h.f)).trans h.f, h.lo, h.ne, h.ha⟩

theorem mod5 (q : Nat) (_h : q < 256) : (q : Int) % 5 = ((q % 5 : Nat) : Int) ∧ (q : Int).tmod 5 = ((q % 5 : Nat) : Int) := ⟨by omega, by rw [Int.tmod_eq_emod_of_nonneg (by omega)]; omega⟩

set_option maxRecDepth 100000 in
set_option maxHeartbeats 4000000 in
theorem reads_any {G : World → Prop} {R : Nat → List UInt8 → Nat → Nat → World → Prop} (C : ReaderC G R) (S : List UInt8) (i0 : Int) (ao : Option Addr) (cap : Nat) (L : List UInt8) (w : World) (hG : G w) (hS : S.length ≤ maxLen) (h0 : -9223372036854775808 ≤ i0) (h1 : i0 ≤ 9223372036854775807) (hL : L.length ≤ maxLen) (hBy : Byts ao L w) :
    Calls Tryd.prog 3 #[.string ⟨S.toArray⟩, .int .i64 i0, .slice ao L.length cap] w fun e w' => e = .returned (.bool true) ∧ Below w.heap.size w w' := by
  have hT : ∃ T : List UInt8, T = S.take 1000 ∧ T.length ≤ 1000 := ⟨_, rfl, by rw [List.length_take]; omega⟩
  obtain ⟨T, hTe, hTl⟩ := hT
  have hex : S.length ≤ 1000 → (⟨S.toArray⟩ : ByteArray).extract 0 S.length = ⟨T.toArray⟩ := by
    intro h
    rw [extract_list, List.drop_zero, List.take_length, hTe, List.take_of_length_le h]
  have hex2 : (⟨S.toArray⟩ : ByteArray).extract 0 1000 = ⟨T.toArray⟩ := by
    rw [extract_list, List.drop_zero, hTe]
  have HN := Lib.hid (C.new T i0 w hG (by omega) h0 h1)
  have HM0 := Lib.hid (show (max i0 0).toNat < 9223372036854775808 by omega)
  have HG := Lib.hid hG
  have HBy := Lib.hid hBy
  have HTl := Lib.hid hTl
  have HX := Lib.hid hex
  have HX2 := Lib.hid hex2
  clear hex hex2
  have hS2 : (S.length : Int) ≤ 9223372036854775807 := by unfold maxLen at hS; omega
  have hL2 : (L.length : Int) ≤ 9223372036854775807 := by unfold maxLen at hL; omega
  clear hG hBy hTl hTe h0 h1 hS hL
  go_enter Tryd.func3, Tryd.ntmps3
  go_upto_region 1 with fail
  go_cut [0] from 22 (fun s0 wx => s0 = .string ⟨T.toArray⟩ ∧ wx = w)
  case first =>
    by_cases hle : S.length ≤ 1000
    · have e1 := HX.out hle
      by_cases he : S.length = 1000
      · rw [he] at e1
        have k1 : (S.length : Int) = 1000 := by omega
        go_wp2
        go_meet
        case rel => exact ⟨rfl, rfl⟩
      · have k1 : (S.length : Int) < 1000 := by omega
        have k2 : ¬ (1000 : Int) < (S.length : Int) := by omega
        go_wp2
        go_meet
        case rel => exact ⟨rfl, rfl⟩
    · have e1 := HX2.out
      have k1 : ¬ (S.length : Int) < 1000 := by omega
      have k2 : (1000 : Int) < (S.length : Int) := by omega
      go_wp2
      go_meet
      case rel => exact ⟨rfl, rfl⟩
  case rest =>
    obtain ⟨rfl, rfl⟩ := hcut
    clear HX HX2 hS2
    go_wp2_with fail
    refine HN.out.mono ?_
    rintro e w1 ⟨bp, hlo, rfl, hr, hb⟩
    have K := Lib.hid (Rk.mk hr (C.gb HG.out hb) HG.out hlo hb : Rk R G wc bp T 0 (max i0 0).toNat w1)
    clear hr hb hlo HN
    go_wp2_with fail
    refine (refNew_any T i0 w1).mono ?_
    rintro e w2 ⟨rfl, hf, hb⟩
    generalize (max i0 0).toNat = m at *
    have HM := HM0
    have X := Lib.hid (Two.mk (K.out.next C hb) hf K.out.o.size (by have := C.lt K.out.r; omega) (Nat.zero_le _) : Two R G wc bp w1.heap.size T 0 m w2)
    generalize w1.heap.size = br at *
    clear hf hb K
    go_wp2_with fail
    go_loopw [9] (fun i wr => ∃ k a : Nat, k ≤ L.length ∧ k ≤ 60 ∧ i = .int .i64 (k : Int) ∧ Hid (Two R G wc bp br T a m wr))
      (fun i _ => 61 - (intOf i).toNat)
    case atStart => exact ⟨0, 0, Nat.zero_le _, Nat.zero_le _, rfl, X⟩
    case round =>
      obtain ⟨k, a, hk, hk60, rfl, X⟩ := hrel
      by_cases hlt : k < L.length
      · by_cases h60 : k < 60
        · have hBY := HBy.out.below (Nat.le_refl _) X.out.k.o
          obtain ⟨bL, oL, rfl, hcell⟩ := hBY.cell k hlt
          have k1 : (k : Int) < (L.length : Int) := by omega
          have k2 : (k : Int) < 60 := by omega
          generalize L[k] = y at *
          have hs : y.toNat % 5 ≤ 4 := by omega
          have hq := mod5 y.toNat y.toNat_lt
          generalize y.toNat = q at *
          generalize q % 5 = s at *
          obtain ⟨q1, q2⟩ := hq
          have c1 := (lit_cell X.out.f 1).trans rfl
          have j0 : (0 : Int) ≤ (k : Int) := by omega
          go_wp2_with fail
          refine (ltake_any C bp T a m s wr X.out.k.r X.out.k.g (by have := HTl.out; omega) X.out.ha hs).mono ?_
          rintro e w3 ⟨⟨v, rfl, hv⟩, hr, ho⟩
          have HV := Lib.hid hv
          have HF := Lib.hid (takeP_fits (T.drop a) m s)
          have K := Lib.hid (X.out.k.only C ho hr)
          have HR3 := Lib.hid (show RefAt br T a m w3 from (ho.block _ (lit_lt X.out.f) X.out.ne).trans X.out.f)
          clear hv hr ho c1
          go_wp2_with fail
          refine (refTake_any br T a m s w3 hs (by have := HTl.out; omega) X.out.ha HM.out HR3.out).mono ?_
          rintro e w4 ⟨rfl, hr, ho⟩
          generalize takeP (T.drop a) m s = P at *
          have HP := Lib.hid (show a + P.m ≤ T.length by have := HF.out.ml; rw [List.length_drop] at this; have := X.out.ha; omega)
          have X2 := Lib.hid (Two.mk (K.out.other C ho X.out.lo X.out.ne) hr X.out.lo X.out.ne HP.out : Two R G wc bp br T (a + P.m) m w4)
          have HV2 := Lib.hid (ErrV.only HV.out ho (lit_lt X.out.f))
          clear HV hr ho K HR3
          go_wp2_with fail
          refine (fault_any _ P.c a v w4 (C.ge X2.out.k.g) HV2.out).mono ?_
          rintro e w5 ⟨rfl, hb⟩
          replace X2 := Lib.hid (X2.out.next C hb)
          clear hb HV2
          obtain ⟨pn, pt, pc, pm⟩ := P
          have hbad : pc ≠ 0 → pm = 0 ∧ pn = 0 := HF.out.bad
          clear HF HP
          have X3 := Lib.hid (show Two R G wc bp br T (a + pm) m w5 from X2.out)
          clear X2
          obtain ⟨a2, ha2⟩ : ∃ a2, a + pm = a2 := ⟨_, rfl⟩
          rw [ha2] at X3
          clear ha2
          have c2 := (lit_cell X3.out.f 1).trans rfl
          clear k1 k2
          by_cases hc : pc = 0
          · subst hc
            clear hbad
            go_wp2_with fail
            refine (C.fin bp T a2 m w5 X3.out.k.r X3.out.k.g (by have := HTl.out; omega) X3.out.ha).mono ?_
            rintro e w6 ⟨v6, rfl, hv, hb⟩
            replace X3 := Lib.hid (X3.out.next C hb)
            clear hb c2
            by_cases hlf : a2 < T.length
            · rw [if_pos hlf] at hv
              have HV := Lib.hid hv
              clear hv
              have l1 : (a2 : Int) < (T.length : Int) := by omega
              clear hlf
              go_wp2_with fail
              refine (fault_any _ 5 a2 v6 w6 (C.ge X3.out.k.g) HV.out).mono ?_
              rintro e w7 ⟨rfl, hb⟩
              replace X3 := Lib.hid (X3.out.next C hb)
              clear hb HV
              have c3 := (lit_cell X3.out.f 1).trans rfl
              go_wp2
              go_roundw
              case rel => exact ⟨k + 1, a2, by omega, by omega, by go_num, X3⟩
              case measure => simp [intOf] <;> omega
            · rw [if_neg hlf] at hv
              have HV := Lib.hid hv
              clear hv
              have l1 : ¬ (a2 : Int) < (T.length : Int) := by omega
              clear hlf
              go_wp2_with fail
              refine (fault_any _ 0 a2 v6 w6 (C.ge X3.out.k.g) HV.out).mono ?_
              rintro e w7 ⟨rfl, hb⟩
              replace X3 := Lib.hid (X3.out.next C hb)
              clear hb HV
              have c3 := (lit_cell X3.out.f 1).trans rfl
              go_wp2
              go_roundw
              case rel => exact ⟨k + 1, a2, by omega, by omega, by go_num, X3⟩
              case measure => simp [intOf] <;> omega
          · have hc1 : ((pc : Int) == 0) = false := by rw [beq_eq_false_iff_ne]; omega
            have hc2 : ((pc : Int) != 0) = true := by simp; omega
            have hc3 : ¬ (pc : Int) = 0 := by omega
            clear hbad hc
            go_wp2_with fail
            refine (C.fin bp T a2 m w5 X3.out.k.r X3.out.k.g (by have := HTl.out; omega) X3.out.ha).mono ?_
            rintro e w6 ⟨v6, rfl, hv, hb⟩
            replace X3 := Lib.hid (X3.out.next C hb)
            clear hb c2
            by_cases hlf : a2 < T.length
            · rw [if_pos hlf] at hv
              have HV := Lib.hid hv
              clear hv
              have l1 : (a2 : Int) < (T.length : Int) := by omega
              clear hlf
              go_wp2_with fail
              refine (fault_any _ 5 a2 v6 w6 (C.ge X3.out.k.g) HV.out).mono ?_
              rintro e w7 ⟨rfl, hb⟩
              replace X3 := Lib.hid (X3.out.next C hb)
              clear hb HV
              have c3 := (lit_cell X3.out.f 1).trans rfl
              go_wp2
              go_roundw
              case rel => exact ⟨k + 1, a2, by omega, by omega, by go_num, X3⟩
              case measure => simp [intOf] <;> omega
            · rw [if_neg hlf] at hv
              have HV := Lib.hid hv
              clear hv
              have l1 : ¬ (a2 : Int) < (T.length : Int) := by omega
              clear hlf
              go_wp2_with fail
              refine (fault_any _ 0 a2 v6 w6 (C.ge X3.out.k.g) HV.out).mono ?_
              rintro e w7 ⟨rfl, hb⟩
              replace X3 := Lib.hid (X3.out.next C hb)
              clear hb HV
              have c3 := (lit_cell X3.out.f 1).trans rfl
              go_wp2
              go_roundw
              case rel => exact ⟨k + 1, a2, by omega, by omega, by go_num, X3⟩
              case measure => simp [intOf] <;> omega
        · have k1 : (k : Int) < (L.length : Int) := by omega
          have k2 : ¬ (k : Int) < 60 := by omega
          go_wp2_with fail
          refine (works_u C wr X.out.k.g).mono ?_
          rintro e w3 ⟨rfl, hb⟩
          have hbb := X.out.k.o.trans (hb.mono X.out.k.o.size)
          go_wp2
          go_ret
          exact ⟨rfl, hbb⟩
      · have k1 : ¬ (k : Int) < (L.length : Int) := by omega
        go_wp2_with fail
        refine (works_u C wr X.out.k.g).mono ?_
        rintro e w3 ⟨rfl, hb⟩
        have hbb := X.out.k.o.trans (hb.mono X.out.k.o.size)
        go_wp2
        go_ret
        exact ⟨rfl, hbb⟩
end Go.Proofs.YtefhjncoakgbkaaDoor
