/- The law's works: the chapter's examples. -/
import Derived.Test.YtbkiijndhjmkdaaGreatDoorJ6
import Derived.Test.YtbkiijndhjmkdaaGreatDoorJ24
import Derived.Test.YtbkiijndhjmkdaaGreatDoorJ25
import Derived.Test.YtbkiijndhjmkdaaGreatDoorJ27
import Derived.Test.YtbkiijndhjmkdaaGreatDoorJ26
import Derived.Test.YtbkiijndhjmkdaaGreatDoorJ22
import Derived.Deep.Cut
namespace Go.Proofs.YtbkiijndhjmkdaaGreatDoor
open Go.RowKit

theorem rslot_err {S : (List UInt8)} {b : Nat} (h : wholeG slotC.get S = .error (5, b)) (w : World) (hG : GlobW w) (hS : S.length ≤ 1000000) (hgl : 4 ≤ w.heap.size) :
    Calls Tryz.prog 21 #[.string ⟨S.toArray⟩] w fun e w' => (∃ v, e = .returned (.tuple #[.agg #[.int .u64 0, .bool false, .int .u64 0, .slice none 0 0, .slice none 0 0], v]) ∧ ErrV w.heap.size 5 b v w') ∧ Below w.heap.size w w' := by
  refine (wreadSlot_any S w hG hS hgl).mono fun e w' hA => ?_
  rw [AnsSlot, h] at hA
  exact hA.2
theorem rpart_err {S : (List UInt8)} {c b : Nat} (h : wholeG partC.get S = .error (c, b)) (w : World) (hG : GlobW w) (hS : S.length ≤ 1000000) (hgl : 4 ≤ w.heap.size) :
    Calls Tryz.prog 14 #[.string ⟨S.toArray⟩] w fun e w' => (∃ v, e = .returned (.tuple #[.agg #[.string ⟨#[]⟩, .int .u64 0, .int .u64 0, .int .u64 0, .int .u64 0], v]) ∧ ErrV w.heap.size c b v w') ∧ Below w.heap.size w w' := by
  refine (wreadPart_any S w hG hS hgl).mono fun e w' hA => ?_
  rw [AnsPart, h] at hA
  exact hA.2

theorem rL_len : rL.length = 32 := by decide
def cPart : (List UInt8) := [132, 161, 107, 3, 161, 108, 2, 161, 114, 196, 32] ++ rL ++ [161, 119, 205, 1, 44]
/-- what the walk keeps -/
structure Wk (w0 : World) (wz : World) : Prop where
  g : GlobW wz
  gl : 4 ≤ wz.heap.size
  o : Below w0.heap.size w0 wz
theorem Wk.next {w0 wz wa : World} (h : Wk w0 wz) (hb : Below wz.heap.size wz wa) : Wk w0 wa := ⟨h.g.next hb, Nat.le_trans h.gl hb.size, h.o.trans (hb.mono h.o.size)⟩
set_option maxRecDepth 100000 in
set_option maxHeartbeats 2000000 in
theorem worksw_any (w : World) (hG : GlobW w) (hgl : 4 ≤ w.heap.size) :
    Calls Tryz.prog 17 #[] w fun e w' => e = .returned (.bool true) ∧ Below w.heap.size w w' := by
  have HF := Lib.hid (full_any 114 w)
  have K0 := Lib.hid (show Wk w w from ⟨hG, hgl, Below.refl _ _⟩)
  have HP := Lib.hid (show ∀ wz, Wk w wz → Calls Tryz.prog 11 #[.agg #[.string ⟨rL.toArray⟩, .int .u64 300, .int .u64 0, .int .u64 2, .int .u64 3]] wz (fun e w' => e = .returned (.tuple #[.string ⟨cPart.toArray⟩, .int .i64 0]) ∧ Below wz.heap.size wz w') from fun wz h => by
    have k := wpart_any vPart wz h.g ⟨by decide, by decide, by decide, by decide⟩
    rw [ex_part] at k
    exact k)
  have HP2 := Lib.hid (show ∀ wz, Wk w wz → Calls Tryz.prog 11 #[.agg #[.string ⟨rL.tail.toArray⟩, .int .u64 0, .int .u64 0, .int .u64 0, .int .u64 0]] wz (fun e w' => e = .returned (.tuple #[.string ⟨#[]⟩, .int .i64 2]) ∧ Below wz.heap.size wz w') from fun wz h => by
    have k := wpart_any ⟨rL.drop 1, 0, 0, 0, 0⟩ wz h.g ⟨by decide, by decide, by decide, by decide⟩
    rw [ex_part2] at k
    exact k)
  have HS0 := Lib.hid (show ∀ wz, Wk w wz → Calls Tryz.prog 19 #[.agg #[.int .u64 0, .bool false, .int .u64 0, .slice none 0 0, .slice none 0 0]] wz (fun e w' => e = .returned (.tuple #[.string ⟨#[128]⟩, .int .i64 0]) ∧ Below wz.heap.size wz w') from fun wz h => by
    have k := wslot_any ⟨zSlot, none, 0, none, 0⟩ wz h.g ⟨by decide, ⟨by decide, by decide, by decide⟩⟩ ⟨.inl rfl, .inl rfl⟩
    rw [ex_slot0] at k
    exact k)
  have HS1 := Lib.hid (show ∀ wz, Wk w wz → Calls Tryz.prog 19 #[.agg #[.int .u64 5, .bool true, .int .u64 0, .slice none 0 0, .slice none 0 0]] wz (fun e w' => e = .returned (.tuple #[.string ⟨#[130, 161, 108, 5, 161, 115, 1]⟩, .int .i64 0]) ∧ Below wz.heap.size wz w') from fun wz h => by
    have k := wslot_any ⟨vSlot, none, 0, none, 0⟩ wz h.g ⟨by decide, ⟨by decide, by decide, by decide⟩⟩ ⟨.inl rfl, .inl rfl⟩
    rw [ex_slot1] at k
    exact k)
  have HM := Lib.hid (show ∀ wz, Wk w wz → Calls Tryz.prog 30 #[.agg #[.string ⟨#[]⟩, .string ⟨#[]⟩, .int .u64 0, .int .u64 0, .int .u64 0, .int .u64 0]] wz (fun e w' => e = .returned (.tuple #[.string ⟨#[]⟩, .int .i64 2]) ∧ Below wz.heap.size wz w') from fun wz h => by
    have k := wmsg_any zMsg wz h.g ⟨by decide, by decide, by decide, by decide⟩
    rw [ex_msg] at k
    exact k)
  have HR0 := Lib.hid (show ∀ wz, Wk w wz → Calls Tryz.prog 21 #[.string ⟨#[128]⟩] wz (fun e w' => (∃ (wa : Option Addr) (wc : Nat) (pa : Option Addr) (pc : Nat), e = .returned (.tuple #[.agg #[.int .u64 0, .bool false, .int .u64 0, .slice wa 0 wc, .slice pa 0 pc], .nilIface])) ∧ Below wz.heap.size wz w') from fun wz h => by
    refine (wreadSlot_any [128] wz h.g (by decide) h.gl).mono fun e w' hA => ?_
    rw [AnsSlot, ex_r0] at hA
    obtain ⟨⟨⟨y, a, b, c, d⟩, hy, he, _, _⟩, hb⟩ := hA
    obtain rfl : y = zSlot := hy
    exact ⟨⟨a, b, c, d, he⟩, hb⟩)
  have HL := Lib.hid rL_len
  have hcat : ∀ wz : World, True := fun _ => trivial
  have hR : (List.replicate 32 (114 : UInt8)) = rL := rfl
  rw [hR] at HF
  have hex : (⟨rL.toArray⟩ : ByteArray).extract 1 32 = ⟨rL.tail.toArray⟩ := by decide +kernel
  clear hG hgl hcat
  generalize hA : rL = A at *
  have HA := Lib.hid hA
  clear hA hR
  go_enter Tryz.func17, Tryz.ntmps17
  go_wp2_with fail
  refine HF.out.mono ?_
  rintro e w1 ⟨rfl, b1⟩
  have K := Lib.hid (K0.out.next b1)
  clear b1 K0 HF
  go_wp2_with fail
  refine (HP.out _ K.out).mono ?_
  rintro e w2 ⟨rfl, b2⟩
  have K := Lib.hid (K.out.next b2)
  clear b2 HP
  go_wp2_with fail
  refine (HS0.out _ K.out).mono ?_
  rintro e w3 ⟨rfl, b3⟩
  have K := Lib.hid (K.out.next b3)
  clear b3 HS0
  go_wp2_with fail
  refine (HS1.out _ K.out).mono ?_
  rintro e w4 ⟨rfl, b4⟩
  have K := Lib.hid (K.out.next b4)
  clear b4 HS1
  have hl := HL.out
  have hex2 : (⟨A.toArray⟩ : ByteArray).extract 1 A.length = ⟨A.tail.toArray⟩ := by rw [hl]; exact hex
  go_wp2_with fail
  first | rw [hex] | rw [hex2] | skip
  refine (HP2.out _ K.out).mono ?_
  rintro e w5 ⟨rfl, b5⟩
  have K := Lib.hid (K.out.next b5)
  clear b5 HP2 hex hex2
  go_wp2_with fail
  refine (HM.out _ K.out).mono ?_
  rintro e w6 ⟨rfl, b6⟩
  have K := Lib.hid (K.out.next b6)
  clear b6 HM
  have hcP : cPart = ([132, 161, 107, 3, 161, 108, 2, 161, 114, 196, 32] ++ A) ++ [161, 119, 205, 1, 44] := by rw [← HA.out]; rfl
  have hc1 := run_cat [132, 161, 107, 3, 161, 108, 2, 161, 114, 196, 32] A (by rw [hl]; decide)
  have hc2 := run_cat ([132, 161, 107, 3, 161, 108, 2, 161, 114, 196, 32] ++ A) [161, 119, 205, 1, 44] (by rw [List.length_append, hl]; decide)
  rw [← hcP] at hc2
  generalize [132, 161, 107, 3, 161, 108, 2, 161, 114, 196, 32] ++ A = D at *
  clear hcP
  generalize cPart = E at *
  go_upto_region 9 with fail
  go_upto_region 10 with (go_at_call 21; refine (HR0.out _ K.out).mono ?_; rintro e w7 ⟨⟨wa, wc, pa, pc, rfl⟩, b7⟩)
  change Code.wp _ _ _ _ (w7.alloc (.cells #[.int .u64 0, .bool false, .int .u64 0, .slice wa 0 wc, .slice pa 0 pc] 48))
  have hx := heap_alloc_new w7 (.cells #[.int .u64 0, .bool false, .int .u64 0, .slice wa 0 wc, .slice pa 0 pc] 48)
  have K := Lib.hid ((K.out.next b7).next (by0 w7 (.cells #[.int .u64 0, .bool false, .int .u64 0, .slice wa 0 wc, .slice pa 0 pc] 48)))
  generalize w7.alloc (.cells #[.int .u64 0, .bool false, .int .u64 0, .slice wa 0 wc, .slice pa 0 pc] 48) = w8 at *
  have z0 := (lit_cell hx 0).trans rfl; have z1 := (lit_cell hx 1).trans rfl; have z2 := (lit_cell hx 2).trans rfl; have z3 := (lit_cell hx 3).trans rfl; have z4 := (lit_cell hx 4).trans rfl
  clear hx b7 HR0
  generalize w7.heap.size = X7 at *
  go_upto_region 13 with fail
  change Code.wp _ _ _ _ (w8.alloc (.cells #[.string ⟨#[129, 161, 108, 0]⟩, .string ⟨#[130, 161, 115, 1, 161, 108, 5]⟩, .string ⟨#[129, 161, 115, 2]⟩] 9))
  have hl3 := heap_alloc_new w8 (.cells #[.string ⟨#[129, 161, 108, 0]⟩, .string ⟨#[130, 161, 115, 1, 161, 108, 5]⟩, .string ⟨#[129, 161, 115, 2]⟩] 9)
  have K := Lib.hid (K.out.next (by0 w8 (.cells #[.string ⟨#[129, 161, 108, 0]⟩, .string ⟨#[130, 161, 115, 1, 161, 108, 5]⟩, .string ⟨#[129, 161, 115, 2]⟩] 9)))
  generalize w8.alloc (.cells #[.string ⟨#[129, 161, 108, 0]⟩, .string ⟨#[130, 161, 115, 1, 161, 108, 5]⟩, .string ⟨#[129, 161, 115, 2]⟩] 9) = w9 at *
  generalize w8.heap.size = B at *
  have X := Lib.hid (And.intro K.out hl3)
  have HE := Lib.hid (show ∀ k : Nat, k < 3 → ∃ S : (List UInt8), (#[.string ⟨#[129, 161, 108, 0]⟩, .string ⟨#[130, 161, 115, 1, 161, 108, 5]⟩, .string ⟨#[129, 161, 115, 2]⟩] : Array Value)[k]? = some (.string ⟨S.toArray⟩) ∧ wholeG slotC.get S = .error (5, 0) ∧ S.length ≤ 10 from fun k hk => by
    obtain rfl | rfl | rfl : k = 0 ∨ k = 1 ∨ k = 2 := by omega
    · exact ⟨_, rfl, ex_b0, by decide⟩
    · exact ⟨_, rfl, ex_b1, by decide⟩
    · exact ⟨_, rfl, ex_b2, by decide⟩)
  clear hl3 K z0 z1 z2 z3 z4 hc1 hc2
  go_wp2
  go_loopw [15] (fun i wr => ∃ k : Nat, k ≤ 3 ∧ i = .int .i64 (k : Int) ∧ Hid (Wk w wr ∧ wr.heap[B]? = some (.cells #[.string ⟨#[129, 161, 108, 0]⟩, .string ⟨#[130, 161, 115, 1, 161, 108, 5]⟩, .string ⟨#[129, 161, 115, 2]⟩] 9 (0, 0))))
    (fun i _ => 3 - (intOf i).toNat)
  case atStart => exact ⟨0, by omega, rfl, X⟩
  case round =>
    obtain ⟨k, hk, rfl, X⟩ := hrel
    by_cases hlt : k < 3
    · obtain ⟨S, hS, hW, hSl⟩ := HE.out k hlt
      have hcell := (lit_cell X.out.2 k).trans hS
      have HR := Lib.hid (rslot_err hW wr X.out.1.g (by omega) X.out.1.gl)
      have k0 : (0 : Int) ≤ (k : Int) := by omega
      have k1 : (k : Int) < 3 := by omega
      clear hS hW hSl
      go_upto_region 17 with (go_at_call 21; refine HR.out.mono ?_; rintro e w10 ⟨⟨v, rfl, hv⟩, b10⟩)
      change Code.wp _ _ _ _ (w10.alloc (.cells #[.int .u64 0, .bool false, .int .u64 0, .slice none 0 0, .slice none 0 0] 48))
      have hb := by0 w10 (.cells #[.int .u64 0, .bool false, .int .u64 0, .slice none 0 0, .slice none 0 0] 48)
      have hv2 := hv.next hb
      have K2 := (X.out.1.next b10).next hb
      have hr2 := (hb.block B (Nat.lt_of_lt_of_le (lit_lt X.out.2) b10.size)).trans ((b10.block B (lit_lt X.out.2)).trans X.out.2)
      generalize w10.alloc (.cells #[.int .u64 0, .bool false, .int .u64 0, .slice none 0 0, .slice none 0 0] 48) = w11 at *
      have HT := Lib.hid (lawtold_any _ 5 0 0 v w11 K2.g.u.e hv2 (fun _ => rfl))
      have X2 := Lib.hid (And.intro K2 hr2)
      clear hb hv hv2 K2 hr2 b10 hcell HR X
      go_wp2_with fail
      refine HT.out.mono ?_
      rintro e w12 ⟨rfl, b12⟩
      have X3 := Lib.hid (And.intro (X2.out.1.next b12) ((b12.block B (lit_lt X2.out.2)).trans X2.out.2))
      clear b12 HT
      go_wp2
      go_roundw
      case rel => exact ⟨k + 1, by omega, by go_num, X3⟩
      case measure => simp [intOf]; omega
    · have k1 : ¬ (k : Int) < 3 := by omega
      have K := Lib.hid X.out.1
      clear X HE hk hlt
      have HL1 := Lib.hid (rslot_err ex_l wr K.out.g (by decide) K.out.gl)
      go_upto_region 20 with (go_at_call 21; refine HL1.out.mono ?_; rintro e w10 ⟨⟨v, rfl, hv⟩, b10⟩)
      change Code.wp _ _ _ _ (w10.alloc (.cells #[.int .u64 0, .bool false, .int .u64 0, .slice none 0 0, .slice none 0 0] 48))
      have hb := by0 w10 (.cells #[.int .u64 0, .bool false, .int .u64 0, .slice none 0 0, .slice none 0 0] 48)
      have V1 := Lib.hid (hv.next hb)
      have K := Lib.hid ((K.out.next b10).next hb)
      generalize w10.alloc (.cells #[.int .u64 0, .bool false, .int .u64 0, .slice none 0 0, .slice none 0 0] 48) = w11 at *
      generalize wr.heap.size = lo1 at *
      clear hb hv b10 HL1
      have HL2 := Lib.hid (rpart_err ex_m w11 K.out.g (by decide) K.out.gl)
      go_upto_region 21 with (go_at_call 14; refine HL2.out.mono ?_; rintro e wa2 ⟨⟨v2, rfl, hv⟩, b10⟩)
      change Code.wp _ _ _ _ (wa2.alloc (.cells #[.string ⟨#[]⟩, .int .u64 0, .int .u64 0, .int .u64 0, .int .u64 0] 24))
      have hb := by0 wa2 (.cells #[.string ⟨#[]⟩, .int .u64 0, .int .u64 0, .int .u64 0, .int .u64 0] 24)
      have V1 := Lib.hid ((V1.out.next b10).next hb)
      have V2 := Lib.hid (hv.next hb)
      have K := Lib.hid ((K.out.next b10).next hb)
      generalize wa2.alloc (.cells #[.string ⟨#[]⟩, .int .u64 0, .int .u64 0, .int .u64 0, .int .u64 0] 24) = wb2 at *
      clear hb hv b10 HL2
      have HL3 := Lib.hid (rpart_err ex_n wb2 K.out.g (by decide) K.out.gl)
      go_upto_region 22 with (go_at_call 14; refine HL3.out.mono ?_; rintro e wa3 ⟨⟨v3, rfl, hv⟩, b10⟩)
      change Code.wp _ _ _ _ (wa3.alloc (.cells #[.string ⟨#[]⟩, .int .u64 0, .int .u64 0, .int .u64 0, .int .u64 0] 24))
      have hb := by0 wa3 (.cells #[.string ⟨#[]⟩, .int .u64 0, .int .u64 0, .int .u64 0, .int .u64 0] 24)
      have V1 := Lib.hid ((V1.out.next b10).next hb)
      have V2 := Lib.hid ((V2.out.next b10).next hb)
      have V3 := Lib.hid (hv.next hb)
      have K := Lib.hid ((K.out.next b10).next hb)
      generalize wa3.alloc (.cells #[.string ⟨#[]⟩, .int .u64 0, .int .u64 0, .int .u64 0, .int .u64 0] 24) = wb3 at *
      clear hb hv b10 HL3
      have HL4 := Lib.hid (rpart_err ex_o wb3 K.out.g (by decide) K.out.gl)
      go_upto_region 23 with (go_at_call 14; refine HL4.out.mono ?_; rintro e wa4 ⟨⟨v4, rfl, hv⟩, b10⟩)
      change Code.wp _ _ _ _ (wa4.alloc (.cells #[.string ⟨#[]⟩, .int .u64 0, .int .u64 0, .int .u64 0, .int .u64 0] 24))
      have hb := by0 wa4 (.cells #[.string ⟨#[]⟩, .int .u64 0, .int .u64 0, .int .u64 0, .int .u64 0] 24)
      have V1 := Lib.hid ((V1.out.next b10).next hb)
      have V2 := Lib.hid ((V2.out.next b10).next hb)
      have V3 := Lib.hid ((V3.out.next b10).next hb)
      have V4 := Lib.hid (hv.next hb)
      have K := Lib.hid ((K.out.next b10).next hb)
      generalize wa4.alloc (.cells #[.string ⟨#[]⟩, .int .u64 0, .int .u64 0, .int .u64 0, .int .u64 0] 24) = wb4 at *
      clear hb hv b10 HL4
      have HT1 := Lib.hid (fun wz (hz : Below wb4.heap.size wb4 wz) => lawtold_any _ 5 1 1 v wz ((K.out.next hz).g.u.e) (V1.out.next hz) (fun _ => rfl))
      have HT2 := Lib.hid (fun wz (hz : Below wb4.heap.size wb4 wz) => lawtold_any _ 5 0 0 v2 wz ((K.out.next hz).g.u.e) (V2.out.next hz) (fun _ => rfl))
      have HT3 := Lib.hid (fun wz (hz : Below wb4.heap.size wb4 wz) => lawtold_any _ 4 0 0 v3 wz ((K.out.next hz).g.u.e) (V3.out.next hz) (fun _ => rfl))
      have HT4 := Lib.hid (fun wz (hz : Below wb4.heap.size wb4 wz) => lawtold_any _ 5 3 3 v4 wz ((K.out.next hz).g.u.e) (V4.out.next hz) (fun _ => rfl))
      go_wp2_with fail
      refine (HT1.out _ (Below.refl _ _)).mono ?_
      rintro e wc ⟨rfl, h1⟩
      go_wp2_with fail
      refine (HT2.out _ h1).mono ?_
      rintro e wd ⟨rfl, h2⟩
      have h3 := h1.trans (h2.mono h1.size)
      go_wp2_with fail
      refine (HT3.out _ h3).mono ?_
      rintro e we ⟨rfl, h4⟩
      have h5 := h3.trans (h4.mono h3.size)
      go_wp2_with fail
      refine (HT4.out _ h5).mono ?_
      rintro e wf ⟨rfl, h6⟩
      have h7 := h5.trans (h6.mono h5.size)
      go_wp2
      go_ret
      exact ⟨rfl, (K.out.next h7).o⟩
end Go.Proofs.YtbkiijndhjmkdaaGreatDoor
/- The law's same, sameSlot: two lists of texts, two slots, that are alike. -/
namespace Go.Proofs.YtbkiijndhjmkdaaGreatDoor
open Go.RowKit

set_option maxRecDepth 100000 in
set_option maxHeartbeats 1000000 in
theorem same_any (ao bo : Option Addr) (ca cb : Nat) (L : List (List UInt8)) (w : World) (hL : L.length ≤ maxLen) (ha : Strs ao L w) (hb : Strs bo L w) :
    Calls Tryz.prog 76 #[.slice ao L.length ca, .slice bo L.length cb] w fun e w' => e = .returned (.bool true) ∧ Below w.heap.size w w' := by
  unfold maxLen at hL
  have HA := Lib.hid ha
  have HB := Lib.hid hb
  clear ha hb
  go_enter Tryz.func76, Tryz.ntmps76
  go_wp2
  go_loopw [5] (fun i wr => ∃ k : Nat, k ≤ L.length ∧ i = .int .i64 (k : Int) ∧ Below w.heap.size w wr)
    (fun i _ => L.length - (intOf i).toNat)
  case atStart => exact ⟨0, by omega, rfl, Below.refl _ _⟩
  case round =>
    obtain ⟨k, hk, rfl, hbe⟩ := hrel
    by_cases hlt : k < L.length
    · obtain ⟨b1, o1, rfl, hc1⟩ := (HA.out.below (Nat.le_refl _) hbe).cell k hlt
      obtain ⟨b2, o2, rfl, hc2⟩ := (HB.out.below (Nat.le_refl _) hbe).cell k hlt
      generalize L[k] = X at *
      have k0 : (0 : Int) ≤ (k : Int) := by omega
      have k1 : (k : Int) < (L.length : Int) := by omega
      go_wp2
      go_quiet (fail)
      have hbn := Below_drewN' hbe nq
      go_wp2
      go_roundw
      case rel => exact ⟨k + 1, by omega, by go_num, hbn⟩
      case measure => simp [intOf]; omega
    · have k1 : ¬ (k : Int) < (L.length : Int) := by omega
      go_wp2
      go_ret
      exact ⟨rfl, hbe⟩
end Go.Proofs.YtbkiijndhjmkdaaGreatDoor
/- The law's sameSlot: two slots that are alike. -/
namespace Go.Proofs.YtbkiijndhjmkdaaGreatDoor
open Go.RowKit

set_option maxRecDepth 100000 in
set_option maxHeartbeats 1000000 in
theorem sameslot_any (r : SlotR) (wa pa wb pb : Option Addr) (wc pc wd pd : Nat) (w : World) (hwl : r.sig.wots.length ≤ maxLen) (hpl : r.sig.path.length ≤ maxLen)
    (hx : SlotM ⟨r, wa, wc, pa, pc⟩ w) (hy : SlotM ⟨r, wb, wd, pb, pd⟩ w) :
    Calls Tryz.prog 39 #[slotV ⟨r, wa, wc, pa, pc⟩, slotV ⟨r, wb, wd, pb, pd⟩] w fun e w' => e = .returned (.bool true) ∧ Below w.heap.size w w' := by
  obtain ⟨l, sg, ⟨ix, ws, ps⟩⟩ := r
  simp only at hwl hpl
  have hb0 : Below w.heap.size w ((w.alloc (.cells #[.int .u64 (l : Int), .bool sg, .int .u64 (ix : Int), .slice wa ws.length wc, .slice pa ps.length pc] 48)).alloc (.cells #[.int .u64 (l : Int), .bool sg, .int .u64 (ix : Int), .slice wb ws.length wd, .slice pb ps.length pd] 48)) := (by0 w _).alloc (by simp) _
  have hz0 : ((w.alloc (.cells #[.int .u64 (l : Int), .bool sg, .int .u64 (ix : Int), .slice wa ws.length wc, .slice pa ps.length pc] 48)).alloc (.cells #[.int .u64 (l : Int), .bool sg, .int .u64 (ix : Int), .slice wb ws.length wd, .slice pb ps.length pd] 48)).heap.size = w.heap.size + 1 + 1 := by simp
  have hx0 : ((w.alloc (.cells #[.int .u64 (l : Int), .bool sg, .int .u64 (ix : Int), .slice wa ws.length wc, .slice pa ps.length pc] 48)).alloc (.cells #[.int .u64 (l : Int), .bool sg, .int .u64 (ix : Int), .slice wb ws.length wd, .slice pb ps.length pd] 48)).heap[w.heap.size]? = some (.cells #[.int .u64 (l : Int), .bool sg, .int .u64 (ix : Int), .slice wa ws.length wc, .slice pa ps.length pc] 48 (0, 0)) := lit_old _ (heap_alloc_new w _)
  have hr0 : ((w.alloc (.cells #[.int .u64 (l : Int), .bool sg, .int .u64 (ix : Int), .slice wa ws.length wc, .slice pa ps.length pc] 48)).alloc (.cells #[.int .u64 (l : Int), .bool sg, .int .u64 (ix : Int), .slice wb ws.length wd, .slice pb ps.length pd] 48)).heap[w.heap.size + 1]? = some (.cells #[.int .u64 (l : Int), .bool sg, .int .u64 (ix : Int), .slice wb ws.length wd, .slice pb ps.length pd] 48 (0, 0)) := by
    rw [show w.heap.size + 1 = (w.alloc (.cells #[.int .u64 (l : Int), .bool sg, .int .u64 (ix : Int), .slice wa ws.length wc, .slice pa ps.length pc] 48)).heap.size by simp]; exact heap_alloc_new _ _
  have HB := Lib.hid hb0
  have HX := Lib.hid hx0
  have HR := Lib.hid hr0
  have HZ := Lib.hid hz0
  have HT1 := Lib.hid (fun (wz : World) (hb : Below w.heap.size w wz) => same_any wa wb wc wd ws wz hwl (hx.ws.below (Nat.le_refl _) hb) (hy.ws.below (Nat.le_refl _) hb))
  have HT2 := Lib.hid (fun (wz : World) (hb : Below w.heap.size w wz) => same_any pa pb pc pd ps wz hpl (hx.ps.below (Nat.le_refl _) hb) (hy.ps.below (Nat.le_refl _) hb))
  clear hb0 hx0 hr0 hz0 hwl hpl hx hy
  go_enter Tryz.func39, Tryz.ntmps39
  go_upto_region 1 with fail
  change Code.wp _ _ _ _ ((w.alloc (.cells #[.int .u64 (l : Int), .bool sg, .int .u64 (ix : Int), .slice wa ws.length wc, .slice pa ps.length pc] 48)).alloc (.cells #[.int .u64 (l : Int), .bool sg, .int .u64 (ix : Int), .slice wb ws.length wd, .slice pb ps.length pd] 48))
  generalize (w.alloc (.cells #[.int .u64 (l : Int), .bool sg, .int .u64 (ix : Int), .slice wa ws.length wc, .slice pa ps.length pc] 48)).alloc (.cells #[.int .u64 (l : Int), .bool sg, .int .u64 (ix : Int), .slice wb ws.length wd, .slice pb ps.length pd] 48) = w1 at *
  have a0 := (lit_cell HX.out 0).trans rfl; have a1 := (lit_cell HX.out 1).trans rfl; have a2 := (lit_cell HX.out 2).trans rfl; have a3 := (lit_cell HX.out 3).trans rfl; have a4 := (lit_cell HX.out 4).trans rfl
  have b0 := (lit_cell HR.out 0).trans rfl; have b1 := (lit_cell HR.out 1).trans rfl; have b2 := (lit_cell HR.out 2).trans rfl; have b3 := (lit_cell HR.out 3).trans rfl; have b4 := (lit_cell HR.out 4).trans rfl
  have hz := HZ.out
  go_wp2_with (first
    | (go_at_call 76; with_reducible refine (HT1.out _ HB.out).mono ?_; rintro e w2 ⟨rfl, hb2⟩; have hX2 := (hb2.block w.heap.size (by omega)).trans HX.out; have hR2 := (hb2.block (w.heap.size + 1) (by omega)).trans HR.out; have c4 := (lit_cell hX2 4).trans rfl; have d4 := (lit_cell hR2 4).trans rfl; have hb02 := HB.out.trans (hb2.mono (by omega)))
    | (go_at_call 76; with_reducible refine (HT2.out _ hb02).mono ?_; rintro e w3 ⟨rfl, hb3⟩))
  go_ret
  exact ⟨rfl, hb02.trans (hb3.mono (by have := hb02.size; omega))⟩
end Go.Proofs.YtbkiijndhjmkdaaGreatDoor
