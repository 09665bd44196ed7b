/- The law's WireKnown. -/
import Derived.Test.YtbkiijndhjmkdaaGreatDoorJKu
namespace Go.Proofs.YtbkiijndhjmkdaaGreatDoor
open Go.RowKit

set_option maxRecDepth 100000 in
set_option maxHeartbeats 4000000 in
theorem wknown_any (w : World) (hG : GlobW w) (hgl : 4 ≤ w.heap.size) :
    Calls Tryz.prog 10 #[] w fun e w' => e = .returned (.bool true) ∧ Below w.heap.size w w' := by
  have K := Lib.hid (show Wk w w from ⟨hG, hgl, Below.refl _ _⟩)
  have HFA := Lib.hid (fun wz => full_any 97 wz)
  have HFB := Lib.hid (fun wz => full_any 98 wz)
  have HFC := Lib.hid (fun wz => full_any 99 wz)
  rw [show List.replicate 32 (97 : UInt8) = kA from rfl] at HFA
  rw [show List.replicate 32 (98 : UInt8) = kB from rfl] at HFB
  rw [show List.replicate 32 (99 : UInt8) = kC from rfl] at HFC
  have rDA := rc_DA; have rDB := rc_DB; have rDC := rc_DC
  clear hG hgl
  go_enter Tryz.func10, Tryz.ntmps10
  go_wp2_with fail
  refine (HFA.out _).mono ?_
  rintro e w1 ⟨rfl, b1⟩
  have K := Lib.hid (K.out.next b1)
  clear b1
  go_wp2_with fail
  refine (HFB.out _).mono ?_
  rintro e w2 ⟨rfl, b2⟩
  have K := Lib.hid (K.out.next b2)
  clear b2
  go_wp2_with fail
  refine (HFC.out _).mono ?_
  rintro e w3 ⟨rfl, b3⟩
  have K := Lib.hid (K.out.next b3)
  clear b3 HFA HFB HFC
  go_upto_region 4 with fail
  change Code.wp _ _ _ _ (((w3.alloc (.cells #[.string ⟨kA.toArray⟩] 9)).alloc (.cells #[.string ⟨kB.toArray⟩, .string ⟨kC.toArray⟩] 9)).alloc (.cells #[.int .u64 7, .slice (some ⟨w3.heap.size, 0, none⟩) 1 1, .slice (some ⟨w3.heap.size + 1, 0, none⟩) 2 2] 46))
  obtain ⟨h1, h2, h3, b4⟩ := k_three w3 (.cells #[.string ⟨kA.toArray⟩] 9) (.cells #[.string ⟨kB.toArray⟩, .string ⟨kC.toArray⟩] 9) (.cells #[.int .u64 7, .slice (some ⟨w3.heap.size, 0, none⟩) 1 1, .slice (some ⟨w3.heap.size + 1, 0, none⟩) 2 2] 46)
  generalize ((w3.alloc (.cells #[.string ⟨kA.toArray⟩] 9)).alloc (.cells #[.string ⟨kB.toArray⟩, .string ⟨kC.toArray⟩] 9)).alloc (.cells #[.int .u64 7, .slice (some ⟨w3.heap.size, 0, none⟩) 1 1, .slice (some ⟨w3.heap.size + 1, 0, none⟩) 2 2] 46) = w4 at *
  have K := Lib.hid (K.out.next b4)
  have p0 := (lit_cell h3 0).trans rfl; have p1 := (lit_cell h3 1).trans rfl; have p2 := (lit_cell h3 2).trans rfl
  have HS := Lib.hid (k_slot w4 _ _ K.out.g h1 h2)
  clear h1 h2 h3 b4 rDA rDB rDC
  go_upto_region 5 with (go_at_call 19; refine HS.out.mono ?_; rintro e w5 ⟨rfl, b5⟩; have K := Lib.hid (K.out.next b5); clear b5)
  clear p0 p1 p2 HS
  have r1 := rc_S1; have r2 := rc_S2; have r3 := rc_S3; have r4 := rc_SG
  go_upto_region 6 with fail
  clear r1 r2 r3 r4
  have HM := Lib.hid (k_msg w5 K.out.g)
  go_upto_region 7 with (go_at_call 30; refine HM.out.mono ?_; rintro e w6 ⟨rfl, b5⟩; have K := Lib.hid (K.out.next b5); clear b5)
  have HH := Lib.hid (k_hdr w6 K.out.g)
  clear HM
  go_upto_region 8 with (go_at_call 32; refine HH.out.mono ?_; rintro e w7 ⟨rfl, b5⟩; have K := Lib.hid (K.out.next b5); clear b5)
  have r1 := rc_P1; have r2 := rc_PT
  clear HH
  go_upto_region 9 with fail
  clear r1 r2
  have HK := Lib.hid (k_cert w7 K.out.g)
  go_upto_region 10 with (go_at_call 25; refine HK.out.mono ?_; rintro e w8 ⟨rfl, b5⟩; have K := Lib.hid (K.out.next b5); clear b5)
  clear HK
  have r1 := rc_W1; have r2 := rc_W2; have r3 := rc_W3; have r4 := rc_W4; have r5 := rc_W5; have r6 := rc_W6; have r7 := rc_W7; have r8 := rc_W8; have r9 := rc_W9; have r10 := rc_WN
  go_upto_region 11 with fail
  clear r1 r2 r3 r4 r5 r6 r7 r8 r9 r10
  have r1 := rc_X1; have r2 := rc_X2; have r3 := rc_M1; have r4 := rc_M2; have r5 := rc_M3; have r6 := rc_M4; have r7 := rc_H1; have r8 := rc_H2; have r9 := rc_H3; have r10 := rc_H4; have r11 := rc_H5
  go_upto_region 14 with fail
  clear r1 r2 r3 r4 r5 r6 r7 r8 r9 r10 r11
  have X := Lib.hid (Lp.start w8)
  have K8 := K
  clear K
  obtain ⟨i0, hi, hz0, hz1, hz2⟩ := info_parts Tryz.info9
  go_wp2
  go_loopw [19, 20, 21] (fun u v i wr => ∃ k : Nat, k ≤ 68 ∧ i = .int .i64 (k : Int) ∧ Hid (Lp w8 k (min k 17) u v wr))
    (fun _ _ i _ => 68 - (intOf i).toNat)
  case atStart => exact ⟨0, by omega, rfl, X⟩
  case round =>
    obtain ⟨k, hk, rfl, X⟩ := hrel
    by_cases hlt : k < 68
    · have k0 : (0 : Int) ≤ (k : Int) := by omega
      have k1 : (k : Int) < 68 := by omega
      go_upto_region 17 with fail
      have Q1 := Lib.hid (show k + 1 ≤ maxLen by unfold maxLen; omega)
      have Q2 := Lib.hid (show (k + 1) * 16 ≤ 140737488355328 by omega)
      have Q3 := Lib.hid (show w8.heap.size ≤ (wr.alloc (Obj.cells #[Value.string ⟨kA.toArray⟩] 9)).heap.size by have := X.out.o.size; simp; omega)
      have Q4 := Lib.hid (show (wr.alloc (Obj.cells #[Value.string ⟨kA.toArray⟩] 9)).heap.size = wr.heap.size + 1 by simp)
      go_upto_region 18 with (at_builtin; go_loud (refine wpList_append_lies _ rfl _ _ 44 rfl w8.heap.size 9 i0 _ 1 16 Tryz.underlying44 hi hz0 hz1 hz2 rfl (by omega) u20 k _ rfl (X.out.ov.alloc _) ⟨wr.heap.size, 0, none⟩ 1 1 [.string ⟨kA.toArray⟩] rfl rfl (news_new wr _ _) (by simp [Value.oneCell']) (by omega) Q1.out Q2.out Q3.out (wr.heap.size + 1) Q4.out ?_; intro g1 c1 wa hown1 hgrow hat hgl))
      have X2 := Lib.hid (X.out.addv hown1 hgrow hat)
      clear hown1 hgrow hat hgl X Q1 Q2 Q3 Q4
      obtain ⟨m, hm⟩ : ∃ m, min k 17 = m := ⟨_, rfl⟩
      have HM := Lib.hid hm
      rw [hm] at X2
      by_cases h17 : k < 17
      · have k2 : (k : Int) < 17 := by omega
        have hm17 : m < 17 := by omega
        go_upto_region 19 with fail
        have Q1 := Lib.hid (show m + 1 ≤ maxLen by unfold maxLen; omega)
        have Q2 := Lib.hid (show (m + 1) * 16 ≤ 140737488355328 by omega)
        have Q3 := Lib.hid (show w8.heap.size ≤ (wa.alloc (Obj.cells #[Value.string ⟨kA.toArray⟩] 9)).heap.size by have := X2.out.o.size; simp; omega)
        have Q4 := Lib.hid (show (wa.alloc (Obj.cells #[Value.string ⟨kA.toArray⟩] 9)).heap.size = wa.heap.size + 1 by simp)
        clear hm hm17
        go_upto_region 16 with (at_builtin; refine wpList_append_lies _ rfl _ _ 44 rfl w8.heap.size 9 i0 _ 1 16 Tryz.underlying44 hi hz0 hz1 hz2 rfl (by omega) u19 m _ rfl (X2.out.ou.alloc _) ⟨wa.heap.size, 0, none⟩ 1 1 [.string ⟨kA.toArray⟩] rfl rfl (news_new wa _ _) (by simp [Value.oneCell']) (by omega) Q1.out Q2.out Q3.out (wa.heap.size + 1) Q4.out ?_; intro g2 c2 wb hown1 hgrow hat hgl)
        have X3 := Lib.hid (X2.out.addu hown1 hgrow hat)
        clear hown1 hgrow hat hgl X2 Q1 Q2 Q3 Q4
        go_wp2
        go_roundw
        case rel => exact ⟨k + 1, by omega, by go_num, Lib.hid (by have e := HM.out; rw [show min (k + 1) 17 = m + 1 by omega]; exact X3.out)⟩
        case measure => simp [intOf]; omega
      · have k2 : ¬ (k : Int) < 17 := by omega
        clear hm
        go_wp2
        go_roundw
        case rel => exact ⟨k + 1, by omega, by go_num, Lib.hid (by have e := HM.out; rw [show min (k + 1) 17 = m by omega]; exact X2.out)⟩
        case measure => simp [intOf]; omega
    · obtain rfl : k = 68 := by omega
      have K := Lib.hid (K8.out.next X.out.o)
      obtain ⟨a, b, c, d, rfl, rfl, hc, hd, sa, sb⟩ := X.out.lists (by omega) (by omega)
      have SA := Lib.hid sa
      have SB := Lib.hid sb
      clear X sa sb hlt hk
      go_upto_region 20 with fail
      have HL := Lib.hid (show Calls Tryz.prog 19 #[.agg #[.int .u64 0, .bool false, .int .u64 0, .slice (some ⟨a, 0, none⟩) 68 c, .slice none 0 0]] wr fun e w' => (∃ x, e = .returned (.tuple #[.string x, .int .i64 2])) ∧ Below wr.heap.size wr w' from k_lists 68 0 2 (by omega) (by omega) _ none c 0 wr K.out.g SA.out (.inl rfl) (congrArg Prod.snd ek_n))
      go_upto_region 21 with (go_at_call 19; refine HL.out.mono ?_; rintro e w9 ⟨⟨x9, rfl⟩, b5⟩; have K := Lib.hid (K.out.next b5); have SA := Lib.hid (SA.out.below (Nat.le_refl _) b5); have SB := Lib.hid (SB.out.below (Nat.le_refl _) b5); clear b5)
      have HL := Lib.hid (show Calls Tryz.prog 19 #[.agg #[.int .u64 0, .bool false, .int .u64 0, .slice none 0 0, .slice (some ⟨b, 0, none⟩) 17 d]] w9 fun e w' => (∃ x, e = .returned (.tuple #[.string x, .int .i64 2])) ∧ Below w9.heap.size w9 w' from k_lists 0 17 2 (by omega) (by omega) none _ 0 d w9 K.out.g (.inl rfl) SB.out (congrArg Prod.snd ek_o))
      go_upto_region 22 with (go_at_call 19; refine HL.out.mono ?_; rintro e w10 ⟨⟨x10, rfl⟩, b5⟩; have K := Lib.hid (K.out.next b5); have SA := Lib.hid (SA.out.below (Nat.le_refl _) b5); have SB := Lib.hid (SB.out.below (Nat.le_refl _) b5); clear b5)
      clear HL
      have KD : Wk w w10.drew := K.out.next (Below.refl _ _).drew
      have SAD : Strs (some ⟨a, 0, none⟩) (List.replicate 68 kA) w10.drew := SA.out.below (Nat.le_refl _) (Below.refl _ _).drew
      have SBD : Strs (some ⟨b, 0, none⟩) (List.replicate 17 kA) w10.drew := SB.out.below (Nat.le_refl _) (Below.refl _ _).drew
      have HL := Lib.hid (show Calls Tryz.prog 19 #[.agg #[.int .u64 0, .bool false, .int .u64 0, .slice (some ⟨a, 0, none⟩) 67 c, .slice (some ⟨b, 0, none⟩) 16 d]] w10.drew fun e w' => (∃ x, e = .returned (.tuple #[.string x, .int .i64 0])) ∧ Below w10.drew.heap.size w10.drew w' from k_lists 67 16 0 (by omega) (by omega) _ _ c d w10.drew KD.g (strs_take SAD 67) (strs_take SBD 16) ek_p)
      have KD := Lib.hid KD
      have hc1 : (67 : Int) ≤ (c : Int) := by omega
      have hd1 : (16 : Int) ≤ (d : Int) := by omega
      clear hc hd SAD SBD SA SB
      go_cut [26, 27] from 207 (fun x11 y wx => (∃ s, x11 = .string s) ∧ y = .int .i64 0 ∧ Hid (Wk w wx))
      case first =>
        go_region_with
          (first | (go_at_call 19; with_reducible refine HL.out.mono ?_; rintro e w11 ⟨⟨x11, rfl⟩, b5⟩))
        all_goals go_wp2
        all_goals go_meet
        all_goals exact ⟨⟨_, rfl⟩, rfl, Lib.hid (KD.out.next b5)⟩
      case rest =>
      obtain ⟨⟨x11, rfl⟩, rfl, K⟩ := hcut
      clear HL hc1 hd1 KD
      have HL := Lib.hid (k_slotx wc K.out.g)
      go_upto_region 24 with (go_at_call 19; refine HL.out.mono ?_; rintro e w12 ⟨rfl, b5⟩; have K := Lib.hid (K.out.next b5); clear b5)
      have hmk : ∀ wz : World, (Instr.makeSlice 58 (.int .i64 641) (.int .i64 641)).run Tryz.prog wz = .ok (.slice (some ⟨wz.heap.size, 0, none⟩) 641 641) (wz.alloc (.cells (kZ 641) 22)) := fun wz => k_make 641 (by decide) wz
      have HL := Lib.hid (show Calls Tryz.prog 25 #[.agg #[.string ⟨kA.toArray⟩, .int .u64 0, .slice none 0 0, .slice (some ⟨w12.heap.size, 0, none⟩) 641 641, .slice none 0 0, .slice none 0 0]] (w12.alloc (.cells (kZ 641) 22)) fun e w' => (∃ x, e = .returned (.tuple #[.string x, .int .i64 2])) ∧ Below w12.heap.size w12 w' from k_coins 641 2 (by decide) w12 K.out.g (congrArg Prod.snd ek_r))
      go_upto_region 25 with (go_at_call 25; refine HL.out.mono ?_; rintro e w13 ⟨⟨x13, rfl⟩, b5⟩; have K := Lib.hid (K.out.next b5); clear b5)
      clear hmk
      have hmk : ∀ wz : World, (Instr.makeSlice 58 (.int .i64 640) (.int .i64 640)).run Tryz.prog wz = .ok (.slice (some ⟨wz.heap.size, 0, none⟩) 640 640) (wz.alloc (.cells (kZ 640) 22)) := fun wz => k_make 640 (by decide) wz
      have HL := Lib.hid (show Calls Tryz.prog 25 #[.agg #[.string ⟨kA.toArray⟩, .int .u64 0, .slice none 0 0, .slice (some ⟨w13.heap.size, 0, none⟩) 640 640, .slice none 0 0, .slice none 0 0]] (w13.alloc (.cells (kZ 640) 22)) fun e w' => (∃ x, e = .returned (.tuple #[.string x, .int .i64 0])) ∧ Below w13.heap.size w13 w' from k_coins 640 0 (by decide) w13 K.out.g ek_s)
      go_upto_region 26 with (go_at_call 25; refine HL.out.mono ?_; rintro e w14 ⟨⟨x14, rfl⟩, b5⟩; have K := Lib.hid (K.out.next b5); clear b5)
      clear hmk
      have HL := Lib.hid (k_certz w14 K.out.g)
      go_upto_region 27 with (go_at_call 25; refine HL.out.mono ?_; rintro e w15 ⟨rfl, b5⟩; have K := Lib.hid (K.out.next b5); clear b5)
      have HL := Lib.hid (k_hdr0 w15 K.out.g)
      go_upto_region 28 with (go_at_call 32; refine HL.out.mono ?_; rintro e w16 ⟨rfl, b5⟩; have K := Lib.hid (K.out.next b5); clear b5)
      clear HL
      go_upto_region 31 with fail
      change Code.wp _ _ _ _ (w16.alloc (.cells #[.string ⟨#[129, 161, 120, 1]⟩, .string ⟨#[130, 161, 108, 5, 161, 108, 5]⟩, .string ⟨#[129, 161, 103, 128]⟩, .string ⟨#[129, 161, 103, 129, 161, 112, 144]⟩, .string ⟨#[129, 161, 103, 129, 161, 112, 145, 196, 1, 120]⟩, .string ⟨#[129, 160, 1]⟩, .string ⟨#[129, 162, 108, 108, 1]⟩] 9))
      have hl3 := heap_alloc_new w16 (.cells #[.string ⟨#[129, 161, 120, 1]⟩, .string ⟨#[130, 161, 108, 5, 161, 108, 5]⟩, .string ⟨#[129, 161, 103, 128]⟩, .string ⟨#[129, 161, 103, 129, 161, 112, 144]⟩, .string ⟨#[129, 161, 103, 129, 161, 112, 145, 196, 1, 120]⟩, .string ⟨#[129, 160, 1]⟩, .string ⟨#[129, 162, 108, 108, 1]⟩] 9)
      have K := Lib.hid (K.out.next (by0 w16 (.cells #[.string ⟨#[129, 161, 120, 1]⟩, .string ⟨#[130, 161, 108, 5, 161, 108, 5]⟩, .string ⟨#[129, 161, 103, 128]⟩, .string ⟨#[129, 161, 103, 129, 161, 112, 144]⟩, .string ⟨#[129, 161, 103, 129, 161, 112, 145, 196, 1, 120]⟩, .string ⟨#[129, 160, 1]⟩, .string ⟨#[129, 162, 108, 108, 1]⟩] 9)))
      generalize w16.alloc (.cells #[.string ⟨#[129, 161, 120, 1]⟩, .string ⟨#[130, 161, 108, 5, 161, 108, 5]⟩, .string ⟨#[129, 161, 103, 128]⟩, .string ⟨#[129, 161, 103, 129, 161, 112, 144]⟩, .string ⟨#[129, 161, 103, 129, 161, 112, 145, 196, 1, 120]⟩, .string ⟨#[129, 160, 1]⟩, .string ⟨#[129, 162, 108, 108, 1]⟩] 9) = w17 at *
      generalize w16.heap.size = B at *
      have X := Lib.hid (And.intro K.out hl3)
      have HE := Lib.hid (show ∀ k : Nat, k < 7 → ∃ S : (List UInt8), (#[.string ⟨#[129, 161, 120, 1]⟩, .string ⟨#[130, 161, 108, 5, 161, 108, 5]⟩, .string ⟨#[129, 161, 103, 128]⟩, .string ⟨#[129, 161, 103, 129, 161, 112, 144]⟩, .string ⟨#[129, 161, 103, 129, 161, 112, 145, 196, 1, 120]⟩, .string ⟨#[129, 160, 1]⟩, .string ⟨#[129, 162, 108, 108, 1]⟩] : Array Value)[k]? = some (.string ⟨S.toArray⟩) ∧ wholeG slotC.get S = .error (5, 0) ∧ S.length ≤ 10 from fun k hk => by
        obtain rfl | rfl | rfl | rfl | rfl | rfl | rfl : k = 0 ∨ k = 1 ∨ k = 2 ∨ k = 3 ∨ k = 4 ∨ k = 5 ∨ k = 6 := by omega
        · exact ⟨_, rfl, ek_f0, by decide⟩
        · exact ⟨_, rfl, ek_f1, by decide⟩
        · exact ⟨_, rfl, ek_f2, by decide⟩
        · exact ⟨_, rfl, ek_f3, by decide⟩
        · exact ⟨_, rfl, ek_f4, by decide⟩
        · exact ⟨_, rfl, ek_f5, by decide⟩
        · exact ⟨_, rfl, ek_f6, by decide⟩)
      clear hl3 K
      generalize hFR : (#[.string ⟨#[129, 161, 120, 1]⟩, .string ⟨#[130, 161, 108, 5, 161, 108, 5]⟩, .string ⟨#[129, 161, 103, 128]⟩, .string ⟨#[129, 161, 103, 129, 161, 112, 144]⟩, .string ⟨#[129, 161, 103, 129, 161, 112, 145, 196, 1, 120]⟩, .string ⟨#[129, 160, 1]⟩, .string ⟨#[129, 162, 108, 108, 1]⟩] : Array Value) = FR at *
      clear hFR
      go_wp2
      go_loopw [39] (fun i wr => ∃ k : Nat, k ≤ 7 ∧ i = .int .i64 (k : Int) ∧ Hid (Wk w wr ∧ wr.heap[B]? = some (.cells FR 9 (0, 0))))
        (fun i _ => 7 - (intOf i).toNat)
      case atStart => exact ⟨0, by omega, rfl, X⟩
      case round =>
        obtain ⟨k, hk, rfl, X⟩ := hrel
        by_cases hlt : k < 7
        · obtain ⟨S, hS, hW, hSl⟩ := HE.out k hlt
          have hcell := (lit_cell X.out.2 k).trans hS
          have HR := Lib.hid (kslot_err hW wr X.out.1.g (by omega) X.out.1.gl)
          have k0 : (0 : Int) ≤ (k : Int) := by omega
          have k1 : (k : Int) < 7 := by omega
          clear hS hW hSl
          go_upto_region 35 with (go_at_call 21; refine HR.out.mono ?_; rintro e wd ⟨⟨v, rfl, hv⟩, b10⟩)
          change Code.wp _ _ _ _ (wd.alloc (.cells #[.int .u64 0, .bool false, .int .u64 0, .slice none 0 0, .slice none 0 0] 48))
          have hb := by0 wd (.cells #[.int .u64 0, .bool false, .int .u64 0, .slice none 0 0, .slice none 0 0] 48)
          have hv2 := hv.next hb
          have K2 := (X.out.1.next b10).next hb
          have hr2 := (hb.block B (Nat.lt_of_lt_of_le (lit_lt X.out.2) b10.size)).trans ((b10.block B (lit_lt X.out.2)).trans X.out.2)
          generalize wd.alloc (.cells #[.int .u64 0, .bool false, .int .u64 0, .slice none 0 0, .slice none 0 0] 48) = we at *
          have HT := Lib.hid (lawtold_any _ 5 0 0 v we K2.g.u.e hv2 (fun _ => rfl))
          have X2 := Lib.hid (And.intro K2 hr2)
          clear hb hv hv2 K2 hr2 b10 hcell HR X
          go_wp2_with fail
          refine HT.out.mono ?_
          rintro e wf ⟨rfl, b12⟩
          have X3 := Lib.hid (And.intro (X2.out.1.next b12) ((b12.block B (lit_lt X2.out.2)).trans X2.out.2))
          clear b12 HT
          go_wp2
          go_roundw
          case rel => exact ⟨k + 1, by omega, by go_num, X3⟩
          case measure => simp [intOf]; omega
        · have k1 : ¬ (k : Int) < 7 := by omega
          have K := Lib.hid X.out.1
          clear X HE hk hlt
          have HL := Lib.hid (kslot_err ek_long wr K.out.g (by decide) K.out.gl)
          go_upto_region 38 with (go_at_call 21; refine HL.out.mono ?_; rintro e wa0 ⟨⟨v0, rfl, hv⟩, b10⟩)
          change Code.wp _ _ _ _ (wa0.alloc (.cells #[.int .u64 0, .bool false, .int .u64 0, .slice none 0 0, .slice none 0 0] 48))
          have hb := by0 wa0 (.cells #[.int .u64 0, .bool false, .int .u64 0, .slice none 0 0, .slice none 0 0] 48)
          have V0 := Lib.hid (hv.next hb)
          have K := Lib.hid ((K.out.next b10).next hb)
          generalize wa0.alloc (.cells #[.int .u64 0, .bool false, .int .u64 0, .slice none 0 0, .slice none 0 0] 48) = wb0 at *
          clear hb hv b10 HL
          have HL := Lib.hid (kslot_err ek_short wb0 K.out.g (by decide) K.out.gl)
          go_upto_region 39 with (go_at_call 21; refine HL.out.mono ?_; rintro e wa1 ⟨⟨v1, rfl, hv⟩, b10⟩)
          change Code.wp _ _ _ _ (wa1.alloc (.cells #[.int .u64 0, .bool false, .int .u64 0, .slice none 0 0, .slice none 0 0] 48))
          have hb := by0 wa1 (.cells #[.int .u64 0, .bool false, .int .u64 0, .slice none 0 0, .slice none 0 0] 48)
          have V0 := Lib.hid ((V0.out.next b10).next hb)
          have V1 := Lib.hid (hv.next hb)
          have K := Lib.hid ((K.out.next b10).next hb)
          generalize wa1.alloc (.cells #[.int .u64 0, .bool false, .int .u64 0, .slice none 0 0, .slice none 0 0] 48) = wb1 at *
          clear hb hv b10 HL
          have HL := Lib.hid (kslot_err ek_other wb1 K.out.g (by decide) K.out.gl)
          go_upto_region 40 with (go_at_call 21; refine HL.out.mono ?_; rintro e wa2 ⟨⟨v2, rfl, hv⟩, b10⟩)
          change Code.wp _ _ _ _ (wa2.alloc (.cells #[.int .u64 0, .bool false, .int .u64 0, .slice none 0 0, .slice none 0 0] 48))
          have hb := by0 wa2 (.cells #[.int .u64 0, .bool false, .int .u64 0, .slice none 0 0, .slice none 0 0] 48)
          have V0 := Lib.hid ((V0.out.next b10).next hb)
          have V1 := Lib.hid ((V1.out.next b10).next hb)
          have V2 := Lib.hid (hv.next hb)
          have K := Lib.hid ((K.out.next b10).next hb)
          generalize wa2.alloc (.cells #[.int .u64 0, .bool false, .int .u64 0, .slice none 0 0, .slice none 0 0] 48) = wb2 at *
          clear hb hv b10 HL
          have HL := Lib.hid (kcert_err ek_huge wb2 K.out.g (by decide) K.out.gl)
          go_upto_region 41 with (go_at_call 27; refine HL.out.mono ?_; rintro e wa3 ⟨⟨v3, rfl, hv⟩, b10⟩)
          change Code.wp _ _ _ _ (wa3.alloc (.cells #[.string ⟨#[]⟩, .int .u64 0, .slice none 0 0, .slice none 0 0, .slice none 0 0, .slice none 0 0] 60))
          have hb := by0 wa3 (.cells #[.string ⟨#[]⟩, .int .u64 0, .slice none 0 0, .slice none 0 0, .slice none 0 0, .slice none 0 0] 60)
          have V0 := Lib.hid ((V0.out.next b10).next hb)
          have V1 := Lib.hid ((V1.out.next b10).next hb)
          have V2 := Lib.hid ((V2.out.next b10).next hb)
          have V3 := Lib.hid (hv.next hb)
          have K := Lib.hid ((K.out.next b10).next hb)
          generalize wa3.alloc (.cells #[.string ⟨#[]⟩, .int .u64 0, .slice none 0 0, .slice none 0 0, .slice none 0 0, .slice none 0 0] 60) = wb3 at *
          clear hb hv b10 HL
          have HT0 := Lib.hid (worksw_any wb3 K.out.g K.out.gl)
          have HT1 := Lib.hid (fun wz (hz : Below wb3.heap.size wb3 wz) => lawtold_any _ 3 0 0 v0 wz ((K.out.next hz).g.u.e) (V0.out.next hz) (fun _ => rfl))
          have HT2 := Lib.hid (fun wz (hz : Below wb3.heap.size wb3 wz) => lawtold_any _ 4 7 7 v1 wz ((K.out.next hz).g.u.e) (V1.out.next hz) (fun _ => rfl))
          have HT3 := Lib.hid (fun wz (hz : Below wb3.heap.size wb3 wz) => lawtold_any _ 5 3 3 v2 wz ((K.out.next hz).g.u.e) (V2.out.next hz) (fun _ => rfl))
          have HT4 := Lib.hid (fun wz (hz : Below wb3.heap.size wb3 wz) => lawtold_any _ 3 3 3 v3 wz ((K.out.next hz).g.u.e) (V3.out.next hz) (fun _ => rfl))
          go_wp2_with fail
          refine HT0.out.mono ?_
          rintro e wg0 ⟨rfl, h0⟩
          go_wp2_with fail
          refine (HT1.out _ h0).mono ?_
          rintro e wg1 ⟨rfl, g1⟩
          have h1 := h0.trans (g1.mono h0.size)
          go_wp2_with fail
          refine (HT2.out _ h1).mono ?_
          rintro e wg2 ⟨rfl, g2⟩
          have h2 := h1.trans (g2.mono h1.size)
          go_wp2_with fail
          refine (HT3.out _ h2).mono ?_
          rintro e wg3 ⟨rfl, g3⟩
          have h3 := h2.trans (g3.mono h2.size)
          go_wp2_with fail
          refine (HT4.out _ h3).mono ?_
          rintro e wg4 ⟨rfl, g4⟩
          have h4 := h3.trans (g4.mono h3.size)
          go_wp2
          go_ret
          exact ⟨rfl, (K.out.next h4).o⟩
end Go.Proofs.YtbkiijndhjmkdaaGreatDoor
