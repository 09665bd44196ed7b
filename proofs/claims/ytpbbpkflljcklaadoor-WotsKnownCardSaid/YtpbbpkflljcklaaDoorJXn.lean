/- WotsKnown: its walk. -/
import Derived.Test.YtpbbpkflljcklaaDoorJXg
import Derived.Test.YtpbbpkflljcklaaDoorJXi0
import Derived.Test.YtpbbpkflljcklaaDoorJXn0
import Derived.Test.YtpbbpkflljcklaaDoorJ5
import Derived.Test.YtpbbpkflljcklaaDoorJ6
import Derived.Deep.RegionHeld3
namespace Go.Proofs.YtpbbpkflljcklaaDoor
open Go.RowKit

theorem byte_set (Q : (List UInt8)) (j : Nat) (v : UInt8) : (bytesC Q).toArray.setIfInBounds j (.int .u8 (v.toNat : Int)) = (bytesC (Q.set j v)).toArray := by
  simp [bytesC, List.map_set]
set_option maxRecDepth 100000 in
set_option maxHeartbeats 8000000 in
theorem wotsKnown_any (C : WotsC) (CC : ChainC) (HWK : WorksW) (w : World) (hg : Glob w) :
    Calls Tryd.prog 7 #[] w fun e w' => e = .returned (.bool true) ∧ Below w.heap.size w w' := by
  have HGB := Lib.hid (fun wz (h : Below w.heap.size w wz) => hg.below hg.size h)
  obtain ⟨F, hF⟩ : ∃ F, F = fT := ⟨_, rfl⟩
  have hfl : F.length = 32 := by rw [hF]; exact fT_len
  obtain ⟨L, hL⟩ : ∃ L, L = sigL sdT bigN F := ⟨_, rfl⟩
  have hll : L.length = 67 := by rw [hL, hF]; exact fsig_len
  have hls : ∀ t ∈ L, t.length ≤ 1000 := fun t ht => by rw [hL] at ht; exact Nat.le_trans (sig_short _ _ _ t ht) (by decide)
  have HLL := Lib.hid hll
  have HFL := Lib.hid hfl
  have HSG := Lib.hid (fun wz (h : Below w.heap.size w wz) => show Calls Tryd.prog 8 #[.string ⟨#[115, 101, 101, 100]⟩, .int .u64 18446744073709551615, .string ⟨F.toArray⟩] wz fun e w' => ∃ ao cp, e = .returned (.tuple #[.slice ao 67 cp, .int .i64 0]) ∧ Strs ao L w' ∧ 67 ≤ cp ∧ Below wz.heap.size wz w' by
    have := C.s sdT bigN F wz (HGB.out wz h) (by decide) (by decide) (by omega)
    rw [signC_yes hfl, ← hL, hll] at this
    exact this)
  have HSE := Lib.hid (fun (k : Nat) (hk : k < 67) wz (h : Below w.heap.size w wz) => show Calls Tryd.prog 20 #[.agg #[.string ⟨#[115, 101, 101, 100]⟩, .int .u64 18446744073709551615], .int .i64 (k : Int)] wz fun e w' => e = .returned (.string ⟨(secF sdT bigN k).toArray⟩) ∧ Below wz.heap.size wz w' from lsecret_any sdT bigN k wz (HGB.out wz h) (by decide) (by omega))
  have HR0 := Lib.hid (fun wz (h : Below w.heap.size w wz) => show Calls Tryd.prog 14 #[.slice none 0 0, .string ⟨#[]⟩] wz fun e w' => e = .returned (.tuple #[.string ⟨#[]⟩, .int .i64 2]) ∧ Below wz.heap.size wz w' by
    have := C.r [] none 0 [] wz (HGB.out wz h) (.inl rfl) (by decide) (fun x hx => by cases hx) (by decide)
    rw [zrec_nil] at this
    exact this)
  have HR1 := Lib.hid (fun wz (h : Below w.heap.size w wz) => show Calls Tryd.prog 14 #[.slice none 0 0, .string ⟨F.toArray⟩] wz fun e w' => e = .returned (.tuple #[.string ⟨#[]⟩, .int .i64 10]) ∧ Below wz.heap.size wz w' by
    have := C.r [] none 0 F wz (HGB.out wz h) (.inl rfl) (by decide) (fun x hx => by cases hx) (by omega)
    rw [hF, frec_nil, ← hF] at this
    exact this)
  obtain ⟨Z, hZ⟩ : ∃ Z, Z = padT [] := ⟨_, rfl⟩
  have hzl : Z.length = 32 := by rw [hZ]; exact padT_len _
  have HDI := Lib.hid (fun wz => show Calls Tryd.prog 17 #[.string ⟨#[]⟩] wz fun e w' => e = .returned (.string ⟨Z.toArray⟩) ∧ Below wz.heap.size wz w' by rw [hZ]; exact digest13_any [] wz (Nat.zero_le _))
  have HR2 := Lib.hid (fun wz g cp (h : Below w.heap.size w wz) (hS : Strs (some ⟨g, 0, none⟩) (L ++ [Z]) wz) => show Calls Tryd.prog 14 #[.slice (some ⟨g, 0, none⟩) 68 cp, .string ⟨F.toArray⟩] wz fun e w' => e = .returned (.tuple #[.string ⟨#[]⟩, .int .i64 10]) ∧ Below wz.heap.size wz w' by
    have hl : (L ++ [Z]).length = 68 := by rw [List.length_append, hll]; rfl
    have := C.r (L ++ [Z]) _ cp F wz (HGB.out wz h) hS (by omega) (fun x hx => by
      rcases List.mem_append.1 hx with h | h
      · exact hls x h
      · simp at h; rw [h, hzl]; decide) (by omega)
    rw [show recC (L ++ [Z]) F = ([], 10) by rw [hL, hF]; exact frec_68 Z, hl] at this
    exact this)
  obtain ⟨P, hP⟩ : ∃ P, P = pubF [] 0 := ⟨_, rfl⟩
  have hpl : (P.length : Int) = 32 := by have : P.length = 32 := by rw [hP]; exact fpub_len
                                         omega
  have HPU := Lib.hid (fun wz (h : Below w.heap.size w wz) => show Calls Tryd.prog 10 #[.string ⟨#[]⟩, .int .u64 0] wz fun e w' => e = .returned (.string ⟨P.toArray⟩) ∧ Below wz.heap.size wz w' by rw [hP]; exact C.p [] 0 wz (HGB.out wz h) (by decide) (by decide))
  have HWO := Lib.hid (fun wz (h : Below w.heap.size w wz) => HWK wz (HGB.out wz h))
  have hgd : ∀ (k : Nat) (hk : k < L.length), L[k] = L.getD k [] := fun k hk => by rw [List.getD_eq_getElem?_getD, List.getElem?_eq_getElem hk]; rfl
  have HLA := Lib.hid (fun (k : Nat) (hk : k < L.length) (h : k < 64) => show L[k] = walkV k 0 15 (secF sdT bigN k) by rw [hgd k hk, hL, hF]; exact fsig_at k h)
  have HL64 := Lib.hid (fun (hk : 64 < L.length) => show L[64] = secF sdT bigN 64 by rw [hgd _ hk, hL, hF]; exact fsig_64)
  have HL65 := Lib.hid (fun (hk : 65 < L.length) => show L[65] = secF sdT bigN 65 by rw [hgd _ hk, hL, hF]; exact fsig_65)
  have HL66 := Lib.hid (fun (hk : 66 < L.length) => show L[66] = secF sdT bigN 66 by rw [hgd _ hk, hL, hF]; exact fsig_66)
  have HW := Lib.hid (fun (k : Nat) wz (h : Below w.heap.size w wz) => show Calls Tryd.prog 19 #[.int .i64 (k : Int), .int .i64 0, .int .i64 15, .string ⟨(secF sdT bigN k).toArray⟩] wz fun e w' => e = .returned (.string ⟨(walkV k 0 15 (secF sdT bigN k)).toArray⟩) ∧ Below wz.heap.size wz w' from CC.k k 0 15 (secF sdT bigN k) wz (HGB.out wz h) (by have := secF_len sdT bigN k; omega))
  have hmk := fun w => show (Instr.makeSlice 33 (.int .i64 32) (.int .i64 32)).run Tryd.prog w = .ok (.slice (some ⟨w.heap.size, 0, none⟩) 32 32) (w.alloc (.cells (bytesC (repF 0)).toArray 5)) from make_bytes 32 (by decide) w
  have HRS := Lib.hid repF_set
  have HRL := Lib.hid repF_len
  have HRE := Lib.hid (show repF 32 = F by rw [hF]; exact repF_32)
  have K := Lib.hid (W13.start w #[.string ⟨#[115, 101, 101, 100]⟩, .int .u64 18446744073709551615])
  clear hF hL hls hZ hzl hP hgd hg hfl
  go_enter Tryd.func7, Tryd.ntmps7
  go_upto_region 2 with fail
  change Code.wp _ _ _ _ (w.alloc (.cells #[.string ⟨#[115, 101, 101, 100]⟩, .int .u64 18446744073709551615] 24))
  have hw1 : (w.alloc (.cells #[.string ⟨#[115, 101, 101, 100]⟩, .int .u64 18446744073709551615] 24)).heap.size = w.heap.size + 1 := by rw [World.size_alloc]
  generalize w.alloc (.cells #[.string ⟨#[115, 101, 101, 100]⟩, .int .u64 18446744073709551615] 24) = w1 at *
  have HBF := Lib.hid (show (w1.alloc (.cells (bytesC (repF 0)).toArray 5)).heap[w.heap.size + 1]? = some (.cells (bytesC (repF 0)).toArray 5 (0, 0)) by rw [← hw1]; exact heap_alloc_new _ _)
  have K := Lib.hid (K.out.next (by0 w1 (.cells (bytesC (repF 0)).toArray 5)))
  go_upto_region 4 with fail
  clear hmk hw1
  generalize w1.alloc (.cells (bytesC (repF 0)).toArray 5) = w2 at *
  go_loopw [3] (fun v3 wr => ∃ k : Nat, k ≤ 32 ∧ v3 = .int .i64 (k : Int) ∧ Hid (wr.heap[w.heap.size + 1]? = some (.cells (bytesC (repF k)).toArray 5 (0, 0))) ∧ Hid (W13 w #[.string ⟨#[115, 101, 101, 100]⟩, .int .u64 18446744073709551615] wr)) (fun v3 _ => 32 - (intOf v3).toNat)
  case atStart => exact ⟨0, Nat.zero_le _, rfl, HBF, K⟩
  case round =>
    obtain ⟨k, hk, rfl, HB, K⟩ := hrel
    by_cases hlt : k < 32
    · have k1 : (k : Int) < 32 := by omega
      have k0 : (0 : Int) ≤ (k : Int) := by omega
      have HLT := Lib.hid hlt
      have hcell : wr.cell? ⟨w.heap.size + 1, k, none⟩ = some (.int .u8 ((((repF k)[k]'(by rw [HRL.out k hk]; exact hlt)).toNat : Nat) : Int)) := bytes_cell HB.out k (by rw [HRL.out k hk]; exact hlt)
      generalize (repF k)[k]'(by rw [HRL.out k hk]; exact hlt) = q at *
      have hf := lit_free HB.out k
      have hs := lit_set (k := k) (.int .u8 255) HB.out
      rw [show (Value.int .u8 255) = .int .u8 (((255 : UInt8).toNat : Nat) : Int) from rfl, byte_set, HRS.out k hlt] at hs
      have HS := Lib.hid (show (wr.setCell ⟨w.heap.size + 1, k, none⟩ (.int .u8 255)).heap[w.heap.size + 1]? = some (.cells (bytesC (repF (k + 1))).toArray 5 (0, 0)) from hs)
      have KS := Lib.hid (show W13 w #[.string ⟨#[115, 101, 101, 100]⟩, .int .u64 18446744073709551615] (wr.setCell ⟨w.heap.size + 1, k, none⟩ (.int .u8 255)) from ⟨K.out.o.setCell (Nat.le_succ _) _, (lit_far _ (by omega)).trans K.out.x⟩)
      clear hs hlt hk HB K
      go_wp2
      go_roundw
      case rel => exact ⟨k + 1, HLT.out, by go_num, HS, KS⟩
      case measure => have := HLT.out; simp [intOf]; omega
    · have k1 : ¬ (k : Int) < 32 := by omega
      have ek : k = 32 := by omega
      rw [ek, HRE.out] at HB
      clear ek hlt hk HBF HRS HRL HRE
      have hcvF : ∀ wz : World, wz.heap[w.heap.size + 1]? = some (.cells (bytesC F).toArray 5 (0, 0)) → (convert 33 9 (.slice (some ⟨w.heap.size + 1, 0, none⟩) 32 32)).run Tryd.prog wz = .ok (.string ⟨F.toArray⟩) wz := by
        intro wz hz
        have := conv_bytes F (w.heap.size + 1) 32 wz (fun j hj => bytes_cell hz j hj)
        rwa [HFL.out] at this
      have HCV := Lib.hid hcvF
      clear hcvF
      obtain ⟨c0, c1⟩ := K.out.get
      have hcv1 := HCV.out _ HB.out
      go_upto_region 8 with (go_at_call 8; with_reducible refine (HSG.out _ K.out.o).mono ?_; rintro e w3 ⟨sa, sc, rfl, ha, hcap, hb3⟩; have K := Lib.hid (K.out.next hb3); have HB := Lib.hid ((hb3.block _ (lit_lt HB.out)).trans HB.out); have SA := Lib.hid ha; clear ha hb3 c0 c1 hcv1)
      go_upto_region 9 with (go_at_call 14; with_reducible refine (HR0.out _ K.out.o).mono ?_; rintro e w4 ⟨rfl, hb4⟩; have K := Lib.hid (K.out.next hb4); have HB := Lib.hid ((hb4.block _ (lit_lt HB.out)).trans HB.out); have SA := Lib.hid (SA.out.below (Nat.le_refl _) hb4); clear hb4)
      have hcv1 := HCV.out _ HB.out
      go_upto_region 10 with (go_at_call 14; with_reducible refine (HR1.out _ K.out.o).mono ?_; rintro e w5 ⟨rfl, hb5⟩; have K := Lib.hid (K.out.next hb5); have HB := Lib.hid ((hb5.block _ (lit_lt HB.out)).trans HB.out); have SA := Lib.hid (SA.out.below (Nat.le_refl _) hb5); clear hb5 hcv1)
      obtain ⟨b1, q1, rfl, -⟩ := SA.out.cell 0 (by rw [HLL.out]; decide)
      clear HSG HR0 HR1
      obtain ⟨wd, hwd⟩ : ∃ wd, wd = w5.drew := ⟨_, rfl⟩
      have hbd : Below w5.heap.size w5 wd := by rw [hwd]; exact (Below.refl _ _).drew
      have hcA := HCV.out wd ((hbd.block _ (lit_lt HB.out)).trans HB.out)
      have hcB : ∀ o, (convert 33 9 (.slice (some ⟨w.heap.size + 1, 0, none⟩) 32 32)).run Tryd.prog (wd.alloc o) = .ok (.string ⟨F.toArray⟩) (wd.alloc o) := fun o => HCV.out _ (lit_old _ ((hbd.block _ (lit_lt HB.out)).trans HB.out))
      rw [hwd] at hcA hcB
      have hcC : ∀ o, (convert 33 9 (.slice (some ⟨w.heap.size + 1, 0, none⟩) 32 32)).run Tryd.prog (w5.alloc o).drew = .ok (.string ⟨F.toArray⟩) (w5.alloc o).drew := fun o => HCV.out _ (lit_old _ HB.out)
      have HCL := Lib.hid (show ∀ i (h : i < L.length), w5.drew.cell? ⟨b1, q1 + i, none⟩ = some (.string ⟨L[i].toArray⟩) from fun i h => by
        obtain ⟨b2, o2, e2, hc⟩ := (strs_drew SA.out).cell i h
        cases e2
        exact hc)
      clear hwd hbd
      have KD := Lib.hid K.out.drew
      have HBD := Lib.hid (show w5.drew.heap[w.heap.size + 1]? = some (.cells (bytesC F).toArray 5 (0, 0)) from HB.out)
      go_cut [10, 11] from 42 (fun s10 s11 wx => s10 = .string ⟨#[]⟩ ∧ s11 = .int .i64 10 ∧ Hid (Below w5.heap.size w5 wx))
      case first =>
        go_region_law (first
          | (refine step_append_all_n HLL.out rfl (.tmp 43) (.tmp 44) rfl rfl rfl HCL.out (by rw [HLL.out]; decide) (by rw [HLL.out]; decide) ?_; intro g cp w6 ho6 hb6 _; have HO6 := Lib.hid ho6; have HB6 := Lib.hid hb6; have hc6 := HCV.out w6 ((hb6.block _ (lit_lt HBD.out)).trans HBD.out); clear ho6 hb6)
          | (go_simp; go_at_call 17; with_reducible refine (HDI.out _).mono ?_; rintro e w7 ⟨rfl, hb7⟩; have HO7 := Lib.hid (trow_next HO6.out hb7); have HB7 := Lib.hid (below_next HB6.out hb7); have hc7 := HCV.out w7 ((HB7.out.block _ (lit_lt HBD.out)).trans HBD.out); have hc8 : ∀ o, (convert 33 9 (.slice (some ⟨w.heap.size + 1, 0, none⟩) 32 32)).run Tryd.prog (w7.alloc o) = .ok (.string ⟨F.toArray⟩) (w7.alloc o) := fun o => HCV.out _ (lit_old _ ((HB7.out.block _ (lit_lt HBD.out)).trans HBD.out)); clear hb7)
          | (refine step_append_txt_n (t := Z) HLL.out (m := 68) rfl rfl (.tmp 45) (.tmp 47) rfl rfl rfl HO7.out (by rw [HLL.out]; decide) HB7.out.size ?_; intro g9 c9 w9 ho9 hg9 _; have HO9 := Lib.hid ho9; have HB9 := Lib.hid (HB7.out.grown hg9 HB7.out.size (fun j e => (HO7.out.lt j e).1)); have hc9 := HCV.out w9 ((HB9.out.block _ (lit_lt HBD.out)).trans HBD.out); clear ho9 hg9)
          | (go_simp; go_at_call 14; with_reducible refine (HR2.out _ _ _ (KD.out.next HB9.out).o (trow_strs HO9.out (by simp [HLL.out])).1).mono ?_; rintro e wA ⟨rfl, hbA⟩; have HBA := Lib.hid (below_next HB9.out hbA); clear hbA))
        all_goals
          go_wp2
          go_meet
          exact ⟨rfl, rfl, Lib.hid ⟨HBA.out.os, HBA.out.tape, HBA.out.output, HBA.out.size, HBA.out.block⟩⟩
      case rest =>
        obtain ⟨rfl, rfl, HBX⟩ := hcut
        have K := Lib.hid (K.out.next HBX.out)
        have SA := Lib.hid (SA.out.below (Nat.le_refl _) HBX.out)
        clear HB KD HBD HCL hcA hcB hcC HCV HBX HDI HR2 hcap
        obtain ⟨wX, hwX⟩ : ∃ wX, wX = wc := ⟨_, rfl⟩
        subst hwX
        have HSC := Lib.hid (show ∀ i (h : i < L.length), wX.cell? ⟨b1, q1 + i, none⟩ = some (.string ⟨L[i].toArray⟩) from fun i h => by
          obtain ⟨b2, o2, e2, hc⟩ := SA.out.cell i h
          cases e2
          exact hc)
        clear SA
        go_upto_region 14 with fail
        go_loopw [12] (fun v12 wr => ∃ k : Nat, k ≤ 64 ∧ v12 = .int .i64 (k : Int) ∧ Hid (Below wX.heap.size wX wr)) (fun v12 _ => 64 - (intOf v12).toNat)
        case atStart => exact ⟨0, Nat.zero_le _, rfl, Lib.hid (Below.refl _ _)⟩
        case round =>
          obtain ⟨k, hk, rfl, HB⟩ := hrel
          by_cases hlt : k < 64
          · have k1 : (k : Int) < 64 := by omega
            have k2 : (k : Int) < 67 := by omega
            have k0 : (0 : Int) ≤ (k : Int) := by omega
            have HLT := Lib.hid hlt
            have hc := HSC.out k (by rw [HLL.out]; omega)
            rw [HLA.out k (by rw [HLL.out]; omega) hlt] at hc
            have HWk := Lib.hid (fun wz h => HW.out k wz h)
            have HSk := Lib.hid (fun wz h => HSE.out k (by omega) wz h)
            generalize walkV (k : Int) 0 15 (secF sdT bigN k) = y at *
            generalize secF sdT bigN k = x at *
            have KR := Lib.hid ((K.out.next HB.out).drew)
            have hS1 : (W13 w #[.string ⟨#[115, 101, 101, 100]⟩, .int .u64 18446744073709551615] wr.drew ∧ wr.drew.cell? ⟨w.heap.size, 0, none⟩ = some (.string ⟨#[115, 101, 101, 100]⟩) ∧ wr.drew.cell? ⟨w.heap.size, 1, none⟩ = some (.int .u64 18446744073709551615) ∧ wr.drew.cell? ⟨b1, q1 + k, none⟩ = some (.string ⟨y.toArray⟩) ∧ Below wX.heap.size wX wr.drew) := ⟨KR.out, KR.out.get.1, KR.out.get.2, key_keep HB.out.drew hc, HB.out.drew⟩
            have HST := Lib.hid (show ∀ wz wa, (W13 w #[.string ⟨#[115, 101, 101, 100]⟩, .int .u64 18446744073709551615] wz ∧ wz.cell? ⟨w.heap.size, 0, none⟩ = some (.string ⟨#[115, 101, 101, 100]⟩) ∧ wz.cell? ⟨w.heap.size, 1, none⟩ = some (.int .u64 18446744073709551615) ∧ wz.cell? ⟨b1, q1 + k, none⟩ = some (.string ⟨y.toArray⟩) ∧ Below wX.heap.size wX wz) → Below wz.heap.size wz wa → (W13 w #[.string ⟨#[115, 101, 101, 100]⟩, .int .u64 18446744073709551615] wa ∧ wa.cell? ⟨w.heap.size, 0, none⟩ = some (.string ⟨#[115, 101, 101, 100]⟩) ∧ wa.cell? ⟨w.heap.size, 1, none⟩ = some (.int .u64 18446744073709551615) ∧ wa.cell? ⟨b1, q1 + k, none⟩ = some (.string ⟨y.toArray⟩) ∧ Below wX.heap.size wX wa) from fun wz wa h hb => ⟨h.1.next hb, (h.1.next hb).get.1, (h.1.next hb).get.2, key_keep hb h.2.2.2.1, below_next h.2.2.2.2 hb⟩)
            have HSS := Lib.hid (fun wz (h : (W13 w #[.string ⟨#[115, 101, 101, 100]⟩, .int .u64 18446744073709551615] wz ∧ wz.cell? ⟨w.heap.size, 0, none⟩ = some (.string ⟨#[115, 101, 101, 100]⟩) ∧ wz.cell? ⟨w.heap.size, 1, none⟩ = some (.int .u64 18446744073709551615) ∧ wz.cell? ⟨b1, q1 + k, none⟩ = some (.string ⟨y.toArray⟩) ∧ Below wX.heap.size wX wz)) => HSk.out wz h.1.o)
            have HSW := Lib.hid (fun wz (h : (W13 w #[.string ⟨#[115, 101, 101, 100]⟩, .int .u64 18446744073709551615] wz ∧ wz.cell? ⟨w.heap.size, 0, none⟩ = some (.string ⟨#[115, 101, 101, 100]⟩) ∧ wz.cell? ⟨w.heap.size, 1, none⟩ = some (.int .u64 18446744073709551615) ∧ wz.cell? ⟨b1, q1 + k, none⟩ = some (.string ⟨y.toArray⟩) ∧ Below wX.heap.size wX wz)) => HWk.out wz h.1.o)
            clear hc KR HB HWk HSk hlt hk
            go_upto_region 16 with fail
            go_region_held3 (fun wz => (W13 w #[.string ⟨#[115, 101, 101, 100]⟩, .int .u64 18446744073709551615] wz ∧ wz.cell? ⟨w.heap.size, 0, none⟩ = some (.string ⟨#[115, 101, 101, 100]⟩) ∧ wz.cell? ⟨w.heap.size, 1, none⟩ = some (.int .u64 18446744073709551615) ∧ wz.cell? ⟨b1, q1 + k, none⟩ = some (.string ⟨y.toArray⟩) ∧ Below wX.heap.size wX wz))
              (first | (with_reducible assumption))
              (first
                | (go_at_call 20; with_reducible refine (HSS.out _ (by with_reducible assumption)).mono ?_; rintro e wa ⟨rfl, hba⟩; have hSa := HST.out _ _ (by with_reducible assumption) hba)
                | (go_at_call 19; with_reducible refine (HSW.out _ (by with_reducible assumption)).mono ?_; rintro e wb ⟨rfl, hbb⟩; have hSb := HST.out _ _ (by with_reducible assumption) hbb))
            all_goals
              have HBE := Lib.hid hSb.2.2.2.2
              clear HST HSS HSW hS1 hSa hSb
              go_wp2
              go_roundw
              case rel => exact ⟨k + 1, HLT.out, by go_num, HBE⟩
              case measure => have := HLT.out; simp [intOf]; omega
          · have k1 : ¬ (k : Int) < 64 := by omega
            have h64 := HSC.out 64 (by rw [HLL.out]; decide)
            have h65 := HSC.out 65 (by rw [HLL.out]; decide)
            have h66 := HSC.out 66 (by rw [HLL.out]; decide)
            rw [HL64.out (by rw [HLL.out]; decide)] at h64
            rw [HL65.out (by rw [HLL.out]; decide)] at h65
            rw [HL66.out (by rw [HLL.out]; decide)] at h66
            have HS64 := Lib.hid (fun wz h => HSE.out 64 (by decide) wz h)
            have HS65 := Lib.hid (fun wz h => HSE.out 65 (by decide) wz h)
            have HS66 := Lib.hid (fun wz h => HSE.out 66 (by decide) wz h)
            clear HL64 HL65 HL66 HLA HSE HW
            generalize secF sdT bigN 64 = y64 at *
            generalize secF sdT bigN 65 = y65 at *
            generalize secF sdT bigN 66 = y66 at *
            have KR := Lib.hid ((K.out.next HB.out).drew)
            have hS1 : (W13 w #[.string ⟨#[115, 101, 101, 100]⟩, .int .u64 18446744073709551615] wr.drew ∧ wr.drew.cell? ⟨w.heap.size, 0, none⟩ = some (.string ⟨#[115, 101, 101, 100]⟩) ∧ wr.drew.cell? ⟨w.heap.size, 1, none⟩ = some (.int .u64 18446744073709551615) ∧ wr.drew.cell? ⟨b1, q1 + 64, none⟩ = some (.string ⟨y64.toArray⟩) ∧ wr.drew.cell? ⟨b1, q1 + 65, none⟩ = some (.string ⟨y65.toArray⟩) ∧ wr.drew.cell? ⟨b1, q1 + 66, none⟩ = some (.string ⟨y66.toArray⟩)) := ⟨KR.out, KR.out.get.1, KR.out.get.2, key_keep HB.out.drew h64, key_keep HB.out.drew h65, key_keep HB.out.drew h66⟩
            have HST := Lib.hid (show ∀ wz wa, (W13 w #[.string ⟨#[115, 101, 101, 100]⟩, .int .u64 18446744073709551615] wz ∧ wz.cell? ⟨w.heap.size, 0, none⟩ = some (.string ⟨#[115, 101, 101, 100]⟩) ∧ wz.cell? ⟨w.heap.size, 1, none⟩ = some (.int .u64 18446744073709551615) ∧ wz.cell? ⟨b1, q1 + 64, none⟩ = some (.string ⟨y64.toArray⟩) ∧ wz.cell? ⟨b1, q1 + 65, none⟩ = some (.string ⟨y65.toArray⟩) ∧ wz.cell? ⟨b1, q1 + 66, none⟩ = some (.string ⟨y66.toArray⟩)) → Below wz.heap.size wz wa → (W13 w #[.string ⟨#[115, 101, 101, 100]⟩, .int .u64 18446744073709551615] wa ∧ wa.cell? ⟨w.heap.size, 0, none⟩ = some (.string ⟨#[115, 101, 101, 100]⟩) ∧ wa.cell? ⟨w.heap.size, 1, none⟩ = some (.int .u64 18446744073709551615) ∧ wa.cell? ⟨b1, q1 + 64, none⟩ = some (.string ⟨y64.toArray⟩) ∧ wa.cell? ⟨b1, q1 + 65, none⟩ = some (.string ⟨y65.toArray⟩) ∧ wa.cell? ⟨b1, q1 + 66, none⟩ = some (.string ⟨y66.toArray⟩)) from fun wz wa h hb => ⟨h.1.next hb, (h.1.next hb).get.1, (h.1.next hb).get.2, key_keep hb h.2.2.2.1, key_keep hb h.2.2.2.2.1, key_keep hb h.2.2.2.2.2⟩)
            have HSA := Lib.hid (fun wz (h : (W13 w #[.string ⟨#[115, 101, 101, 100]⟩, .int .u64 18446744073709551615] wz ∧ wz.cell? ⟨w.heap.size, 0, none⟩ = some (.string ⟨#[115, 101, 101, 100]⟩) ∧ wz.cell? ⟨w.heap.size, 1, none⟩ = some (.int .u64 18446744073709551615) ∧ wz.cell? ⟨b1, q1 + 64, none⟩ = some (.string ⟨y64.toArray⟩) ∧ wz.cell? ⟨b1, q1 + 65, none⟩ = some (.string ⟨y65.toArray⟩) ∧ wz.cell? ⟨b1, q1 + 66, none⟩ = some (.string ⟨y66.toArray⟩))) => show Calls Tryd.prog 20 #[.agg #[.string ⟨#[115, 101, 101, 100]⟩, .int .u64 18446744073709551615], .int .i64 64] wz fun e w' => e = .returned (.string ⟨y64.toArray⟩) ∧ Below wz.heap.size wz w' from HS64.out wz h.1.o)
            have HSB := Lib.hid (fun wz (h : (W13 w #[.string ⟨#[115, 101, 101, 100]⟩, .int .u64 18446744073709551615] wz ∧ wz.cell? ⟨w.heap.size, 0, none⟩ = some (.string ⟨#[115, 101, 101, 100]⟩) ∧ wz.cell? ⟨w.heap.size, 1, none⟩ = some (.int .u64 18446744073709551615) ∧ wz.cell? ⟨b1, q1 + 64, none⟩ = some (.string ⟨y64.toArray⟩) ∧ wz.cell? ⟨b1, q1 + 65, none⟩ = some (.string ⟨y65.toArray⟩) ∧ wz.cell? ⟨b1, q1 + 66, none⟩ = some (.string ⟨y66.toArray⟩))) => show Calls Tryd.prog 20 #[.agg #[.string ⟨#[115, 101, 101, 100]⟩, .int .u64 18446744073709551615], .int .i64 65] wz fun e w' => e = .returned (.string ⟨y65.toArray⟩) ∧ Below wz.heap.size wz w' from HS65.out wz h.1.o)
            have HSD := Lib.hid (fun wz (h : (W13 w #[.string ⟨#[115, 101, 101, 100]⟩, .int .u64 18446744073709551615] wz ∧ wz.cell? ⟨w.heap.size, 0, none⟩ = some (.string ⟨#[115, 101, 101, 100]⟩) ∧ wz.cell? ⟨w.heap.size, 1, none⟩ = some (.int .u64 18446744073709551615) ∧ wz.cell? ⟨b1, q1 + 64, none⟩ = some (.string ⟨y64.toArray⟩) ∧ wz.cell? ⟨b1, q1 + 65, none⟩ = some (.string ⟨y65.toArray⟩) ∧ wz.cell? ⟨b1, q1 + 66, none⟩ = some (.string ⟨y66.toArray⟩))) => show Calls Tryd.prog 20 #[.agg #[.string ⟨#[115, 101, 101, 100]⟩, .int .u64 18446744073709551615], .int .i64 66] wz fun e w' => e = .returned (.string ⟨y66.toArray⟩) ∧ Below wz.heap.size wz w' from HS66.out wz h.1.o)
            have HWS := Lib.hid (fun wz (h : (W13 w #[.string ⟨#[115, 101, 101, 100]⟩, .int .u64 18446744073709551615] wz ∧ wz.cell? ⟨w.heap.size, 0, none⟩ = some (.string ⟨#[115, 101, 101, 100]⟩) ∧ wz.cell? ⟨w.heap.size, 1, none⟩ = some (.int .u64 18446744073709551615) ∧ wz.cell? ⟨b1, q1 + 64, none⟩ = some (.string ⟨y64.toArray⟩) ∧ wz.cell? ⟨b1, q1 + 65, none⟩ = some (.string ⟨y65.toArray⟩) ∧ wz.cell? ⟨b1, q1 + 66, none⟩ = some (.string ⟨y66.toArray⟩))) => HWO.out wz h.1.o)
            have HPS := Lib.hid (fun wz (h : (W13 w #[.string ⟨#[115, 101, 101, 100]⟩, .int .u64 18446744073709551615] wz ∧ wz.cell? ⟨w.heap.size, 0, none⟩ = some (.string ⟨#[115, 101, 101, 100]⟩) ∧ wz.cell? ⟨w.heap.size, 1, none⟩ = some (.int .u64 18446744073709551615) ∧ wz.cell? ⟨b1, q1 + 64, none⟩ = some (.string ⟨y64.toArray⟩) ∧ wz.cell? ⟨b1, q1 + 65, none⟩ = some (.string ⟨y65.toArray⟩) ∧ wz.cell? ⟨b1, q1 + 66, none⟩ = some (.string ⟨y66.toArray⟩))) => HPU.out wz h.1.o)
            clear h64 h65 h66 HS64 HS65 HS66 KR HB hk hlt K HSC HWO HPU
            go_upto_region 18 with fail
            go_region_held3 (fun wz => (W13 w #[.string ⟨#[115, 101, 101, 100]⟩, .int .u64 18446744073709551615] wz ∧ wz.cell? ⟨w.heap.size, 0, none⟩ = some (.string ⟨#[115, 101, 101, 100]⟩) ∧ wz.cell? ⟨w.heap.size, 1, none⟩ = some (.int .u64 18446744073709551615) ∧ wz.cell? ⟨b1, q1 + 64, none⟩ = some (.string ⟨y64.toArray⟩) ∧ wz.cell? ⟨b1, q1 + 65, none⟩ = some (.string ⟨y65.toArray⟩) ∧ wz.cell? ⟨b1, q1 + 66, none⟩ = some (.string ⟨y66.toArray⟩)))
              (first | (with_reducible assumption))
              (first
                | (go_at_call 13; with_reducible refine (HWS.out _ (by with_reducible assumption)).mono ?_; rintro e wa ⟨rfl, hba⟩; have hSa := HST.out _ _ (by with_reducible assumption) hba)
                | (go_at_call 20; with_reducible refine (HSA.out _ (by with_reducible assumption)).mono ?_; rintro e wb ⟨rfl, hbb⟩; have hSb := HST.out _ _ (by with_reducible assumption) hbb)
                | (go_at_call 20; with_reducible refine (HSB.out _ (by with_reducible assumption)).mono ?_; rintro e we ⟨rfl, hbe⟩; have hSe := HST.out _ _ (by with_reducible assumption) hbe)
                | (go_at_call 20; with_reducible refine (HSD.out _ (by with_reducible assumption)).mono ?_; rintro e wf ⟨rfl, hbf⟩; have hSf := HST.out _ _ (by with_reducible assumption) hbf)
                | (go_at_call 10; with_reducible refine (HPS.out _ (by with_reducible assumption)).mono ?_; rintro e wg ⟨rfl, hbg⟩; have hSg := HST.out _ _ (by with_reducible assumption) hbg))
            all_goals
              have HF := Lib.hid hSg.1.o
              go_wp2
              exact bodyPost_ret (v := .bool true) (by simp [results, Tryd.results7, go_sem]) rfl ⟨rfl, HF.out⟩
end Go.Proofs.YtpbbpkflljcklaaDoor
