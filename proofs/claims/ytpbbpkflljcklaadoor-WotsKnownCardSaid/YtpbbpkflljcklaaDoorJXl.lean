/- The law's works. -/
import Derived.Test.YtpbbpkflljcklaaDoorJXl0
import Derived.Test.YtpbbpkflljcklaaDoorJXi0
import Derived.Test.YtpbbpkflljcklaaDoorJXg
import Derived.Test.YtpbbpkflljcklaaDoorJ5
import Derived.Deep.RegionHeld3
namespace Go.Proofs.YtpbbpkflljcklaaDoor
open Go.RowKit

set_option maxRecDepth 100000 in
set_option maxHeartbeats 8000000 in
theorem works13_any (C : WotsC) : WorksW := by
  intro w hg
  have HGB := Lib.hid (fun wz (h : Below w.heap.size w wz) => hg.below hg.size h)
  obtain ⟨Z, hZ⟩ : ∃ Z, Z = zT := ⟨_, rfl⟩
  obtain ⟨Z1, hZ1⟩ : ∃ Z1, Z1 = List.replicate 31 (0 : UInt8) := ⟨_, rfl⟩
  have hzl : Z.length = 32 := by rw [hZ]; exact zT_len
  have hzi : (Z.length : Int) = 32 := by omega
  obtain ⟨L, hL⟩ : ∃ L, L = sigL sT 3 Z := ⟨_, rfl⟩
  obtain ⟨P, hP⟩ : ∃ P, P = pubF sT 3 := ⟨_, rfl⟩
  have hll : L.length = 67 := by rw [hL, hZ]; exact zsig_len
  have hls : ∀ t ∈ L, t.length ≤ 1000 := fun t ht => by rw [hL] at ht; exact Nat.le_trans (sig_short _ _ _ t ht) (by decide)
  have HLL := Lib.hid hll
  -- the calls
  have HSG := Lib.hid (fun wz (h : Below w.heap.size w wz) => show Calls Tryd.prog 8 #[.string ⟨#[115]⟩, .int .u64 3, .string ⟨Z.toArray⟩] wz fun e w' => ∃ ao cp, e = .returned (.tuple #[.slice ao 67 cp, .int .i64 0]) ∧ Strs ao L w' ∧ 67 ≤ cp ∧ Below wz.heap.size wz w' by
    have := C.s sT 3 Z wz (HGB.out wz h) (by decide) (by decide) (by omega)
    rw [signC_yes hzl, ← hL, hll] at this
    exact this)
  have HSN := Lib.hid (fun wz (h : Below w.heap.size w wz) => show Calls Tryd.prog 8 #[.string ⟨#[115]⟩, .int .u64 3, .string ⟨Z1.toArray⟩] wz fun e w' => ∃ ao cp, e = .returned (.tuple #[.slice ao 0 cp, .int .i64 2]) ∧ Below wz.heap.size wz w' by
    have := C.s sT 3 Z1 wz (HGB.out wz h) (by decide) (by decide) (by rw [hZ1]; decide)
    rw [hZ1, zsign_1, ← hZ1] at this
    refine this.mono ?_
    rintro e w' ⟨ao, cp, h1, -, -, h2⟩
    exact ⟨ao, cp, h1, h2⟩)
  have HSE := Lib.hid (fun (k : Nat) (hk : k < 67) wz (h : Below w.heap.size w wz) => show Calls Tryd.prog 20 #[.agg #[.string ⟨#[115]⟩, .int .u64 3], .int .i64 (k : Int)] wz fun e w' => e = .returned (.string ⟨(secF sT 3 k).toArray⟩) ∧ Below wz.heap.size wz w' from lsecret_any sT 3 k wz (HGB.out wz h) (by decide) (by omega))
  have HR := Lib.hid (fun (g : List (List UInt8)) (cp : Nat) (ao : Option Addr) (d : (List UInt8)) wz (h : Below w.heap.size w wz) (hS : Strs ao g wz) (hl : g.length = 67 ∨ g.length = 66) (hgl : ∀ x ∈ g, x.length ≤ 1000) (hd : d.length ≤ 1000) => C.r g ao cp d wz (HGB.out wz h) hS (by omega) hgl hd)
  have HPU := Lib.hid (fun wz (h : Below w.heap.size w wz) => show Calls Tryd.prog 10 #[.string ⟨#[115]⟩, .int .u64 3] wz fun e w' => e = .returned (.string ⟨P.toArray⟩) ∧ Below wz.heap.size wz w' by rw [hP]; exact C.p sT 3 wz (HGB.out wz h) (by decide) (by decide))
  have HL66 := Lib.hid (fun (hk : 66 < L.length) => show L[66] = secF sT 3 66 by have := zsig_66; rw [← hZ, ← hL, List.getD_eq_getElem?_getD, List.getElem?_eq_getElem hk] at this; exact this)
  have HL0 := Lib.hid (fun (hk : 0 < L.length) => show L[0] = secF sT 3 0 by have := zsig_0; rw [← hZ, ← hL, List.getD_eq_getElem?_getD, List.getElem?_eq_getElem hk] at this; exact this)
  have HL5 := Lib.hid (fun (hk : 5 < L.length) => show L[5].length = 32 by have := zsig_5; rw [← hZ, ← hL, List.getD_eq_getElem?_getD, List.getElem?_eq_getElem hk] at this; exact this)
  have HC1 := Lib.hid (show recC L Z = (P, 0) by rw [hL, hP]; exact rec_back hzl)
  have HC2 := Lib.hid (show recC (L.take 66) Z = ([], 10) by rw [hL, hZ]; exact zrec_66)
  have HC3 := Lib.hid (fun x (hx : x.length = 31) => show recC (L.set 5 x) Z = ([], 10) by rw [hL, hZ]; exact zrec_5 x hx)
  have HLS := Lib.hid hls
  have hmk := fun w => show (Instr.makeSlice 33 (.int .i64 32) (.int .i64 32)).run Tryd.prog w = .ok (.slice (some ⟨w.heap.size, 0, none⟩) 32 32) (w.alloc (.cells (bytesC Z).toArray 5)) by rw [hZ]; exact make_bytes 32 (by decide) w
  have hcv : ∀ wz : World, (convert 33 9 (.slice (some ⟨wz.heap.size, 0, none⟩) 32 32)).run Tryd.prog (wz.alloc (.cells (bytesC Z).toArray 5)) = .ok (.string ⟨Z.toArray⟩) (wz.alloc (.cells (bytesC Z).toArray 5)) := by
    intro wz
    have := conv_bytes Z wz.heap.size 32 (wz.alloc (.cells (bytesC Z).toArray 5)) (fun j hj => bytes_cell (heap_alloc_new wz _) j hj)
    rwa [hzl] at this
  have hex : (⟨Z.toArray⟩ : ByteArray).extract 1 Z.length = ⟨Z1.toArray⟩ := by rw [hzl, hZ, hZ1]; decide
  have K := Lib.hid (W13.start w #[.string ⟨#[115]⟩, .int .u64 3])
  clear hZ hZ1 hP hL hls hll hg hzl
  go_enter Tryd.func13, Tryd.ntmps13
  go_upto_region 2 with fail
  change Code.wp _ _ _ _ (w.alloc (.cells #[.string ⟨#[115]⟩, .int .u64 3] 24))
  generalize w.alloc (.cells #[.string ⟨#[115]⟩, .int .u64 3] 24) = w1 at *
  have K := Lib.hid (K.out.next (by0 w1 (.cells (bytesC Z).toArray 5)))
  go_upto_region 3 with fail
  clear hmk hcv
  generalize w1.alloc (.cells (bytesC Z).toArray 5) = w2 at *
  go_upto_region 4 with (go_at_call 8; with_reducible refine (HSG.out _ K.out.o).mono ?_; rintro e w3 ⟨sa, sc, rfl, ha, hcap, hb3⟩; have K := Lib.hid (K.out.next hb3); have SA := Lib.hid ha; clear ha hb3)
  clear HSG
  go_upto_region 5 with (go_at_call 8; with_reducible refine (HSN.out _ K.out.o).mono ?_; rintro e w4 ⟨na, nc, rfl, hb4⟩; have K := Lib.hid (K.out.next hb4); have SA := Lib.hid (SA.out.below (Nat.le_refl _) hb4); clear hb4)
  clear HSN hex
  obtain ⟨b1, o1, rfl, h66⟩ := SA.out.cell 66 (by rw [HLL.out]; decide)
  rw [HL66.out (by rw [HLL.out]; decide)] at h66
  obtain ⟨b1', o1', e1, h0⟩ := SA.out.cell 0 (by rw [HLL.out]; decide)
  cases e1
  rw [HL0.out (by rw [HLL.out]; decide), Nat.add_zero] at h0
  have HS66 := Lib.hid (fun wz (h : Below w.heap.size w wz) => HSE.out 66 (by decide) wz h)
  have HS0 := Lib.hid (fun wz (h : Below w.heap.size w wz) => HSE.out 0 (by decide) wz h)
  generalize secF sT 3 66 = y66 at *
  generalize secF sT 3 0 = y0 at *
  clear HSE HL66 HL0
  have KD := Lib.hid K.out.drew
  have hS1 : (W13 w #[.string ⟨#[115]⟩, .int .u64 3] w4.drew ∧ w4.drew.cell? ⟨w.heap.size, 0, none⟩ = some (.string ⟨#[115]⟩) ∧ w4.drew.cell? ⟨w.heap.size, 1, none⟩ = some (.int .u64 3) ∧ w4.drew.cell? ⟨b1, o1 + 66, none⟩ = some (.string ⟨y66.toArray⟩) ∧ w4.drew.cell? ⟨b1, o1, none⟩ = some (.string ⟨y0.toArray⟩) ∧ Below w4.heap.size w4 w4.drew) := ⟨KD.out, KD.out.get.1, KD.out.get.2, h66, h0, (Below.refl _ _).drew⟩
  have HST := Lib.hid (show ∀ wz wa, (W13 w #[.string ⟨#[115]⟩, .int .u64 3] wz ∧ wz.cell? ⟨w.heap.size, 0, none⟩ = some (.string ⟨#[115]⟩) ∧ wz.cell? ⟨w.heap.size, 1, none⟩ = some (.int .u64 3) ∧ wz.cell? ⟨b1, o1 + 66, none⟩ = some (.string ⟨y66.toArray⟩) ∧ wz.cell? ⟨b1, o1, none⟩ = some (.string ⟨y0.toArray⟩) ∧ Below w4.heap.size w4 wz) → Below wz.heap.size wz wa → (W13 w #[.string ⟨#[115]⟩, .int .u64 3] wa ∧ wa.cell? ⟨w.heap.size, 0, none⟩ = some (.string ⟨#[115]⟩) ∧ wa.cell? ⟨w.heap.size, 1, none⟩ = some (.int .u64 3) ∧ wa.cell? ⟨b1, o1 + 66, none⟩ = some (.string ⟨y66.toArray⟩) ∧ wa.cell? ⟨b1, o1, none⟩ = some (.string ⟨y0.toArray⟩) ∧ Below w4.heap.size w4 wa) from fun wz wa h hb => ⟨h.1.next hb, (h.1.next hb).get.1, (h.1.next hb).get.2, key_keep hb h.2.2.2.1, key_keep hb h.2.2.2.2.1, below_next h.2.2.2.2.2 hb⟩)
  have HSS := Lib.hid (fun wz (h : (W13 w #[.string ⟨#[115]⟩, .int .u64 3] wz ∧ wz.cell? ⟨w.heap.size, 0, none⟩ = some (.string ⟨#[115]⟩) ∧ wz.cell? ⟨w.heap.size, 1, none⟩ = some (.int .u64 3) ∧ wz.cell? ⟨b1, o1 + 66, none⟩ = some (.string ⟨y66.toArray⟩) ∧ wz.cell? ⟨b1, o1, none⟩ = some (.string ⟨y0.toArray⟩) ∧ Below w4.heap.size w4 wz)) => show Calls Tryd.prog 20 #[.agg #[.string ⟨#[115]⟩, .int .u64 3], .int .i64 66] wz fun e w' => e = .returned (.string ⟨y66.toArray⟩) ∧ Below wz.heap.size wz w' from HS66.out wz h.1.o)
  have HST0 := Lib.hid (fun wz (h : (W13 w #[.string ⟨#[115]⟩, .int .u64 3] wz ∧ wz.cell? ⟨w.heap.size, 0, none⟩ = some (.string ⟨#[115]⟩) ∧ wz.cell? ⟨w.heap.size, 1, none⟩ = some (.int .u64 3) ∧ wz.cell? ⟨b1, o1 + 66, none⟩ = some (.string ⟨y66.toArray⟩) ∧ wz.cell? ⟨b1, o1, none⟩ = some (.string ⟨y0.toArray⟩) ∧ Below w4.heap.size w4 wz)) => show Calls Tryd.prog 20 #[.agg #[.string ⟨#[115]⟩, .int .u64 3], .int .i64 0] wz fun e w' => e = .returned (.string ⟨y0.toArray⟩) ∧ Below wz.heap.size wz w' from HS0.out wz h.1.o)
  have HSA := Lib.hid (fun wz (h : Below w4.heap.size w4 wz) => SA.out.below (Nat.le_refl _) h)
  have hc66 : (66 : Int) ≤ (sc : Int) := by omega
  have HRA := Lib.hid (fun wz (h : Below w.heap.size w wz) (hS : Strs (some ⟨b1, o1, none⟩) L wz) => show Calls Tryd.prog 14 #[.slice (some ⟨b1, o1, none⟩) 67 sc, .string ⟨Z.toArray⟩] wz fun e w' => e = .returned (.tuple #[.string ⟨P.toArray⟩, .int .i64 0]) ∧ Below wz.heap.size wz w' by
    have := HR.out L sc _ Z wz h hS (.inl HLL.out) HLS.out (by omega)
    rw [HC1.out, HLL.out] at this
    exact this)
  have HRB := Lib.hid (fun wz (h : Below w.heap.size w wz) (hS : Strs (some ⟨b1, o1, none⟩) L wz) => show Calls Tryd.prog 14 #[.slice (some ⟨b1, o1, none⟩) 66 sc, .string ⟨Z.toArray⟩] wz fun e w' => e = .returned (.tuple #[.string ⟨#[]⟩, .int .i64 10]) ∧ Below wz.heap.size wz w' by
    have hl : (L.take 66).length = 66 := by rw [List.length_take, HLL.out]; decide
    have := HR.out (L.take 66) sc _ Z wz h (strs_take hS 66) (.inr hl) (fun x hx => HLS.out x (List.mem_of_mem_take hx)) (by omega)
    rw [HC2.out, hl] at this
    exact this)
  have HRD := Lib.hid (fun wz (h : Below w.heap.size w wz) (hS : Strs (some ⟨b1, o1, none⟩) L wz) => show Calls Tryd.prog 14 #[.slice (some ⟨b1, o1, none⟩) 67 sc, .string ⟨#[]⟩] wz fun e w' => e = .returned (.tuple #[.string ⟨#[]⟩, .int .i64 2]) ∧ Below wz.heap.size wz w' by
    have := HR.out L sc _ [] wz h hS (.inl HLL.out) HLS.out (by decide)
    rw [zrec_nil, HLL.out] at this
    exact this)
  obtain ⟨x5, hx5⟩ : ∃ x5, x5 = L[5]'(by rw [HLL.out]; decide) := ⟨_, rfl⟩
  have hx5l : x5.length = 32 := by rw [hx5]; exact HL5.out (by rw [HLL.out]; decide)
  have hx5i : (x5.length : Int) = 32 := by omega
  obtain ⟨y5, hy5⟩ : ∃ y5, y5 = x5.take 31 := ⟨_, rfl⟩
  have hy5l : y5.length = 31 := by rw [hy5, List.length_take, hx5l]; decide
  have hex5 : (⟨x5.toArray⟩ : ByteArray).extract 0 31 = ⟨y5.toArray⟩ := by rw [extract_list, List.drop_zero, hy5]
  have HRC := Lib.hid (fun wz g cp (h : Below w.heap.size w wz) (hS : Strs (some ⟨g, 0, none⟩) (L.set 5 y5) wz) => show Calls Tryd.prog 14 #[.slice (some ⟨g, 0, none⟩) 67 cp, .string ⟨Z.toArray⟩] wz fun e w' => e = .returned (.tuple #[.string ⟨#[]⟩, .int .i64 10]) ∧ Below wz.heap.size wz w' by
    have hl : (L.set 5 y5).length = 67 := by rw [List.length_set, HLL.out]
    have := HR.out (L.set 5 y5) cp _ Z wz h hS (.inl hl) (fun x hx => by
      rcases List.mem_or_eq_of_mem_set hx with h | h
      · exact HLS.out x h
      · rw [h, hy5l]; decide) (by omega)
    rw [HC3.out y5 hy5l, hl] at this
    exact this)
  have HX5 := Lib.hid hx5
  clear h66 h0 K KD SA HS66 HS0 hcap hy5 hy5l hx5 hx5l HR HC1 HC2 HC3 HL5
  go_region_held3 (fun wz => (W13 w #[.string ⟨#[115]⟩, .int .u64 3] wz ∧ wz.cell? ⟨w.heap.size, 0, none⟩ = some (.string ⟨#[115]⟩) ∧ wz.cell? ⟨w.heap.size, 1, none⟩ = some (.int .u64 3) ∧ wz.cell? ⟨b1, o1 + 66, none⟩ = some (.string ⟨y66.toArray⟩) ∧ wz.cell? ⟨b1, o1, none⟩ = some (.string ⟨y0.toArray⟩) ∧ Below w4.heap.size w4 wz))
    (first | (with_reducible assumption))
    (first
      | (go_at_call 20; with_reducible refine (HSS.out _ (by with_reducible assumption)).mono ?_; rintro e wa ⟨rfl, hba⟩; have hSa := HST.out _ _ (by with_reducible assumption) hba)
      | (go_at_call 20; with_reducible refine (HST0.out _ (by with_reducible assumption)).mono ?_; rintro e wb ⟨rfl, hbb⟩; have hSb := HST.out _ _ (by with_reducible assumption) hbb))
  all_goals
    have K := Lib.hid hSb.1
    have SA := Lib.hid (HSA.out _ hSb.2.2.2.2.2)
    clear hS1 hSa hSb HST HSS HST0 HSA
    go_upto_region 8 with (go_at_call 14; with_reducible refine (HRA.out _ K.out.o SA.out).mono ?_; rintro e w5 ⟨rfl, hb5⟩; have K := Lib.hid (K.out.next hb5); have SA := Lib.hid (SA.out.below (Nat.le_refl _) hb5); clear hb5)
    clear HRA
    go_upto_region 9 with (go_at_call 14; with_reducible refine (HRB.out _ K.out.o SA.out).mono ?_; rintro e w6 ⟨rfl, hb6⟩; have K := Lib.hid (K.out.next hb6); have SA := Lib.hid (SA.out.below (Nat.le_refl _) hb6); clear hb6)
    clear HRB
    have hcL : ∀ i (h : i < L.length), w6.cell? ⟨b1, o1 + i, none⟩ = some (.string ⟨L[i].toArray⟩) := fun i h => by
      obtain ⟨b2, o2, e2, hc⟩ := SA.out.cell i h
      cases e2
      exact hc
    have HCL := Lib.hid hcL
    clear hcL
    go_upto_region 10 with (at_builtin; refine append_all_n HLL.out rfl _ _ rfl rfl rfl HCL.out (by rw [HLL.out]; decide) (by rw [HLL.out]; decide) ?_; intro g c w7 ho7 hb7 hg7; have HO7 := Lib.hid ho7; have HB7 := Lib.hid hb7; clear ho7 hb7 hg7)
    obtain ⟨hg6, hat7, hfz7, hlt7⟩ := trow_at HO7.out
    have hc7 := hat7 5 (by rw [HLL.out]; decide)
    rw [← HX5.out] at hc7
    have hf7 := hfz7 5
    have HO8 := Lib.hid (row_set_n (i := 5) (t := y5) HLL.out HO7.out)
    have HB8 := Lib.hid (HB7.out.setCell (p := ⟨g, 5, none⟩) hg6 (.string ⟨y5.toArray⟩))
    clear hat7 hfz7 hlt7 hg6 HO7 HB7 HCL
    go_upto_region 11 with fail
    clear hc7 hf7
    generalize w7.setCell ⟨g, 5, none⟩ (.string ⟨y5.toArray⟩) = w8 at *
    have K := Lib.hid (K.out.next HB8.out)
    have SA := Lib.hid (SA.out.below (Nat.le_refl _) HB8.out)
    have HT8 := Lib.hid (trow_strs HO8.out (by rw [List.length_set, HLL.out])).1
    clear HO8 HB8
    go_upto_region 12 with (go_at_call 14; with_reducible refine (HRC.out _ _ _ K.out.o HT8.out).mono ?_; rintro e w9 ⟨rfl, hb9⟩; have K := Lib.hid (K.out.next hb9); have SA := Lib.hid (SA.out.below (Nat.le_refl _) hb9); clear hb9)
    clear HRC
    go_upto_region 13 with (go_at_call 14; with_reducible refine (HRD.out _ K.out.o SA.out).mono ?_; rintro e wA ⟨rfl, hbA⟩; have K := Lib.hid (K.out.next hbA); clear hbA)
    clear HRD
    go_wp2_with (go_at_call 10; with_reducible refine (HPU.out _ K.out.o).mono ?_; rintro e wB ⟨rfl, hbB⟩; have K := Lib.hid (K.out.next hbB); clear hbB)
    exact bodyPost_ret (v := .bool true) (by simp [results, Tryd.results13, go_sem]) rfl ⟨rfl, K.out.o⟩
end Go.Proofs.YtpbbpkflljcklaaDoor
