/- Layer 11: Root and Check. -/
import Derived.Test.YtmnklonoelpidaaGreatDoorJ24
namespace Go.Proofs.YtmnklonoelpidaaGreatDoor
open Go.RowKit Go.Sort

theorem oroot_bad (n : Int) (hn : -9223372036854775808 ≤ n ∧ n ≤ 9223372036854775807) (P : List Nat) (E R : List (List UInt8)) (ao bo po : Option Addr) (ca cb cp : Nat) (w : World) (hP : Nums ao P w) (hpn : P.length ≤ 1000) (_ : E.length ≤ 100000) (hb : mayP n P = false ∨ E.length ≠ P.length) :
    Calls Tryz.prog 126 #[.int .i64 n, .slice ao P.length ca, .slice bo E.length cb, .slice po R.length cp] w fun e w' => e = .returned (.tuple #[.string ⟨#[]⟩, .int .i64 2]) ∧ Below w.heap.size w w' := by
  have HD := Lib.hid (fun wz => depth_any n hn wz)
  have HB := Lib.hid (by0 w (.cells #[.slice po R.length cp] 41))
  by_cases h1 : n < 0 ∨ 65536 < n
  · rw [depthV, if_pos h1] at HD
    clear hP hb h1
    go_enter Tryz.func126, Tryz.ntmps126
    go_wp2_with (go_at_call 96; refine (HD.out _).mono ?_; rintro e w' ⟨rfl, rfl⟩)
    exact bodyPost_ret (v := .tuple #[.string ⟨#[]⟩, .int .i64 2]) (by simp [results, Tryz.results126, go_sem]) rfl ⟨rfl, HB.out⟩
  · obtain ⟨k, rfl⟩ : ∃ k : Nat, n = (k : Int) := ⟨n.toNat, by omega⟩
    have hm : mayP (k : Int) P = standsP P k := by rw [mayP, decide_eq_true (by omega), Bool.true_and, Int.toNat_natCast]
    rw [hm] at hb
    rw [depthV, if_neg h1, Int.toNat_natCast] at HD
    have HS := Lib.hid (fun wz (hz : Below w.heap.size w wz) => ostand_any ao ca P k wz (nums_next hP hz) (by omega) (by omega))
    have d0 : ¬ ((dep k : Nat) : Int) < 0 := by omega
    by_cases h2 : standsP P k = false
    · rw [h2] at HS
      clear hP hb h1 hm h2
      go_enter Tryz.func126, Tryz.ntmps126
      go_wp2_with (first
        | (go_at_call 96; refine (HD.out _).mono ?_; rintro e w' ⟨rfl, rfl⟩)
        | (go_at_call 149; refine (HS.out _ HB.out).mono ?_; rintro e w1 ⟨rfl, rfl⟩))
      exact bodyPost_ret (v := .tuple #[.string ⟨#[]⟩, .int .i64 2]) (by simp [results, Tryz.results126, go_sem]) rfl ⟨rfl, HB.out⟩
    · have hne := hb.resolve_left h2
      have hz : ((E.length : Int) != (P.length : Int)) = true := by simp; omega
      rw [show standsP P k = true by simpa using h2] at HS
      clear hP hb h1 hm h2 hne
      go_enter Tryz.func126, Tryz.ntmps126
      go_wp2_with (first
        | (go_at_call 96; refine (HD.out _).mono ?_; rintro e w' ⟨rfl, rfl⟩)
        | (go_at_call 149; refine (HS.out _ HB.out).mono ?_; rintro e w1 ⟨rfl, rfl⟩))
      exact bodyPost_ret (v := .tuple #[.string ⟨#[]⟩, .int .i64 2]) (by simp [results, Tryz.results126, go_sem]) rfl ⟨rfl, HB.out⟩
set_option maxRecDepth 100000 in
set_option maxHeartbeats 4000000 in
theorem oroot_may (k : Nat) (P : List Nat) (E R : List (List UInt8)) (ao bo po : Option Addr) (ca cb cp : Nat) (w : World) (hg : Glob w) (hP : Nums ao P w) (hE : Strs bo E w) (hR : Strs po R w) (hpn : P.length ≤ 1000) (hk : k ≤ 65536) (hs : standsP P k = true) (hel : E.length = P.length) (hcp : R.length ≤ cp) (hrn : R.length ≤ 100000) (he : ∀ i (h : i < E.length), E[i].length ≤ 10000000) (hr : ∀ i (h : i < R.length), R[i].length ≤ 1000000000) :
    Calls Tryz.prog 126 #[.int .i64 (k : Int), .slice ao P.length ca, .slice bo E.length cb, .slice po R.length cp] w fun e w' => e = .returned (.tuple #[.string ⟨(rootV k P E R).1.toArray⟩, .int .i64 (rootV k P E R).2]) ∧ Below w.heap.size w w' := by
  have hmay : mayP (k : Int) P = true := by rw [mayP, decide_eq_true (by omega), Bool.true_and, Int.toNat_natCast]; exact hs
  have HV := Lib.hid (show rootV k P E R = if all32 R = false then ([], 5) else if sizeE R.length (sizeD P k) ≠ 0 then ([], sizeE R.length (sizeD P k)) else (comesD (lvs P (dep k)) (dep k) R (leafF P E (dep k)), 0) by
    rw [rootV, if_neg (by rw [hmay]; simp [hel]), Int.toNat_natCast])
  have hd16 := dep_le k hk
  have hpp := stands_parts hs
  have hlt := lvs_lt hs hk
  have hla := fun i h h' => leafF_at hs hk (E := E) i h h'
  have hl0 : lvs P (dep k) ≠ [] := fun e => hpp.1 (List.map_eq_nil_iff.1 e)
  have hll : (lvs P (dep k)).length = P.length := by simp
  have hp200 : ∀ x ∈ P, x < 18446744073709551616 := fun x hx => by have := hpp.2.2 x hx; omega
  have hpw : 2 ^ dep k ≤ 2 ^ 16 := Nat.pow_le_pow_right (by decide) hd16
  rw [sizeD] at HV
  obtain ⟨w1, hw1⟩ : ∃ w1, w1 = w.alloc (.cells #[.slice po R.length cp] 41) := ⟨_, rfl⟩
  obtain ⟨bp, hbp⟩ : ∃ bp, bp = w.heap.size := ⟨_, rfl⟩
  have hp1 : w1.heap[bp]? = some (.cells #[.slice po R.length cp] 41 (0, 0)) := by rw [hw1]; exact alloc_new _ _ hbp
  have hb1 : Below w.heap.size w w1 := by rw [hw1]; exact by0 w _
  have hz1 : w1.heap.size = bp + 1 := by rw [hw1, World.size_alloc, hbp]
  have HW1 := Lib.hid hw1
  have HBP := Lib.hid hbp
  have HP1 := Lib.hid hp1
  have HB1 := Lib.hid hb1
  have HZ1 := Lib.hid hz1
  have HD := Lib.hid (fun wz => depth_any (k : Int) (by omega) wz)
  rw [depthV, if_neg (by omega), Int.toNat_natCast] at HD
  have HST := Lib.hid (ostand_any ao ca P k w1 (nums_next hP hb1) (by omega) (by omega))
  rw [hs] at HST
  have HCT := Lib.hid (ocontains_any po cp R w1 (hR.below (Nat.le_refl _) hb1) hrn hr)
  have HLV := Lib.hid (oleaves_any ao ca P (dep k : Int) w1 (nums_next hP hb1) (by omega) hp200)
  rw [show (P.map fun x => turnB x (dep k : Int)) = lvs P (dep k) from rfl] at HLV
  have HND := Lib.hid (fun wz (h : wz.heap[w1.heap.size]? = some (.cells (ups (lvs P (dep k)) P.length).toArray 22 (0, 0))) => needs_in (some ⟨w1.heap.size, 0, none⟩) P.length (lvs P (dep k)) P.length (dep k) wz (nums_ups (by rw [hll]; exact h)) hll hl0 (by omega) hlt hd16)
  have HSZ := Lib.hid (fun lo hi bx cx wz (h : RowsIn lo hi bx (needM (lvs P (dep k)) (dep k)) wz) => osize_any lo hi bx cx R.length (needM (lvs P (dep k)) (dep k)) wz h (by rw [needM_len]; omega) (by omega) (fun N hN => by
    obtain ⟨i, hi⟩ := List.getElem?_of_mem hN
    have h1 := need_le ((needs_M hlt).2 i N hi)
    simp only [upTo, List.length_map] at h1
    omega))
  rw [needM_len] at HSZ
  have HSH := Lib.hid (fun wz (hb : Below w.heap.size w wz) (h : wz.heap[w1.heap.size]? = some (.cells (ups (lvs P (dep k)) P.length).toArray 22 (0, 0))) => shown_any (some ⟨w1.heap.size, 0, none⟩) bo P.length cb (lvs P (dep k)) E (leafF P E (dep k)) wz (hg.below hg.size hb) (nums_ups (by rw [hll]; exact h)) (hE.below (Nat.le_refl _) hb) (by rw [hll]; exact hel) (fun i h h' => by rw [List.getElem_map]; exact hla i (by rw [← hll]; exact h) h') (by omega) (fun x hx => by have := hlt x hx; omega) he)
  rw [hll] at HSH
  have HCL := Lib.hid (fun wz b0 bx cx lo hi (hK : Climb w lo hi bp bx (needM (lvs P (dep k)) (dep k)) wz) (hT : TabM b0 P.length (leafF P E (dep k)) (lvs P (dep k)) wz) h1 h2 h3 h4 h5 hLP (h6 : R.length = pre (needM (lvs P (dep k)) (dep k)) (dep k)) (h7 : all32 R = true) => oclimb_any w wz b0 bp lo hi (dep k) cx bx (lvs P (dep k)) R (leafF P E (dep k)) hg hK (by rw [hll]; exact hT) h1 h2 h3 h4 h5 hLP h6 h7 (leafF_len P E (dep k)) hlt hd16 hl0 (by omega))
  obtain ⟨V, hV⟩ : ∃ V, V = rootV k P E R := ⟨_, rfl⟩
  rw [← hV] at HV ⊢
  have HG := Lib.hid hg
  have HR := Lib.hid hR
  have HCP := Lib.hid hcp
  have n1 : (P.length : Int) ≤ 1000 := by omega
  have n2 : (R.length : Int) ≤ 100000 := by omega
  have n3 : ((E.length : Int) != (P.length : Int)) = false := by rw [hel]; simp
  have d0 : ¬ ((dep k : Nat) : Int) < 0 := by omega
  clear hg hP hE hR hs hel he hr hV hmay hpp hlt hla hl0 hll hp200 hpw hw1 hbp hp1 hb1 hz1 hd16 hcp
  generalize lvs P (dep k) = LV at *
  generalize leafF P E (dep k) = f at *
  generalize dep k = D at *
  go_enter Tryz.func126, Tryz.ntmps126
  go_upto_region 1 with fail
  rw [← HW1.out, ← HBP.out]
  go_upto_region 4 with (first
    | (go_at_call 96; refine (HD.out _).mono ?_; rintro e w' ⟨rfl, rfl⟩)
    | (go_at_call 149; refine HST.out.mono ?_; rintro e w' ⟨rfl, rfl⟩))
  have hc1 := (lit_cell HP1.out 0).trans rfl
  cases h32 : all32 R with
  | false =>
    rw [h32] at HCT
    have HE := Lib.hid (show V = ([], 5) by rw [HV.out, if_pos h32])
    clear h32
    go_wp2_with (go_at_call 148; refine HCT.out.mono ?_; rintro e w' ⟨rfl, rfl⟩)
    exact bodyPost_ret (v := .tuple #[.string ⟨#[]⟩, .int .i64 5]) (by simp [results, Tryz.results126, go_sem]) rfl ⟨by rw [HE.out], HB1.out⟩
  | true =>
    rw [h32] at HCT
    have HV2 := Lib.hid (HV.out.trans (if_neg (by rw [h32]; decide)))
    have H32 := Lib.hid h32
    clear h32
    go_upto_region 7 with (first
      | (go_at_call 148; refine HCT.out.mono ?_; rintro e w' ⟨rfl, rfl⟩)
      | (go_at_call 151; refine HLV.out.mono ?_; rintro e w2 ⟨rfl, hl2, hb2⟩))
    have HL2 := Lib.hid hl2
    have HK2 := Lib.hid hb2
    have HB2 := Lib.hid (below_next HB1.out hb2)
    clear hl2 hb2 hc1 HD HST HCT HLV
    go_upto_region 8 with (go_at_call 146; refine (HND.out _ HL2.out).mono ?_; rintro e w3 ⟨bx, cx, rfl, hn3, hb3⟩)
    have HN3 := Lib.hid hn3
    have HK3 := Lib.hid hb3
    have HB3 := Lib.hid (below_next HB2.out hb3)
    have HP3 := Lib.hid ((hb3.block bp (by have := HK2.out.size; have := HZ1.out; omega)).trans ((HK2.out.block bp (by have := HZ1.out; omega)).trans HP1.out))
    have hc3 := (lit_cell HP3.out 0).trans rfl
    have HSZ3 := Lib.hid (HSZ.out _ _ bx cx w3 hn3)
    obtain ⟨z, hz⟩ : ∃ z, z = sizeE R.length (pre (needM LV D) D) := ⟨_, rfl⟩
    rw [← hz] at HSZ3
    have HV3 := HV2.out
    rw [← hz] at HV3
    clear hn3 hb3 HSZ
    by_cases hz0 : z = 0
    · have HVE := Lib.hid (show V = (comesD LV D R f, 0) by rw [HV3, if_neg (by simp [hz0])])
      have HLE := Lib.hid (show R.length = pre (needM LV D) D from sizeE_zero.1 (by rw [← hz]; exact hz0))
      rw [hz0] at HSZ3
      clear hz hz0 HV3
      go_upto_region 12 with (go_at_call 152; refine HSZ3.out.mono ?_; rintro e w' ⟨rfl, rfl⟩)
      have HX3 := Lib.hid ((HK3.out.block w1.heap.size (lit_lt HL2.out)).trans HL2.out)
      have HSH3 := Lib.hid (HSH.out w3 HB3.out HX3.out)
      clear hc3 HSZ3
      go_wp2_with (first
        | (go_at_call 154; refine HSH3.out.mono ?_; rintro e w4 ⟨b0, rfl, ht4, hb0, hb4⟩;
           have HB4 := Lib.hid (below_next HB3.out hb4);
           have HCL4 := Lib.hid (HCL.out w4 b0 bx cx w2.heap.size w3.heap.size ⟨HG.out.below HG.out.size HB4.out, HB4.out, HN3.out.kept (Nat.le_refl _) (Kept.of_below hb4 (fun j hj => hj.2)), hb4.size, Nat.lt_of_lt_of_le (lit_lt HP3.out) hb4.size⟩ ht4 hb0 HB2.out.size HK3.out.size (by rw [HBP.out]; exact Nat.le_refl _) (by have := HK2.out.size; have := HZ1.out; omega) ⟨po, cp, (hb4.block bp (lit_lt HP3.out)).trans HP3.out, HCP.out, HR.out⟩ HLE.out H32.out); clear ht4 hb0 hb4)
        | (go_at_call 155; refine HCL4.out.mono ?_; rintro e w5 ⟨rfl, hb5⟩))
      exact bodyPost_ret (v := .tuple #[.string ⟨(comesD LV D R f).toArray⟩, .int .i64 0]) (by simp [results, Tryz.results126, go_sem]) rfl ⟨by rw [HVE.out], hb5⟩
    · have hzb : (z != 0) = true := by simp [hz0]
      have HVE := Lib.hid (show V = ([], z) by rw [HV3, if_pos hz0])
      clear hz hz0 HV3
      go_wp2_with (go_at_call 152; refine HSZ3.out.mono ?_; rintro e w' ⟨rfl, rfl⟩)
      exact bodyPost_ret (v := .tuple #[.string ⟨#[]⟩, .int .i64 z]) (by simp [results, Tryz.results126, go_sem]) rfl ⟨by rw [HVE.out], HB3.out⟩
theorem oroot_any (n : Int) (hn : -9223372036854775808 ≤ n ∧ n ≤ 9223372036854775807) (P : List Nat) (E R : List (List UInt8)) (ao bo po : Option Addr) (ca cb cp : Nat) (w : World) (hg : Glob w) (hP : Nums ao P w) (hE : Strs bo E w) (hR : Strs po R w) (hpn : P.length ≤ 1000) (hen : E.length ≤ 100000) (hcp : R.length ≤ cp) (hrn : R.length ≤ 100000) (he : ∀ i (h : i < E.length), E[i].length ≤ 10000000) (hr : ∀ i (h : i < R.length), R[i].length ≤ 1000000000) :
    Calls Tryz.prog 126 #[.int .i64 n, .slice ao P.length ca, .slice bo E.length cb, .slice po R.length cp] w fun e w' => e = .returned (.tuple #[.string ⟨(rootV n P E R).1.toArray⟩, .int .i64 (rootV n P E R).2]) ∧ Below w.heap.size w w' := by
  by_cases hb : mayP n P = false ∨ E.length ≠ P.length
  · rw [show rootV n P E R = ([], 2) from if_pos hb]
    exact oroot_bad n hn P E R ao bo po ca cb cp w hP hpn hen hb
  · have h1 : mayP n P = true := by
      cases h : mayP n P
      · exact absurd (.inl h) hb
      · rfl
    obtain ⟨k, rfl, hk, hs⟩ := may_parts h1
    exact oroot_may k P E R ao bo po ca cb cp w hg hP hE hR hpn hk hs (Classical.byContradiction fun h => hb (.inr h)) hcp hrn he hr
theorem ocheck_any (root : (List UInt8)) (n : Int) (hn : -9223372036854775808 ≤ n ∧ n ≤ 9223372036854775807) (P : List Nat) (E R : List (List UInt8)) (ao bo po : Option Addr) (ca cb cp : Nat) (w : World) (hg : Glob w) (hP : Nums ao P w) (hE : Strs bo E w) (hR : Strs po R w) (hpn : P.length ≤ 1000) (hen : E.length ≤ 100000) (hcp : R.length ≤ cp) (hrn : R.length ≤ 100000) (he : ∀ i (h : i < E.length), E[i].length ≤ 10000000) (hr : ∀ i (h : i < R.length), R[i].length ≤ 1000000000) :
    Calls Tryz.prog 90 #[.string ⟨root.toArray⟩, .int .i64 n, .slice ao P.length ca, .slice bo E.length cb, .slice po R.length cp] w fun e w' => e = .returned (.int .i64 (checkV root n P E R)) ∧ Below w.heap.size w w' := by
  have HC := Lib.hid (oroot_any n hn P E R ao bo po ca cb cp w hg hP hE hR hpn hen hcp hrn he hr)
  have HV := Lib.hid (show checkV root n P E R = if (rootV n P E R).2 ≠ 0 then (rootV n P E R).2 else if (rootV n P E R).1 = root then 0 else 20 from rfl)
  generalize checkV root n P E R = c at *
  generalize rootV n P E R = V at *
  obtain ⟨Z, z⟩ := V
  simp only at HC HV
  clear hg hP hE hR hen hcp hrn he hr
  by_cases hz : z = 0
  · have hzb : (z != 0) = false := by simp [hz]
    by_cases hr : Z = root
    · have hrb : (Z == root) = true := by simp [hr]
      have HE := Lib.hid (show c = 0 by rw [HV.out, if_neg (by simp [hz]), if_pos hr])
      clear hz hr
      go_enter Tryz.func90, Tryz.ntmps90
      go_wp2_with (go_at_call 126; refine HC.out.mono ?_; rintro e w1 ⟨rfl, hb1⟩)
      go_ret
      exact ⟨by rw [HE.out]; rfl, hb1⟩
    · have hrb : (Z == root) = false := by simp [hr]
      have HE := Lib.hid (show c = 20 by rw [HV.out, if_neg (by simp [hz]), if_neg hr])
      clear hz hr
      go_enter Tryz.func90, Tryz.ntmps90
      go_wp2_with (go_at_call 126; refine HC.out.mono ?_; rintro e w1 ⟨rfl, hb1⟩)
      go_ret
      exact ⟨by rw [HE.out]; rfl, hb1⟩
  · have hzb : (z != 0) = true := by simp [hz]
    have HE := Lib.hid (show c = z by rw [HV.out, if_pos hz])
    clear hz
    go_enter Tryz.func90, Tryz.ntmps90
    go_wp2_with (go_at_call 126; refine HC.out.mono ?_; rintro e w1 ⟨rfl, hb1⟩)
    go_ret
    exact ⟨by rw [HE.out]; rfl, hb1⟩
end Go.Proofs.YtmnklonoelpidaaGreatDoor
