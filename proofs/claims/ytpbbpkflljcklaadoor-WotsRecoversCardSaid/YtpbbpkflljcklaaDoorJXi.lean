/- WotsSigns: its walk. -/
import Derived.Test.YtpbbpkflljcklaaDoorJXe
import Derived.Test.YtpbbpkflljcklaaDoorJXi0
import Derived.Deep.RegionHeld3
namespace Go.Proofs.YtpbbpkflljcklaaDoor
open Go.RowKit

theorem signC_len (s : (List UInt8)) (n : Nat) (d : (List UInt8)) : (signC s n d).1.length ≤ 67 ∧ (signC s n d).2 ≤ 10 := by
  unfold signC
  split
  · exact ⟨by show (sigL s n d).length ≤ 67; rw [sigL, row67_len]; decide, Nat.zero_le _⟩
  · exact ⟨by simp, by decide⟩
set_option maxRecDepth 100000 in
set_option maxHeartbeats 8000000 in
theorem wotsSigns_any (C : WotsC) (HWK : WorksW) (s : (List UInt8)) (n : Nat) (d : (List UInt8)) (w : World) (hg : Glob w) (hn : n < 18446744073709551616) :
    Calls Tryd.prog 3 #[.agg #[.string ⟨s.toArray⟩, .int .u64 (n : Int)], .string ⟨d.toArray⟩] w fun e w' => e = .returned (.bool true) ∧ Below w.heap.size w w' := by
  obtain ⟨m, hm1, hm2, hm3⟩ := extract_take s 100
  rw [show ((100 : Nat) : Int) = 100 from rfl] at hm1
  have m0 : (0 : Int) ≤ (m : Int) := by omega
  have m1 : (m : Int) ≤ (s.length : Int) := by omega
  obtain ⟨q, hq1, hq2, hq3⟩ := extract_take d 40
  rw [show ((40 : Nat) : Int) = 40 from rfl] at hq1
  have q0 : (0 : Int) ≤ (q : Int) := by omega
  have q1 : (q : Int) ≤ (d.length : Int) := by omega
  have hls : (s.take 100).length ≤ 100 := by rw [List.length_take]; omega
  have hld : (d.take 40).length ≤ 40 := by rw [List.length_take]; omega
  generalize s.take 100 = S at *
  generalize d.take 40 = D at *
  have HGB := Lib.hid (fun wz (h : Below w.heap.size w wz) => hg.below hg.size h)
  have HA := Lib.hid (fun wz (h : Below w.heap.size w wz) => C.s S n D wz (HGB.out wz h) (by omega) hn (by omega))
  have HR := Lib.hid (fun wz => rsign_any S n D wz (by omega) hn)
  have HPA := Lib.hid (fun wz (h : Below w.heap.size w wz) => C.p S n wz (HGB.out wz h) (by omega) hn)
  have HPR := Lib.hid (fun wz => rpublic_any S n wz (by omega) hn)
  have HWO := Lib.hid (fun wz (h : Below w.heap.size w wz) => HWK wz (HGB.out wz h))
  have hlen := signC_len S n D
  have HSM := Lib.hid (fun ao bo ca cb wz ha hb => same13_any ao bo ca cb (signC S n D).1 wz (by omega) ha hb)
  have K := Lib.hid (W13.start w #[.string ⟨S.toArray⟩, .int .u64 (n : Int)])
  generalize (signC S n D).1 = L at *
  generalize (signC S n D).2 = ec at *
  generalize pubF S n = P at *
  clear hg hn hls hld
  go_enter Tryd.func3, Tryd.ntmps3
  go_upto_region 3 with fail
  change Code.wp _ _ _ _ (w.alloc (.cells #[.string ⟨S.toArray⟩, .int .u64 (n : Int)] 24))
  generalize w.alloc (.cells #[.string ⟨S.toArray⟩, .int .u64 (n : Int)] 24) = w1 at *
  obtain ⟨c0, c1⟩ := K.out.get
  go_upto_region 4 with (go_at_call 8; refine (HA.out _ K.out.o).mono ?_; rintro e w2 ⟨aa, ac, rfl, ha, -, hb2⟩; have K := Lib.hid (K.out.next hb2); have SA := Lib.hid ha; clear ha hb2)
  clear c0 c1 HA
  obtain ⟨c0, c1⟩ := K.out.get
  go_upto_region 5 with (go_at_call 9; refine (HR.out _).mono ?_; rintro e w3 ⟨ba, bc, rfl, hb, hb3⟩; have K := Lib.hid (K.out.next hb3); have SA := Lib.hid (SA.out.below (Nat.le_refl _) hb3); have SB := Lib.hid hb; clear hb hb3)
  clear c0 c1 HR
  have K := Lib.hid K.out.drew
  have SA := Lib.hid (strs_drew SA.out)
  have SB := Lib.hid (strs_drew SB.out)
  have hK : W13 w #[.string ⟨S.toArray⟩, .int .u64 (n : Int)] w3.drew ∧ w3.drew.cell? ⟨w.heap.size, 0, none⟩ = some (.string ⟨S.toArray⟩) ∧ w3.drew.cell? ⟨w.heap.size, 1, none⟩ = some (.int .u64 (n : Int)) ∧ Strs aa L w3.drew ∧ Strs ba L w3.drew := ⟨K.out, K.out.get.1, K.out.get.2, SA.out, SB.out⟩
  have HST := Lib.hid (show ∀ wz wa, (W13 w #[.string ⟨S.toArray⟩, .int .u64 (n : Int)] wz ∧ wz.cell? ⟨w.heap.size, 0, none⟩ = some (.string ⟨S.toArray⟩) ∧ wz.cell? ⟨w.heap.size, 1, none⟩ = some (.int .u64 (n : Int)) ∧ Strs aa L wz ∧ Strs ba L wz) → Below wz.heap.size wz wa → (W13 w #[.string ⟨S.toArray⟩, .int .u64 (n : Int)] wa ∧ wa.cell? ⟨w.heap.size, 0, none⟩ = some (.string ⟨S.toArray⟩) ∧ wa.cell? ⟨w.heap.size, 1, none⟩ = some (.int .u64 (n : Int)) ∧ Strs aa L wa ∧ Strs ba L wa) from fun wz wa h hb => ⟨h.1.next hb, (h.1.next hb).get.1, (h.1.next hb).get.2, h.2.2.2.1.below (Nat.le_refl _) hb, h.2.2.2.2.below (Nat.le_refl _) hb⟩)
  clear K SA SB
  have HSM5 := Lib.hid (fun wz (h : (W13 w #[.string ⟨S.toArray⟩, .int .u64 (n : Int)] wz ∧ wz.cell? ⟨w.heap.size, 0, none⟩ = some (.string ⟨S.toArray⟩) ∧ wz.cell? ⟨w.heap.size, 1, none⟩ = some (.int .u64 (n : Int)) ∧ Strs aa L wz ∧ Strs ba L wz)) => HSM.out aa ba ac bc wz h.2.2.2.1 h.2.2.2.2)
  have HPA5 := Lib.hid (fun wz (h : (W13 w #[.string ⟨S.toArray⟩, .int .u64 (n : Int)] wz ∧ wz.cell? ⟨w.heap.size, 0, none⟩ = some (.string ⟨S.toArray⟩) ∧ wz.cell? ⟨w.heap.size, 1, none⟩ = some (.int .u64 (n : Int)) ∧ Strs aa L wz ∧ Strs ba L wz)) => HPA.out wz h.1.o)
  have HWO5 := Lib.hid (fun wz (h : (W13 w #[.string ⟨S.toArray⟩, .int .u64 (n : Int)] wz ∧ wz.cell? ⟨w.heap.size, 0, none⟩ = some (.string ⟨S.toArray⟩) ∧ wz.cell? ⟨w.heap.size, 1, none⟩ = some (.int .u64 (n : Int)) ∧ Strs aa L wz ∧ Strs ba L wz)) => HWO.out wz h.1.o)
  clear HSM HPA HWO
  go_region_held3 (fun w' => (W13 w #[.string ⟨S.toArray⟩, .int .u64 (n : Int)] w' ∧ w'.cell? ⟨w.heap.size, 0, none⟩ = some (.string ⟨S.toArray⟩) ∧ w'.cell? ⟨w.heap.size, 1, none⟩ = some (.int .u64 (n : Int)) ∧ Strs aa L w' ∧ Strs ba L w'))
    (first | (with_reducible assumption))
    (first
      | (go_at_call 10; with_reducible refine (HPA5.out _ (by with_reducible assumption)).mono ?_; rintro e w4 ⟨rfl, hb4⟩; have hS4 := HST.out _ _ (by with_reducible assumption) hb4)
      | (go_at_call 11; with_reducible refine (HPR.out _).mono ?_; rintro e w5 ⟨rfl, hb5⟩; have hS5 := HST.out _ _ (by with_reducible assumption) hb5)
      | (go_at_call 12; with_reducible refine (HSM5.out _ (by with_reducible assumption)).mono ?_; rintro e w6 ⟨rfl, hb6⟩; have hS6 := HST.out _ _ (by with_reducible assumption) hb6)
      | (go_at_call 13; with_reducible refine (HWO5.out _ (by with_reducible assumption)).mono ?_; rintro e w7 ⟨rfl, hb7⟩; have hS7 := HST.out _ _ (by with_reducible assumption) hb7))
  all_goals
    have HF := Lib.hid (hS7.1.o)
    go_wp2
    exact bodyPost_ret (v := .bool true) (by simp [results, Tryd.results3, go_sem]) rfl ⟨rfl, HF.out⟩
end Go.Proofs.YtpbbpkflljcklaaDoor
