/- WideSums: its walk. -/
import Derived.Test.YtiglhgcckceikaaRl
import Derived.Test.YtiglhgcckceikaaWu
import Derived.Deep.Cut
namespace Go.Proofs.Ytiglhgcckceikaa
open Go.RowKit

theorem sums_start (w : World) (X Y P Q : Nat) : Kp w [(w.heap.size + 1 + 1, #[.int .u64 (d (P : Int) 0), .int .u64 (d (P : Int) 1), .int .u64 (d (P : Int) 2), .int .u64 (d (P : Int) 3), .int .u64 (d (P : Int) 4), .int .u64 (d (P : Int) 5), .int .u64 (d (P : Int) 6), .int .u64 (d (P : Int) 7), .int .u64 (d (Q : Int) 0), .int .u64 (d (Q : Int) 1), .int .u64 (d (Q : Int) 2), .int .u64 (d (Q : Int) 3), .int .u64 (d (Q : Int) 4), .int .u64 (d (Q : Int) 5), .int .u64 (d (Q : Int) 6), .int .u64 (d (Q : Int) 7)], 27), (w.heap.size + 1, #[.int .u64 (d (Y : Int) 0), .int .u64 (d (Y : Int) 1), .int .u64 (d (Y : Int) 2), .int .u64 (d (Y : Int) 3)], 24), (w.heap.size, #[.int .u64 (d (X : Int) 0), .int .u64 (d (X : Int) 1), .int .u64 (d (X : Int) 2), .int .u64 (d (X : Int) 3)], 24)] [] (((w.alloc (.cells #[.int .u64 (d (X : Int) 0), .int .u64 (d (X : Int) 1), .int .u64 (d (X : Int) 2), .int .u64 (d (X : Int) 3)] 24)).alloc (.cells #[.int .u64 (d (Y : Int) 0), .int .u64 (d (Y : Int) 1), .int .u64 (d (Y : Int) 2), .int .u64 (d (Y : Int) 3)] 24)).alloc (.cells #[.int .u64 (d (P : Int) 0), .int .u64 (d (P : Int) 1), .int .u64 (d (P : Int) 2), .int .u64 (d (P : Int) 3), .int .u64 (d (P : Int) 4), .int .u64 (d (P : Int) 5), .int .u64 (d (P : Int) 6), .int .u64 (d (P : Int) 7), .int .u64 (d (Q : Int) 0), .int .u64 (d (Q : Int) 1), .int .u64 (d (Q : Int) 2), .int .u64 (d (Q : Int) 3), .int .u64 (d (Q : Int) 4), .int .u64 (d (Q : Int) 5), .int .u64 (d (Q : Int) 6), .int .u64 (d (Q : Int) 7)] 27)) := by
  have k := (((Kp.start w).alloc #[.int .u64 (d (X : Int) 0), .int .u64 (d (X : Int) 1), .int .u64 (d (X : Int) 2), .int .u64 (d (X : Int) 3)] 24).alloc #[.int .u64 (d (Y : Int) 0), .int .u64 (d (Y : Int) 1), .int .u64 (d (Y : Int) 2), .int .u64 (d (Y : Int) 3)] 24).alloc #[.int .u64 (d (P : Int) 0), .int .u64 (d (P : Int) 1), .int .u64 (d (P : Int) 2), .int .u64 (d (P : Int) 3), .int .u64 (d (P : Int) 4), .int .u64 (d (P : Int) 5), .int .u64 (d (P : Int) 6), .int .u64 (d (P : Int) 7), .int .u64 (d (Q : Int) 0), .int .u64 (d (Q : Int) 1), .int .u64 (d (Q : Int) 2), .int .u64 (d (Q : Int) 3), .int .u64 (d (Q : Int) 4), .int .u64 (d (Q : Int) 5), .int .u64 (d (Q : Int) 6), .int .u64 (d (Q : Int) 7)] 27
  simp only [World.size_alloc] at k
  exact k
set_option maxRecDepth 100000 in
set_option maxHeartbeats 4000000 in
theorem sums_any (X Y P Q : Nat) (w : World) (hX : X < 2 ^ (64 * 4)) (hY : Y < 2 ^ (64 * 4)) (hP : P < 2 ^ (64 * 8)) (hQ : Q < 2 ^ (64 * 8)) :
    Calls Try.prog 3 #[.agg #[.int .u64 (d (X : Int) 0), .int .u64 (d (X : Int) 1), .int .u64 (d (X : Int) 2), .int .u64 (d (X : Int) 3)], .agg #[.int .u64 (d (Y : Int) 0), .int .u64 (d (Y : Int) 1), .int .u64 (d (Y : Int) 2), .int .u64 (d (Y : Int) 3)], .agg #[.int .u64 (d (P : Int) 0), .int .u64 (d (P : Int) 1), .int .u64 (d (P : Int) 2), .int .u64 (d (P : Int) 3), .int .u64 (d (P : Int) 4), .int .u64 (d (P : Int) 5), .int .u64 (d (P : Int) 6), .int .u64 (d (P : Int) 7), .int .u64 (d (Q : Int) 0), .int .u64 (d (Q : Int) 1), .int .u64 (d (Q : Int) 2), .int .u64 (d (Q : Int) 3), .int .u64 (d (Q : Int) 4), .int .u64 (d (Q : Int) 5), .int .u64 (d (Q : Int) 6), .int .u64 (d (Q : Int) 7)]] w fun e w' => e = .returned (.bool true) ∧ Below w.heap.size w w' := by
  obtain ⟨s, ov, hs1, hs2, hs3⟩ := sum4_facts X Y hX hY
  obtain ⟨z, un, Z, hd1, hd2, hd3, hd4, hd5⟩ := diff4_facts X Y hX hY
  obtain ⟨t, ov8, ht1, ht2, ht3⟩ := sum8_facts P Q hP hQ
  obtain ⟨hi, hw1, hw2⟩ := low8_facts P hP
  obtain ⟨n4, hn4⟩ : ∃ n, n = 64 * 4 := ⟨_, rfl⟩
  obtain ⟨n8, hn8⟩ : ∃ n, n = 64 * 8 := ⟨_, rfl⟩
  have HX := Lib.hid (show X < 2 ^ n4 by rw [hn4]; exact hX)
  have HY := Lib.hid (show Y < 2 ^ n4 by rw [hn4]; exact hY)
  have HP := Lib.hid (show P < 2 ^ n8 by rw [hn8]; exact hP)
  have HQ := Lib.hid (show Q < 2 ^ n8 by rw [hn8]; exact hQ)
  have HC4 := Lib.hid (fun w => cmp4_any _ _ (X : Int) (Y : Int) w rfl rfl (inn hX) (inn hY))
  have HC8 := Lib.hid (fun w => cmp8_any _ _ (P : Int) (Q : Int) w rfl rfl (inn hP) (inn hQ))
  have HL4 := Lib.hid (fun w => bitLen4_any _ (X : Int) w rfl (inn hX))
  have HL8 := Lib.hid (fun w => bitLen8_any _ (P : Int) w rfl (inn hP))
  have HADD := Lib.hid hs1
  have HSC := Lib.hid hs2
  have HOV := Lib.hid hs3
  have HSUB := Lib.hid hd1
  have HZC := Lib.hid hd2
  have HUN := Lib.hid hd3
  have HZ := Lib.hid (show Z < 2 ^ n4 by rw [hn4]; exact hd4)
  have HZE := Lib.hid (show Z + Y = X + (if X < Y then 2 ^ n4 else 0) by rw [hn4]; exact hd5)
  have HADD8 := Lib.hid ht1
  have HTC := Lib.hid ht2
  have HOV8 := Lib.hid ht3
  have HLOW := Lib.hid hw1
  have HHI := Lib.hid hw2
  have hn4b : n4 ≤ 512 := by omega
  have hn8b : n8 ≤ 512 := by omega
  have HN4 := Lib.hid hn4
  have HN8 := Lib.hid hn8
  clear hX hY hP hQ hs1 hs2 hs3 hd1 hd2 hd3 hd4 hd5 ht1 ht2 ht3 hw1 hw2 hn4 hn8
  have K0 := sums_start w X Y P Q
  obtain ⟨R, hR⟩ : ∃ R, [(w.heap.size + 1 + 1, (#[.int .u64 (d (P : Int) 0), .int .u64 (d (P : Int) 1), .int .u64 (d (P : Int) 2), .int .u64 (d (P : Int) 3), .int .u64 (d (P : Int) 4), .int .u64 (d (P : Int) 5), .int .u64 (d (P : Int) 6), .int .u64 (d (P : Int) 7), .int .u64 (d (Q : Int) 0), .int .u64 (d (Q : Int) 1), .int .u64 (d (Q : Int) 2), .int .u64 (d (Q : Int) 3), .int .u64 (d (Q : Int) 4), .int .u64 (d (Q : Int) 5), .int .u64 (d (Q : Int) 6), .int .u64 (d (Q : Int) 7)] : Array Value), 27), (w.heap.size + 1, #[.int .u64 (d (Y : Int) 0), .int .u64 (d (Y : Int) 1), .int .u64 (d (Y : Int) 2), .int .u64 (d (Y : Int) 3)], 24), (w.heap.size, #[.int .u64 (d (X : Int) 0), .int .u64 (d (X : Int) 1), .int .u64 (d (X : Int) 2), .int .u64 (d (X : Int) 3)], 24)] = R := ⟨_, rfl⟩
  rw [hR] at K0
  have HR3 := Lib.hid (fun (wz : World) (B : List (Option Addr × Nat × Nat)) (h : Kp w R B wz) => h.rows _ _ _ (by rw [← hR]; exact .tail _ (.tail _ (.head _))))
  have HR4 := Lib.hid (fun (wz : World) (B : List (Option Addr × Nat × Nat)) (h : Kp w R B wz) => h.rows _ _ _ (by rw [← hR]; exact .tail _ (.head _)))
  have HR5 := Lib.hid (fun (wz : World) (B : List (Option Addr × Nat × Nat)) (h : Kp w R B wz) => h.rows _ _ _ (by rw [← hR]; exact .head _))
  have KP0 := Lib.hid K0
  clear hR K0
  have HBX := Lib.hid (show ∀ wz, Kp w R [] wz → Calls Try.prog 8 #[.slice (some ⟨w.heap.size, 0, none⟩) 4 4] wz (fun e w' => ∃ ao cap', e = .returned (.slice ao n4 cap') ∧ n4 ≤ cap' ∧ Bs ao X n4 w' ∧ Below wz.heap.size wz w') from fun wz h => by rw [HN4.out]; exact bitsO_any (w.heap.size) 0 4 4 X wz (arow_lt (HR3.out wz [] h)) (fun j hj => by rw [Nat.zero_add]; exact cells_in4 (HR3.out wz [] h) (fun _ _ => rfl) j hj) (by omega))
  have HBY := Lib.hid (show ∀ wz, Kp w R [] wz → Calls Try.prog 8 #[.slice (some ⟨w.heap.size + 1, 0, none⟩) 4 4] wz (fun e w' => ∃ ao cap', e = .returned (.slice ao n4 cap') ∧ n4 ≤ cap' ∧ Bs ao Y n4 w' ∧ Below wz.heap.size wz w') from fun wz h => by rw [HN4.out]; exact bitsO_any (w.heap.size + 1) 0 4 4 Y wz (arow_lt (HR4.out wz [] h)) (fun j hj => by rw [Nat.zero_add]; exact cells_in4 (HR4.out wz [] h) (fun _ _ => rfl) j hj) (by omega))
  go_enter Try.func3, Try.ntmps3
  try simp only [List.append_eq, List.cons_append, List.nil_append]
  go_upto_region 1 with (fail)
  go_region_held3 (fun w' => Kp w R [] w')
    (first | (with_reducible assumption) | (with_reducible exact KP0.out) | (with_reducible exact KP0.out.drew))
    (first
      | (go_at_call 8; with_reducible refine (HBX.out _ (by first | (with_reducible assumption) | (with_reducible exact KP0.out) | (with_reducible exact KP0.out.drew))).mono ?_; rintro e wa ⟨a7, p7, rfl, hp7, hB7, hb1⟩; have hSa := Kp.next (by first | (with_reducible assumption) | (with_reducible exact KP0.out) | (with_reducible exact KP0.out.drew)) hb1)
      | (go_at_call 8; with_reducible refine (HBY.out _ (by with_reducible assumption)).mono ?_; rintro e wb ⟨a8, p8, rfl, hp8, hB8, hb2⟩; have hSb := Kp.next (by with_reducible assumption) hb2))
  have K1 := (hSb.bit (hB7.below hb2 (Nat.le_refl _))).bit hB8
  obtain ⟨B, hB⟩ : ∃ B, [(a8, Y, n4), (a7, X, n4)] = B := ⟨_, rfl⟩
  rw [hB] at K1
  have HB7 := Lib.hid (fun (wz : World) (R : List (Nat × Array Value × TypeId)) (h : Kp w R B wz) => h.bits _ _ _ (by rw [← hB]; exact .tail _ (.head _)))
  have HB8 := Lib.hid (fun (wz : World) (R : List (Nat × Array Value × TypeId)) (h : Kp w R B wz) => h.bits _ _ _ (by rw [← hB]; exact .head _))
  have KP := Lib.hid K1
  clear hB K1 hSa hSb hb1 hb2 hB7 hB8 hp7 hp8 HBX HBY KP0
  have c0 := (arow_cell (HR3.out _ _ KP.out) 0).trans rfl
  have c1 := (arow_cell (HR3.out _ _ KP.out) 1).trans rfl
  have c2 := (arow_cell (HR3.out _ _ KP.out) 2).trans rfl
  have c3 := (arow_cell (HR3.out _ _ KP.out) 3).trans rfl
  have e0 := (arow_cell (HR4.out _ _ KP.out) 0).trans rfl
  have e1 := (arow_cell (HR4.out _ _ KP.out) 1).trans rfl
  have e2 := (arow_cell (HR4.out _ _ KP.out) 2).trans rfl
  have e3 := (arow_cell (HR4.out _ _ KP.out) 3).trans rfl
  have l3 := arow_lt (HR3.out _ _ KP.out)
  have l4 := arow_lt (HR4.out _ _ KP.out)
  go_wp2_with fail
  clear c0 c1 c2 c3 e0 e1 e2 e3 l3 l4
  refine (HADD.out _).mono ?_
  rintro e w2 ⟨rfl, hb⟩
  have KP := Lib.hid (KP.out.next hb)
  clear hb HADD
  go_upto_region 3 with (fail)
  have K2 := KP.out.alloc #[.int .u64 (d s 0), .int .u64 (d s 1), .int .u64 (d s 2), .int .u64 (d s 3)] 24
  generalize (w2.alloc (.cells #[.int .u64 (d s 0), .int .u64 (d s 1), .int .u64 (d s 2), .int .u64 (d s 3)] 24)) = v2 at *
  generalize w2.heap.size = n9 at *
  have KP := Lib.hid K2
  clear K2
  have HRA := Lib.hid (show ∀ wz, Kp w ((n9, (#[.int .u64 (d s 0), .int .u64 (d s 1), .int .u64 (d s 2), .int .u64 (d s 3)] : Array Value), 24) :: R) B wz → Calls Try.prog 11 #[.slice a7 n4 p7, .slice a8 n4 p8] wz (fun e w' => ∃ a3 N cap3, e = .returned (.slice a3 N cap3) ∧ N ≤ 5000 ∧ X + Y < 2 ^ N ∧ Bs a3 (X + Y) N w' ∧ Below wz.heap.size wz w') from
    fun wz h => (radd_any a7 a8 p7 p8 X n4 Y n4 wz HX.out (HB7.out _ _ h) HY.out (HB8.out _ _ h) (by omega) (by omega)).mono (fun e w' ⟨a3, N, c3, h1, h2, h3, h4, h5⟩ => ⟨a3, N, c3, h1, by omega, h3, h4, h5⟩))
  have HI := Lib.hid (fun (a1 : Option Addr) (p1 N : Nat) (wz : World) (h : Kp w ((n9, (#[.int .u64 (d s 0), .int .u64 (d s 1), .int .u64 (d s 2), .int .u64 (d s 3)] : Array Value), 24) :: R) B wz) (hb : Bs a1 (X + Y) N wz) (hl : X + Y < 2 ^ N) (hN : N ≤ 5000) =>
    is_any a1 p1 n9 4 (X + Y) N 4 ov wz hl hb hN (by omega) (arow_lt (h.hd)) (cells_in4 h.hd HSC.out) HOV.out)
  go_region_held3 (fun w' => Kp w ((n9, (#[.int .u64 (d s 0), .int .u64 (d s 1), .int .u64 (d s 2), .int .u64 (d s 3)] : Array Value), 24) :: R) B w')
    (first | (with_reducible assumption) | (with_reducible exact KP.out) | (with_reducible exact KP.out.drew))
    (first
      | (go_at_call 11; with_reducible refine (HRA.out _ (by first | (with_reducible assumption) | (with_reducible exact KP.out) | (with_reducible exact KP.out.drew))).mono ?_; rintro e wa ⟨a1, N1, p1, rfl, hN1, hlt1, hB1, hb1⟩; have hSa := Kp.next (by first | (with_reducible assumption) | (with_reducible exact KP.out) | (with_reducible exact KP.out.drew)) hb1)
      | (go_at_call 10; with_reducible refine (HI.out _ _ _ _ (by with_reducible assumption) (by with_reducible assumption) (by with_reducible assumption) (by with_reducible assumption)).mono ?_; rintro e wb ⟨rfl, hb2⟩; have hSb := Kp.next (by with_reducible assumption) hb2))
  have KP := Lib.hid hSb.tl
  clear hSa hSb hb1 hb2 hB1 hlt1 hN1 HRA HI HSC HOV
  have c0 := (arow_cell (HR3.out _ _ KP.out) 0).trans rfl
  have c1 := (arow_cell (HR3.out _ _ KP.out) 1).trans rfl
  have c2 := (arow_cell (HR3.out _ _ KP.out) 2).trans rfl
  have c3 := (arow_cell (HR3.out _ _ KP.out) 3).trans rfl
  have e0 := (arow_cell (HR4.out _ _ KP.out) 0).trans rfl
  have e1 := (arow_cell (HR4.out _ _ KP.out) 1).trans rfl
  have e2 := (arow_cell (HR4.out _ _ KP.out) 2).trans rfl
  have e3 := (arow_cell (HR4.out _ _ KP.out) 3).trans rfl
  have l3 := arow_lt (HR3.out _ _ KP.out)
  have l4 := arow_lt (HR4.out _ _ KP.out)
  go_wp2_with fail
  clear c0 c1 c2 c3 e0 e1 e2 e3 l3 l4
  refine (HSUB.out _).mono ?_
  rintro e w3 ⟨rfl, hb⟩
  have KP := Lib.hid (KP.out.next hb)
  clear hb HSUB
  go_wp2_with fail
  have K2 := KP.out.alloc #[.int .u64 (d z 0), .int .u64 (d z 1), .int .u64 (d z 2), .int .u64 (d z 3)] 24
  generalize (w3.alloc (.cells #[.int .u64 (d z 0), .int .u64 (d z 1), .int .u64 (d z 2), .int .u64 (d z 3)] 24)) = v3 at *
  generalize w3.heap.size = n11 at *
  have KP := Lib.hid K2
  clear K2
  have hc := rsub_any a7 a8 p7 p8 X n4 Y n4 Z n4 v3 HX.out (HB7.out _ _ KP.out) HY.out (HB8.out _ _ KP.out) (by omega) (by omega) (by omega) HZ.out HZE.out
  rw [← HUN.out] at hc
  refine hc.mono ?_
  clear hc
  rintro e w4 ⟨a13, p13, rfl, hB13, hb⟩
  have KP := Lib.hid (KP.out.next hb)
  have HB13 := Lib.hid hB13
  clear hb hB13
  go_wp2_with fail
  have hc := is_any a13 p13 n11 4 Z n4 4 false w4 HZ.out HB13.out (by omega) (by omega) (arow_lt KP.out.hd) (cells_in4 KP.out.hd HZC.out) (decide_eq_false (by have := HZ.out; rw [HN4.out] at this; omega)).symm
  refine hc.mono ?_
  clear hc
  rintro e w5 ⟨rfl, hb⟩
  have KP := Lib.hid (KP.out.next hb).tl
  clear hb HB13 HZC HUN HZ HZE
  go_upto_region 9 with (fail)
  have HBP := Lib.hid (show ∀ wz, Kp w R B wz → Calls Try.prog 8 #[.slice (some ⟨w.heap.size + 1 + 1, 0, none⟩) 8 8] wz (fun e w' => ∃ ao cap', e = .returned (.slice ao n8 cap') ∧ n8 ≤ cap' ∧ Bs ao P n8 w' ∧ Below wz.heap.size wz w') from fun wz h => by rw [HN8.out]; exact bitsO_any (w.heap.size + 1 + 1) 0 8 8 P wz (arow_lt (HR5.out wz B h)) (cells_first (HR5.out wz B h)) (by omega))
  have HBQ := Lib.hid (show ∀ wz, Kp w R B wz → Calls Try.prog 8 #[.slice (some ⟨w.heap.size + 1 + 1, 8, none⟩) 8 8] wz (fun e w' => ∃ ao cap', e = .returned (.slice ao n8 cap') ∧ n8 ≤ cap' ∧ Bs ao Q n8 w' ∧ Below wz.heap.size wz w') from fun wz h => by rw [HN8.out]; exact bitsO_any (w.heap.size + 1 + 1) 8 8 8 Q wz (arow_lt (HR5.out wz B h)) (cells_second (HR5.out wz B h)) (by omega))
  go_region_held3 (fun w' => Kp w R B w')
    (first | (with_reducible assumption) | (with_reducible exact KP.out) | (with_reducible exact KP.out.drew))
    (first
      | (go_at_call 8; with_reducible refine (HBP.out _ (by first | (with_reducible assumption) | (with_reducible exact KP.out) | (with_reducible exact KP.out.drew))).mono ?_; rintro e wa ⟨a15, p15, rfl, hp15, hB15, hb1⟩; have hSa := Kp.next (by first | (with_reducible assumption) | (with_reducible exact KP.out) | (with_reducible exact KP.out.drew)) hb1)
      | (go_at_call 8; with_reducible refine (HBQ.out _ (by with_reducible assumption)).mono ?_; rintro e wb ⟨a16, p16, rfl, hp16, hB16, hb2⟩; have hSb := Kp.next (by with_reducible assumption) hb2))
  have K1 := (hSb.bit (hB15.below hb2 (Nat.le_refl _))).bit hB16
  have HB15 := Lib.hid (fun (wz : World) (R : List (Nat × Array Value × TypeId)) (h : Kp w R ((a16, Q, n8) :: (a15, P, n8) :: B) wz) => h.bits a15 P n8 (.tail _ (.head _)))
  have HB16 := Lib.hid (fun (wz : World) (R : List (Nat × Array Value × TypeId)) (h : Kp w R ((a16, Q, n8) :: (a15, P, n8) :: B) wz) => h.bits a16 Q n8 (.head _))
  have HB7 := Lib.hid (fun (wz : World) (R : List (Nat × Array Value × TypeId)) (h : Kp w R ((a16, Q, n8) :: (a15, P, n8) :: B) wz) => HB7.out wz R ⟨h.rows, fun a x n m => h.bits a x n (.tail _ (.tail _ m)), h.hw⟩)
  have HB8 := Lib.hid (fun (wz : World) (R : List (Nat × Array Value × TypeId)) (h : Kp w R ((a16, Q, n8) :: (a15, P, n8) :: B) wz) => HB8.out wz R ⟨h.rows, fun a x n m => h.bits a x n (.tail _ (.tail _ m)), h.hw⟩)
  generalize ((a16, Q, n8) :: (a15, P, n8) :: B) = B2 at *
  have KP := Lib.hid K1
  clear K1 hSa hSb hb1 hb2 hB15 hB16 hp15 hp16 HBP HBQ
  have c0 := (arow_cell (HR5.out _ _ KP.out) 0).trans rfl
  have c1 := (arow_cell (HR5.out _ _ KP.out) 1).trans rfl
  have c2 := (arow_cell (HR5.out _ _ KP.out) 2).trans rfl
  have c3 := (arow_cell (HR5.out _ _ KP.out) 3).trans rfl
  have c4 := (arow_cell (HR5.out _ _ KP.out) 4).trans rfl
  have c5 := (arow_cell (HR5.out _ _ KP.out) 5).trans rfl
  have c6 := (arow_cell (HR5.out _ _ KP.out) 6).trans rfl
  have c7 := (arow_cell (HR5.out _ _ KP.out) 7).trans rfl
  have c8 := (arow_cell (HR5.out _ _ KP.out) 8).trans rfl
  have c9 := (arow_cell (HR5.out _ _ KP.out) 9).trans rfl
  have c10 := (arow_cell (HR5.out _ _ KP.out) 10).trans rfl
  have c11 := (arow_cell (HR5.out _ _ KP.out) 11).trans rfl
  have c12 := (arow_cell (HR5.out _ _ KP.out) 12).trans rfl
  have c13 := (arow_cell (HR5.out _ _ KP.out) 13).trans rfl
  have c14 := (arow_cell (HR5.out _ _ KP.out) 14).trans rfl
  have c15 := (arow_cell (HR5.out _ _ KP.out) 15).trans rfl
  have l5 := arow_lt (HR5.out _ _ KP.out)
  go_wp2_with fail
  clear c0 c1 c2 c3 c4 c5 c6 c7 c8 c9 c10 c11 c12 c13 c14 c15 l5
  refine (HADD8.out _).mono ?_
  rintro e w6 ⟨rfl, hb⟩
  have KP := Lib.hid (KP.out.next hb)
  clear hb HADD8
  have c0 := (arow_cell (HR5.out _ _ KP.out) 0).trans rfl
  have c1 := (arow_cell (HR5.out _ _ KP.out) 1).trans rfl
  have c2 := (arow_cell (HR5.out _ _ KP.out) 2).trans rfl
  have c3 := (arow_cell (HR5.out _ _ KP.out) 3).trans rfl
  have c4 := (arow_cell (HR5.out _ _ KP.out) 4).trans rfl
  have c5 := (arow_cell (HR5.out _ _ KP.out) 5).trans rfl
  have c6 := (arow_cell (HR5.out _ _ KP.out) 6).trans rfl
  have c7 := (arow_cell (HR5.out _ _ KP.out) 7).trans rfl
  have l5 := arow_lt (HR5.out _ _ KP.out)
  go_wp2_with fail
  clear c0 c1 c2 c3 c4 c5 c6 c7 l5
  have K2 := KP.out.alloc #[.int .u64 (d t 0), .int .u64 (d t 1), .int .u64 (d t 2), .int .u64 (d t 3), .int .u64 (d t 4), .int .u64 (d t 5), .int .u64 (d t 6), .int .u64 (d t 7)] 26
  generalize (w6.alloc (.cells #[.int .u64 (d t 0), .int .u64 (d t 1), .int .u64 (d t 2), .int .u64 (d t 3), .int .u64 (d t 4), .int .u64 (d t 5), .int .u64 (d t 6), .int .u64 (d t 7)] 26)) = v6 at *
  generalize w6.heap.size = n17 at *
  have KP := Lib.hid K2
  clear K2
  refine (HLOW.out _).mono ?_
  rintro e w7 ⟨rfl, hb⟩
  have KP := Lib.hid (KP.out.next hb)
  clear hb HLOW
  go_upto_region 12 with (fail)
  have K2 := KP.out.alloc #[.int .u64 (d (P : Int) 0), .int .u64 (d (P : Int) 1), .int .u64 (d (P : Int) 2), .int .u64 (d (P : Int) 3)] 24
  generalize (w7.alloc (.cells #[.int .u64 (d (P : Int) 0), .int .u64 (d (P : Int) 1), .int .u64 (d (P : Int) 2), .int .u64 (d (P : Int) 3)] 24)) = v7 at *
  generalize w7.heap.size = n19 at *
  have KP := Lib.hid K2
  clear K2
  have HH := Lib.hid (show ∀ wz, Kp w ((n19, (#[.int .u64 (d (P : Int) 0), .int .u64 (d (P : Int) 1), .int .u64 (d (P : Int) 2), .int .u64 (d (P : Int) 3)] : Array Value), 24) :: (n17, (#[.int .u64 (d t 0), .int .u64 (d t 1), .int .u64 (d t 2), .int .u64 (d t 3), .int .u64 (d t 4), .int .u64 (d t 5), .int .u64 (d t 6), .int .u64 (d t 7)] : Array Value), 26) :: R) B2 wz → wz.cell? ⟨w.heap.size, 0, none⟩ = some (.int .u64 (d (X : Int) 0)) ∧ wz.cell? ⟨w.heap.size, 1, none⟩ = some (.int .u64 (d (X : Int) 1)) ∧ wz.cell? ⟨w.heap.size, 2, none⟩ = some (.int .u64 (d (X : Int) 2)) ∧ wz.cell? ⟨w.heap.size, 3, none⟩ = some (.int .u64 (d (X : Int) 3)) ∧ wz.cell? ⟨w.heap.size + 1, 0, none⟩ = some (.int .u64 (d (Y : Int) 0)) ∧ wz.cell? ⟨w.heap.size + 1, 1, none⟩ = some (.int .u64 (d (Y : Int) 1)) ∧ wz.cell? ⟨w.heap.size + 1, 2, none⟩ = some (.int .u64 (d (Y : Int) 2)) ∧ wz.cell? ⟨w.heap.size + 1, 3, none⟩ = some (.int .u64 (d (Y : Int) 3)) ∧ wz.cell? ⟨w.heap.size + 1 + 1, 0, none⟩ = some (.int .u64 (d (P : Int) 0)) ∧ wz.cell? ⟨w.heap.size + 1 + 1, 1, none⟩ = some (.int .u64 (d (P : Int) 1)) ∧ wz.cell? ⟨w.heap.size + 1 + 1, 2, none⟩ = some (.int .u64 (d (P : Int) 2)) ∧ wz.cell? ⟨w.heap.size + 1 + 1, 3, none⟩ = some (.int .u64 (d (P : Int) 3)) ∧ wz.cell? ⟨w.heap.size + 1 + 1, 4, none⟩ = some (.int .u64 (d (P : Int) 4)) ∧ wz.cell? ⟨w.heap.size + 1 + 1, 5, none⟩ = some (.int .u64 (d (P : Int) 5)) ∧ wz.cell? ⟨w.heap.size + 1 + 1, 6, none⟩ = some (.int .u64 (d (P : Int) 6)) ∧ wz.cell? ⟨w.heap.size + 1 + 1, 7, none⟩ = some (.int .u64 (d (P : Int) 7)) ∧ wz.cell? ⟨w.heap.size + 1 + 1, 8, none⟩ = some (.int .u64 (d (Q : Int) 0)) ∧ wz.cell? ⟨w.heap.size + 1 + 1, 9, none⟩ = some (.int .u64 (d (Q : Int) 1)) ∧ wz.cell? ⟨w.heap.size + 1 + 1, 10, none⟩ = some (.int .u64 (d (Q : Int) 2)) ∧ wz.cell? ⟨w.heap.size + 1 + 1, 11, none⟩ = some (.int .u64 (d (Q : Int) 3)) ∧ wz.cell? ⟨w.heap.size + 1 + 1, 12, none⟩ = some (.int .u64 (d (Q : Int) 4)) ∧ wz.cell? ⟨w.heap.size + 1 + 1, 13, none⟩ = some (.int .u64 (d (Q : Int) 5)) ∧ wz.cell? ⟨w.heap.size + 1 + 1, 14, none⟩ = some (.int .u64 (d (Q : Int) 6)) ∧ wz.cell? ⟨w.heap.size + 1 + 1, 15, none⟩ = some (.int .u64 (d (Q : Int) 7)) ∧ Kp w ((n19, (#[.int .u64 (d (P : Int) 0), .int .u64 (d (P : Int) 1), .int .u64 (d (P : Int) 2), .int .u64 (d (P : Int) 3)] : Array Value), 24) :: (n17, (#[.int .u64 (d t 0), .int .u64 (d t 1), .int .u64 (d t 2), .int .u64 (d t 3), .int .u64 (d t 4), .int .u64 (d t 5), .int .u64 (d t 6), .int .u64 (d t 7)] : Array Value), 26) :: R) B2 wz from fun wz h => ⟨(arow_cell (HR3.out wz B2 h.tl.tl) 0).trans rfl, (arow_cell (HR3.out wz B2 h.tl.tl) 1).trans rfl, (arow_cell (HR3.out wz B2 h.tl.tl) 2).trans rfl, (arow_cell (HR3.out wz B2 h.tl.tl) 3).trans rfl, (arow_cell (HR4.out wz B2 h.tl.tl) 0).trans rfl, (arow_cell (HR4.out wz B2 h.tl.tl) 1).trans rfl, (arow_cell (HR4.out wz B2 h.tl.tl) 2).trans rfl, (arow_cell (HR4.out wz B2 h.tl.tl) 3).trans rfl, (arow_cell (HR5.out wz B2 h.tl.tl) 0).trans rfl, (arow_cell (HR5.out wz B2 h.tl.tl) 1).trans rfl, (arow_cell (HR5.out wz B2 h.tl.tl) 2).trans rfl, (arow_cell (HR5.out wz B2 h.tl.tl) 3).trans rfl, (arow_cell (HR5.out wz B2 h.tl.tl) 4).trans rfl, (arow_cell (HR5.out wz B2 h.tl.tl) 5).trans rfl, (arow_cell (HR5.out wz B2 h.tl.tl) 6).trans rfl, (arow_cell (HR5.out wz B2 h.tl.tl) 7).trans rfl, (arow_cell (HR5.out wz B2 h.tl.tl) 8).trans rfl, (arow_cell (HR5.out wz B2 h.tl.tl) 9).trans rfl, (arow_cell (HR5.out wz B2 h.tl.tl) 10).trans rfl, (arow_cell (HR5.out wz B2 h.tl.tl) 11).trans rfl, (arow_cell (HR5.out wz B2 h.tl.tl) 12).trans rfl, (arow_cell (HR5.out wz B2 h.tl.tl) 13).trans rfl, (arow_cell (HR5.out wz B2 h.tl.tl) 14).trans rfl, (arow_cell (HR5.out wz B2 h.tl.tl) 15).trans rfl, h⟩)
  have HLS := Lib.hid (show ∀ wz, (wz.cell? ⟨w.heap.size, 0, none⟩ = some (.int .u64 (d (X : Int) 0)) ∧ wz.cell? ⟨w.heap.size, 1, none⟩ = some (.int .u64 (d (X : Int) 1)) ∧ wz.cell? ⟨w.heap.size, 2, none⟩ = some (.int .u64 (d (X : Int) 2)) ∧ wz.cell? ⟨w.heap.size, 3, none⟩ = some (.int .u64 (d (X : Int) 3)) ∧ wz.cell? ⟨w.heap.size + 1, 0, none⟩ = some (.int .u64 (d (Y : Int) 0)) ∧ wz.cell? ⟨w.heap.size + 1, 1, none⟩ = some (.int .u64 (d (Y : Int) 1)) ∧ wz.cell? ⟨w.heap.size + 1, 2, none⟩ = some (.int .u64 (d (Y : Int) 2)) ∧ wz.cell? ⟨w.heap.size + 1, 3, none⟩ = some (.int .u64 (d (Y : Int) 3)) ∧ wz.cell? ⟨w.heap.size + 1 + 1, 0, none⟩ = some (.int .u64 (d (P : Int) 0)) ∧ wz.cell? ⟨w.heap.size + 1 + 1, 1, none⟩ = some (.int .u64 (d (P : Int) 1)) ∧ wz.cell? ⟨w.heap.size + 1 + 1, 2, none⟩ = some (.int .u64 (d (P : Int) 2)) ∧ wz.cell? ⟨w.heap.size + 1 + 1, 3, none⟩ = some (.int .u64 (d (P : Int) 3)) ∧ wz.cell? ⟨w.heap.size + 1 + 1, 4, none⟩ = some (.int .u64 (d (P : Int) 4)) ∧ wz.cell? ⟨w.heap.size + 1 + 1, 5, none⟩ = some (.int .u64 (d (P : Int) 5)) ∧ wz.cell? ⟨w.heap.size + 1 + 1, 6, none⟩ = some (.int .u64 (d (P : Int) 6)) ∧ wz.cell? ⟨w.heap.size + 1 + 1, 7, none⟩ = some (.int .u64 (d (P : Int) 7)) ∧ wz.cell? ⟨w.heap.size + 1 + 1, 8, none⟩ = some (.int .u64 (d (Q : Int) 0)) ∧ wz.cell? ⟨w.heap.size + 1 + 1, 9, none⟩ = some (.int .u64 (d (Q : Int) 1)) ∧ wz.cell? ⟨w.heap.size + 1 + 1, 10, none⟩ = some (.int .u64 (d (Q : Int) 2)) ∧ wz.cell? ⟨w.heap.size + 1 + 1, 11, none⟩ = some (.int .u64 (d (Q : Int) 3)) ∧ wz.cell? ⟨w.heap.size + 1 + 1, 12, none⟩ = some (.int .u64 (d (Q : Int) 4)) ∧ wz.cell? ⟨w.heap.size + 1 + 1, 13, none⟩ = some (.int .u64 (d (Q : Int) 5)) ∧ wz.cell? ⟨w.heap.size + 1 + 1, 14, none⟩ = some (.int .u64 (d (Q : Int) 6)) ∧ wz.cell? ⟨w.heap.size + 1 + 1, 15, none⟩ = some (.int .u64 (d (Q : Int) 7)) ∧ Kp w ((n19, (#[.int .u64 (d (P : Int) 0), .int .u64 (d (P : Int) 1), .int .u64 (d (P : Int) 2), .int .u64 (d (P : Int) 3)] : Array Value), 24) :: (n17, (#[.int .u64 (d t 0), .int .u64 (d t 1), .int .u64 (d t 2), .int .u64 (d t 3), .int .u64 (d t 4), .int .u64 (d t 5), .int .u64 (d t 6), .int .u64 (d t 7)] : Array Value), 26) :: R) B2 wz) → Kp w ((n19, (#[.int .u64 (d (P : Int) 0), .int .u64 (d (P : Int) 1), .int .u64 (d (P : Int) 2), .int .u64 (d (P : Int) 3)] : Array Value), 24) :: (n17, (#[.int .u64 (d t 0), .int .u64 (d t 1), .int .u64 (d t 2), .int .u64 (d t 3), .int .u64 (d t 4), .int .u64 (d t 5), .int .u64 (d t 6), .int .u64 (d t 7)] : Array Value), 26) :: R) B2 wz from fun wz h => h.2.2.2.2.2.2.2.2.2.2.2.2.2.2.2.2.2.2.2.2.2.2.2.2)
  have HNX := Lib.hid (show ∀ wz wa, (wz.cell? ⟨w.heap.size, 0, none⟩ = some (.int .u64 (d (X : Int) 0)) ∧ wz.cell? ⟨w.heap.size, 1, none⟩ = some (.int .u64 (d (X : Int) 1)) ∧ wz.cell? ⟨w.heap.size, 2, none⟩ = some (.int .u64 (d (X : Int) 2)) ∧ wz.cell? ⟨w.heap.size, 3, none⟩ = some (.int .u64 (d (X : Int) 3)) ∧ wz.cell? ⟨w.heap.size + 1, 0, none⟩ = some (.int .u64 (d (Y : Int) 0)) ∧ wz.cell? ⟨w.heap.size + 1, 1, none⟩ = some (.int .u64 (d (Y : Int) 1)) ∧ wz.cell? ⟨w.heap.size + 1, 2, none⟩ = some (.int .u64 (d (Y : Int) 2)) ∧ wz.cell? ⟨w.heap.size + 1, 3, none⟩ = some (.int .u64 (d (Y : Int) 3)) ∧ wz.cell? ⟨w.heap.size + 1 + 1, 0, none⟩ = some (.int .u64 (d (P : Int) 0)) ∧ wz.cell? ⟨w.heap.size + 1 + 1, 1, none⟩ = some (.int .u64 (d (P : Int) 1)) ∧ wz.cell? ⟨w.heap.size + 1 + 1, 2, none⟩ = some (.int .u64 (d (P : Int) 2)) ∧ wz.cell? ⟨w.heap.size + 1 + 1, 3, none⟩ = some (.int .u64 (d (P : Int) 3)) ∧ wz.cell? ⟨w.heap.size + 1 + 1, 4, none⟩ = some (.int .u64 (d (P : Int) 4)) ∧ wz.cell? ⟨w.heap.size + 1 + 1, 5, none⟩ = some (.int .u64 (d (P : Int) 5)) ∧ wz.cell? ⟨w.heap.size + 1 + 1, 6, none⟩ = some (.int .u64 (d (P : Int) 6)) ∧ wz.cell? ⟨w.heap.size + 1 + 1, 7, none⟩ = some (.int .u64 (d (P : Int) 7)) ∧ wz.cell? ⟨w.heap.size + 1 + 1, 8, none⟩ = some (.int .u64 (d (Q : Int) 0)) ∧ wz.cell? ⟨w.heap.size + 1 + 1, 9, none⟩ = some (.int .u64 (d (Q : Int) 1)) ∧ wz.cell? ⟨w.heap.size + 1 + 1, 10, none⟩ = some (.int .u64 (d (Q : Int) 2)) ∧ wz.cell? ⟨w.heap.size + 1 + 1, 11, none⟩ = some (.int .u64 (d (Q : Int) 3)) ∧ wz.cell? ⟨w.heap.size + 1 + 1, 12, none⟩ = some (.int .u64 (d (Q : Int) 4)) ∧ wz.cell? ⟨w.heap.size + 1 + 1, 13, none⟩ = some (.int .u64 (d (Q : Int) 5)) ∧ wz.cell? ⟨w.heap.size + 1 + 1, 14, none⟩ = some (.int .u64 (d (Q : Int) 6)) ∧ wz.cell? ⟨w.heap.size + 1 + 1, 15, none⟩ = some (.int .u64 (d (Q : Int) 7)) ∧ Kp w ((n19, (#[.int .u64 (d (P : Int) 0), .int .u64 (d (P : Int) 1), .int .u64 (d (P : Int) 2), .int .u64 (d (P : Int) 3)] : Array Value), 24) :: (n17, (#[.int .u64 (d t 0), .int .u64 (d t 1), .int .u64 (d t 2), .int .u64 (d t 3), .int .u64 (d t 4), .int .u64 (d t 5), .int .u64 (d t 6), .int .u64 (d t 7)] : Array Value), 26) :: R) B2 wz) → Below wz.heap.size wz wa → (wa.cell? ⟨w.heap.size, 0, none⟩ = some (.int .u64 (d (X : Int) 0)) ∧ wa.cell? ⟨w.heap.size, 1, none⟩ = some (.int .u64 (d (X : Int) 1)) ∧ wa.cell? ⟨w.heap.size, 2, none⟩ = some (.int .u64 (d (X : Int) 2)) ∧ wa.cell? ⟨w.heap.size, 3, none⟩ = some (.int .u64 (d (X : Int) 3)) ∧ wa.cell? ⟨w.heap.size + 1, 0, none⟩ = some (.int .u64 (d (Y : Int) 0)) ∧ wa.cell? ⟨w.heap.size + 1, 1, none⟩ = some (.int .u64 (d (Y : Int) 1)) ∧ wa.cell? ⟨w.heap.size + 1, 2, none⟩ = some (.int .u64 (d (Y : Int) 2)) ∧ wa.cell? ⟨w.heap.size + 1, 3, none⟩ = some (.int .u64 (d (Y : Int) 3)) ∧ wa.cell? ⟨w.heap.size + 1 + 1, 0, none⟩ = some (.int .u64 (d (P : Int) 0)) ∧ wa.cell? ⟨w.heap.size + 1 + 1, 1, none⟩ = some (.int .u64 (d (P : Int) 1)) ∧ wa.cell? ⟨w.heap.size + 1 + 1, 2, none⟩ = some (.int .u64 (d (P : Int) 2)) ∧ wa.cell? ⟨w.heap.size + 1 + 1, 3, none⟩ = some (.int .u64 (d (P : Int) 3)) ∧ wa.cell? ⟨w.heap.size + 1 + 1, 4, none⟩ = some (.int .u64 (d (P : Int) 4)) ∧ wa.cell? ⟨w.heap.size + 1 + 1, 5, none⟩ = some (.int .u64 (d (P : Int) 5)) ∧ wa.cell? ⟨w.heap.size + 1 + 1, 6, none⟩ = some (.int .u64 (d (P : Int) 6)) ∧ wa.cell? ⟨w.heap.size + 1 + 1, 7, none⟩ = some (.int .u64 (d (P : Int) 7)) ∧ wa.cell? ⟨w.heap.size + 1 + 1, 8, none⟩ = some (.int .u64 (d (Q : Int) 0)) ∧ wa.cell? ⟨w.heap.size + 1 + 1, 9, none⟩ = some (.int .u64 (d (Q : Int) 1)) ∧ wa.cell? ⟨w.heap.size + 1 + 1, 10, none⟩ = some (.int .u64 (d (Q : Int) 2)) ∧ wa.cell? ⟨w.heap.size + 1 + 1, 11, none⟩ = some (.int .u64 (d (Q : Int) 3)) ∧ wa.cell? ⟨w.heap.size + 1 + 1, 12, none⟩ = some (.int .u64 (d (Q : Int) 4)) ∧ wa.cell? ⟨w.heap.size + 1 + 1, 13, none⟩ = some (.int .u64 (d (Q : Int) 5)) ∧ wa.cell? ⟨w.heap.size + 1 + 1, 14, none⟩ = some (.int .u64 (d (Q : Int) 6)) ∧ wa.cell? ⟨w.heap.size + 1 + 1, 15, none⟩ = some (.int .u64 (d (Q : Int) 7)) ∧ Kp w ((n19, (#[.int .u64 (d (P : Int) 0), .int .u64 (d (P : Int) 1), .int .u64 (d (P : Int) 2), .int .u64 (d (P : Int) 3)] : Array Value), 24) :: (n17, (#[.int .u64 (d t 0), .int .u64 (d t 1), .int .u64 (d t 2), .int .u64 (d t 3), .int .u64 (d t 4), .int .u64 (d t 5), .int .u64 (d t 6), .int .u64 (d t 7)] : Array Value), 26) :: R) B2 wa) from fun wz wa h hb => HH.out wa ((HLS.out wz h).next hb))
  have HRA := Lib.hid (show ∀ wz, Kp w ((n19, (#[.int .u64 (d (P : Int) 0), .int .u64 (d (P : Int) 1), .int .u64 (d (P : Int) 2), .int .u64 (d (P : Int) 3)] : Array Value), 24) :: (n17, (#[.int .u64 (d t 0), .int .u64 (d t 1), .int .u64 (d t 2), .int .u64 (d t 3), .int .u64 (d t 4), .int .u64 (d t 5), .int .u64 (d t 6), .int .u64 (d t 7)] : Array Value), 26) :: R) B2 wz → Calls Try.prog 11 #[.slice a15 n8 p15, .slice a16 n8 p16] wz (fun e w' => ∃ a3 N cap3, e = .returned (.slice a3 N cap3) ∧ N ≤ 5000 ∧ P + Q < 2 ^ N ∧ Bs a3 (P + Q) N w' ∧ Below wz.heap.size wz w') from
    fun wz h => (radd_any a15 a16 p15 p16 P n8 Q n8 wz HP.out (HB15.out _ _ h) HQ.out (HB16.out _ _ h) (by omega) (by omega)).mono (fun e w' ⟨a3, N, c3, h1, h2, h3, h4, h5⟩ => ⟨a3, N, c3, h1, by omega, h3, h4, h5⟩))
  have HI17 := Lib.hid (fun (a1 : Option Addr) (p1 N : Nat) (wz : World) (h : Kp w ((n19, (#[.int .u64 (d (P : Int) 0), .int .u64 (d (P : Int) 1), .int .u64 (d (P : Int) 2), .int .u64 (d (P : Int) 3)] : Array Value), 24) :: (n17, (#[.int .u64 (d t 0), .int .u64 (d t 1), .int .u64 (d t 2), .int .u64 (d t 3), .int .u64 (d t 4), .int .u64 (d t 5), .int .u64 (d t 6), .int .u64 (d t 7)] : Array Value), 26) :: R) B2 wz) (hb : Bs a1 (P + Q) N wz) (hl : P + Q < 2 ^ N) (hN : N ≤ 5000) =>
    is_any a1 p1 n17 8 (P + Q) N 8 ov8 wz hl hb hN (by omega) (arow_lt (h.tl.hd)) (cells_in8 h.tl.hd HTC.out) HOV8.out)
  have HI19 := Lib.hid (fun (wz : World) (h : Kp w ((n19, (#[.int .u64 (d (P : Int) 0), .int .u64 (d (P : Int) 1), .int .u64 (d (P : Int) 2), .int .u64 (d (P : Int) 3)] : Array Value), 24) :: (n17, (#[.int .u64 (d t 0), .int .u64 (d t 1), .int .u64 (d t 2), .int .u64 (d t 3), .int .u64 (d t 4), .int .u64 (d t 5), .int .u64 (d t 6), .int .u64 (d t 7)] : Array Value), 26) :: R) B2 wz) => is_any a15 p15 n19 4 P n8 4 hi wz HP.out (HB15.out _ _ h) (by omega) (by omega) (arow_lt h.hd) (cells_in4 h.hd (fun _ _ => rfl)) HHI.out)
  have HRC4 := Lib.hid (fun (wz : World) (h : Kp w ((n19, (#[.int .u64 (d (P : Int) 0), .int .u64 (d (P : Int) 1), .int .u64 (d (P : Int) 2), .int .u64 (d (P : Int) 3)] : Array Value), 24) :: (n17, (#[.int .u64 (d t 0), .int .u64 (d t 1), .int .u64 (d t 2), .int .u64 (d t 3), .int .u64 (d t 4), .int .u64 (d t 5), .int .u64 (d t 6), .int .u64 (d t 7)] : Array Value), 26) :: R) B2 wz) => rcmp_any a7 a8 p7 p8 X n4 Y n4 wz HX.out (HB7.out _ _ h) HY.out (HB8.out _ _ h) (by omega) (by omega))
  have HRC8 := Lib.hid (fun (wz : World) (h : Kp w ((n19, (#[.int .u64 (d (P : Int) 0), .int .u64 (d (P : Int) 1), .int .u64 (d (P : Int) 2), .int .u64 (d (P : Int) 3)] : Array Value), 24) :: (n17, (#[.int .u64 (d t 0), .int .u64 (d t 1), .int .u64 (d t 2), .int .u64 (d t 3), .int .u64 (d t 4), .int .u64 (d t 5), .int .u64 (d t 6), .int .u64 (d t 7)] : Array Value), 26) :: R) B2 wz) => rcmp_any a15 a16 p15 p16 P n8 Q n8 wz HP.out (HB15.out _ _ h) HQ.out (HB16.out _ _ h) (by omega) (by omega))
  have HRL4 := Lib.hid (fun (wz : World) (h : Kp w ((n19, (#[.int .u64 (d (P : Int) 0), .int .u64 (d (P : Int) 1), .int .u64 (d (P : Int) 2), .int .u64 (d (P : Int) 3)] : Array Value), 24) :: (n17, (#[.int .u64 (d t 0), .int .u64 (d t 1), .int .u64 (d t 2), .int .u64 (d t 3), .int .u64 (d t 4), .int .u64 (d t 5), .int .u64 (d t 6), .int .u64 (d t 7)] : Array Value), 26) :: R) B2 wz) => rlen_any a7 p7 X n4 wz HX.out (HB7.out _ _ h) (by omega))
  have HRL8 := Lib.hid (fun (wz : World) (h : Kp w ((n19, (#[.int .u64 (d (P : Int) 0), .int .u64 (d (P : Int) 1), .int .u64 (d (P : Int) 2), .int .u64 (d (P : Int) 3)] : Array Value), 24) :: (n17, (#[.int .u64 (d t 0), .int .u64 (d t 1), .int .u64 (d t 2), .int .u64 (d t 3), .int .u64 (d t 4), .int .u64 (d t 5), .int .u64 (d t 6), .int .u64 (d t 7)] : Array Value), 26) :: R) B2 wz) => rlen_any a15 p15 P n8 wz HP.out (HB15.out _ _ h) (by omega))
  generalize cmpI (X : Int) (Y : Int) = c4 at HC4 HRC4
  generalize cmpI (P : Int) (Q : Int) = c8 at HC8 HRC8
  generalize bl (X : Int) = m4 at HL4 HRL4
  generalize bl (P : Int) = m8 at HL8 HRL8
  clear HX HY HP HQ HOV8 HTC HHI HB7 HB8 HB15 HB16 HR3 HR4 HR5 HN4 HN8
  go_region_held3 (fun w' => w'.cell? ⟨w.heap.size, 0, none⟩ = some (.int .u64 (d (X : Int) 0)) ∧ w'.cell? ⟨w.heap.size, 1, none⟩ = some (.int .u64 (d (X : Int) 1)) ∧ w'.cell? ⟨w.heap.size, 2, none⟩ = some (.int .u64 (d (X : Int) 2)) ∧ w'.cell? ⟨w.heap.size, 3, none⟩ = some (.int .u64 (d (X : Int) 3)) ∧ w'.cell? ⟨w.heap.size + 1, 0, none⟩ = some (.int .u64 (d (Y : Int) 0)) ∧ w'.cell? ⟨w.heap.size + 1, 1, none⟩ = some (.int .u64 (d (Y : Int) 1)) ∧ w'.cell? ⟨w.heap.size + 1, 2, none⟩ = some (.int .u64 (d (Y : Int) 2)) ∧ w'.cell? ⟨w.heap.size + 1, 3, none⟩ = some (.int .u64 (d (Y : Int) 3)) ∧ w'.cell? ⟨w.heap.size + 1 + 1, 0, none⟩ = some (.int .u64 (d (P : Int) 0)) ∧ w'.cell? ⟨w.heap.size + 1 + 1, 1, none⟩ = some (.int .u64 (d (P : Int) 1)) ∧ w'.cell? ⟨w.heap.size + 1 + 1, 2, none⟩ = some (.int .u64 (d (P : Int) 2)) ∧ w'.cell? ⟨w.heap.size + 1 + 1, 3, none⟩ = some (.int .u64 (d (P : Int) 3)) ∧ w'.cell? ⟨w.heap.size + 1 + 1, 4, none⟩ = some (.int .u64 (d (P : Int) 4)) ∧ w'.cell? ⟨w.heap.size + 1 + 1, 5, none⟩ = some (.int .u64 (d (P : Int) 5)) ∧ w'.cell? ⟨w.heap.size + 1 + 1, 6, none⟩ = some (.int .u64 (d (P : Int) 6)) ∧ w'.cell? ⟨w.heap.size + 1 + 1, 7, none⟩ = some (.int .u64 (d (P : Int) 7)) ∧ w'.cell? ⟨w.heap.size + 1 + 1, 8, none⟩ = some (.int .u64 (d (Q : Int) 0)) ∧ w'.cell? ⟨w.heap.size + 1 + 1, 9, none⟩ = some (.int .u64 (d (Q : Int) 1)) ∧ w'.cell? ⟨w.heap.size + 1 + 1, 10, none⟩ = some (.int .u64 (d (Q : Int) 2)) ∧ w'.cell? ⟨w.heap.size + 1 + 1, 11, none⟩ = some (.int .u64 (d (Q : Int) 3)) ∧ w'.cell? ⟨w.heap.size + 1 + 1, 12, none⟩ = some (.int .u64 (d (Q : Int) 4)) ∧ w'.cell? ⟨w.heap.size + 1 + 1, 13, none⟩ = some (.int .u64 (d (Q : Int) 5)) ∧ w'.cell? ⟨w.heap.size + 1 + 1, 14, none⟩ = some (.int .u64 (d (Q : Int) 6)) ∧ w'.cell? ⟨w.heap.size + 1 + 1, 15, none⟩ = some (.int .u64 (d (Q : Int) 7)) ∧ Kp w ((n19, (#[.int .u64 (d (P : Int) 0), .int .u64 (d (P : Int) 1), .int .u64 (d (P : Int) 2), .int .u64 (d (P : Int) 3)] : Array Value), 24) :: (n17, (#[.int .u64 (d t 0), .int .u64 (d t 1), .int .u64 (d t 2), .int .u64 (d t 3), .int .u64 (d t 4), .int .u64 (d t 5), .int .u64 (d t 6), .int .u64 (d t 7)] : Array Value), 26) :: R) B2 w')
    (first | (with_reducible assumption) | (with_reducible exact HH.out _ KP.out) | (with_reducible exact HH.out _ KP.out.drew))
    (first
      | (go_at_call 11; with_reducible refine (HRA.out _ (by first | (with_reducible exact HLS.out _ (by with_reducible assumption)) | (with_reducible exact KP.out) | (with_reducible exact KP.out.drew))).mono ?_; rintro e wx1 ⟨a1, N1, p1, rfl, hN1, hlt1, hB1, hb1⟩; have hS1 := HNX.out _ _ (by first | (with_reducible assumption) | (with_reducible exact HH.out _ KP.out) | (with_reducible exact HH.out _ KP.out.drew)) hb1)
      | (go_at_call 10; with_reducible refine (HI17.out _ _ _ _ (HLS.out _ (by with_reducible assumption)) (by with_reducible assumption) (by with_reducible assumption) (by with_reducible assumption)).mono ?_; rintro e wx2 ⟨rfl, hb2⟩; have hS2 := HNX.out _ _ (by first | (with_reducible assumption) | (with_reducible exact HH.out _ KP.out) | (with_reducible exact HH.out _ KP.out.drew)) hb2)
      | (go_at_call 10; with_reducible refine (HI19.out _ (HLS.out _ (by with_reducible assumption))).mono ?_; rintro e wx3 ⟨rfl, hb3⟩; have hS3 := HNX.out _ _ (by first | (with_reducible assumption) | (with_reducible exact HH.out _ KP.out) | (with_reducible exact HH.out _ KP.out.drew)) hb3)
      | (go_at_call 16; with_reducible refine (HC4.out _).mono ?_; rintro e wx4 ⟨rfl, hb4⟩; have hS4 := HNX.out _ _ (by first | (with_reducible assumption) | (with_reducible exact HH.out _ KP.out) | (with_reducible exact HH.out _ KP.out.drew)) hb4)
      | (go_at_call 17; with_reducible refine (HRC4.out _ (HLS.out _ (by with_reducible assumption))).mono ?_; rintro e wx5 ⟨rfl, hb5⟩; have hS5 := HNX.out _ _ (by first | (with_reducible assumption) | (with_reducible exact HH.out _ KP.out) | (with_reducible exact HH.out _ KP.out.drew)) hb5)
      | (go_at_call 18; with_reducible refine (HC8.out _).mono ?_; rintro e wx6 ⟨rfl, hb6⟩; have hS6 := HNX.out _ _ (by first | (with_reducible assumption) | (with_reducible exact HH.out _ KP.out) | (with_reducible exact HH.out _ KP.out.drew)) hb6)
      | (go_at_call 17; with_reducible refine (HRC8.out _ (HLS.out _ (by with_reducible assumption))).mono ?_; rintro e wx7 ⟨rfl, hb7⟩; have hS7 := HNX.out _ _ (by first | (with_reducible assumption) | (with_reducible exact HH.out _ KP.out) | (with_reducible exact HH.out _ KP.out.drew)) hb7)
      | (go_at_call 19; with_reducible refine (HL4.out _).mono ?_; rintro e wx8 ⟨rfl, hb8⟩; have hS8 := HNX.out _ _ (by first | (with_reducible assumption) | (with_reducible exact HH.out _ KP.out) | (with_reducible exact HH.out _ KP.out.drew)) hb8)
      | (go_at_call 20; with_reducible refine (HRL4.out _ (HLS.out _ (by with_reducible assumption))).mono ?_; rintro e wx9 ⟨rfl, hb9⟩; have hS9 := HNX.out _ _ (by first | (with_reducible assumption) | (with_reducible exact HH.out _ KP.out) | (with_reducible exact HH.out _ KP.out.drew)) hb9)
      | (go_at_call 21; with_reducible refine (HL8.out _).mono ?_; rintro e wx10 ⟨rfl, hb10⟩; have hS10 := HNX.out _ _ (by first | (with_reducible assumption) | (with_reducible exact HH.out _ KP.out) | (with_reducible exact HH.out _ KP.out.drew)) hb10)
      | (go_at_call 20; with_reducible refine (HRL8.out _ (HLS.out _ (by with_reducible assumption))).mono ?_; rintro e wx11 ⟨rfl, hb11⟩; have hS11 := HNX.out _ _ (by first | (with_reducible assumption) | (with_reducible exact HH.out _ KP.out) | (with_reducible exact HH.out _ KP.out.drew)) hb11)
      | (go_at_call 22; with_reducible refine (works_any _).mono ?_; rintro e wx12 ⟨rfl, hb12⟩; have hS12 := HNX.out _ _ (by first | (with_reducible assumption) | (with_reducible exact HH.out _ KP.out) | (with_reducible exact HH.out _ KP.out.drew)) hb12))
  all_goals
    go_wp2_with fail
    go_ret
    exact ⟨rfl, (HLS.out _ (by with_reducible assumption)).hw⟩
end Go.Proofs.Ytiglhgcckceikaa
