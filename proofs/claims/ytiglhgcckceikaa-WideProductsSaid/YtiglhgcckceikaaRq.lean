/- WideProducts: its walk. -/
import Derived.Test.YtiglhgcckceikaaRp
import Derived.Test.YtiglhgcckceikaaWu
import Derived.Deep.Cut
namespace Go.Proofs.Ytiglhgcckceikaa
open Go.RowKit

theorem prods_start (w : World) (X Y : Nat) : Kp w [(w.heap.size + 1, #[.int .u64 (d (Y : Int) 0), .int .u64 (d (Y : Int) 1), .int .u64 (d (Y : Int) 2), .int .u64 (d (Y : Int) 3)], 24), (w.heap.size, #[.int .u64 (d (X : Int) 0), .int .u64 (d (X : Int) 1), .int .u64 (d (X : Int) 2), .int .u64 (d (X : Int) 3)], 24)] [] ((w.alloc (.cells #[.int .u64 (d (X : Int) 0), .int .u64 (d (X : Int) 1), .int .u64 (d (X : Int) 2), .int .u64 (d (X : Int) 3)] 24)).alloc (.cells #[.int .u64 (d (Y : Int) 0), .int .u64 (d (Y : Int) 1), .int .u64 (d (Y : Int) 2), .int .u64 (d (Y : Int) 3)] 24)) := by
  have k := ((Kp.start w).alloc #[.int .u64 (d (X : Int) 0), .int .u64 (d (X : Int) 1), .int .u64 (d (X : Int) 2), .int .u64 (d (X : Int) 3)] 24).alloc #[.int .u64 (d (Y : Int) 0), .int .u64 (d (Y : Int) 1), .int .u64 (d (Y : Int) 2), .int .u64 (d (Y : Int) 3)] 24
  simp only [World.size_alloc] at k
  exact k
theorem mul_below (X Y a b c : Nat) (hX : X < 2 ^ a) (hY : Y < 2 ^ b) (hc : c = a + b) : X * Y < 2 ^ c := by
  rw [hc, Nat.pow_add]
  exact Nat.mul_lt_mul'' hX hY
set_option maxRecDepth 100000 in
set_option maxHeartbeats 4000000 in
theorem prods_any (X Y : Nat) (w : World) (hX : X < 2 ^ (64 * 4)) (hY : Y < 2 ^ (64 * 4)) :
    Calls Try.prog 4 #[.agg #[.int .u64 (d (X : Int) 0), .int .u64 (d (X : Int) 1), .int .u64 (d (X : Int) 2), .int .u64 (d (X : Int) 3)], .agg #[.int .u64 (d (Y : Int) 0), .int .u64 (d (Y : Int) 1), .int .u64 (d (Y : Int) 2), .int .u64 (d (Y : Int) 3)]] w fun e w' => e = .returned (.bool true) ∧ Below w.heap.size w w' := by
  obtain ⟨p, hp1, hp2⟩ := mul_facts X Y hX hY
  obtain ⟨s, hs1, hs2⟩ := small_facts X Y
  obtain ⟨q, r, bz, hd1, hd2, hd3, hd4⟩ := dm_facts X Y hX hY
  obtain ⟨u, v, zz, he1, he2, he3, he4⟩ := d128_facts X Y
  have HXY := Lib.hid (mul_below X Y _ _ (64 * 8) hX hY rfl)
  obtain ⟨n4, hn4⟩ : ∃ n, n = 64 * 4 := ⟨_, rfl⟩
  have HX4 := Lib.hid hX
  have HX := Lib.hid (show X < 2 ^ n4 by rw [hn4]; exact hX)
  have HY := Lib.hid (show Y < 2 ^ n4 by rw [hn4]; exact hY)
  have HMUL := Lib.hid hp1
  have HPC := Lib.hid hp2
  have HSM := Lib.hid hs1
  have HSC := Lib.hid hs2
  have HDM := Lib.hid hd1
  have HEB := Lib.hid hd2
  have HD3 := Lib.hid hd3
  have HD4 := Lib.hid hd4
  have H128 := Lib.hid he1
  have HE2 := Lib.hid he2
  have HE3 := Lib.hid he3
  have HE4 := Lib.hid he4
  have hn4b : n4 ≤ 512 := by omega
  have HN4 := Lib.hid hn4
  clear hX hY hp1 hp2 hs1 hs2 hd1 hd2 hd3 hd4 he1 he2 he3 he4 hn4
  have K0 := prods_start w X Y
  obtain ⟨R, hR⟩ : ∃ R, [(w.heap.size + 1, (#[.int .u64 (d (Y : Int) 0), .int .u64 (d (Y : Int) 1), .int .u64 (d (Y : Int) 2), .int .u64 (d (Y : Int) 3)] : Array Value), 24), (w.heap.size, #[.int .u64 (d (X : Int) 0), .int .u64 (d (X : Int) 1), .int .u64 (d (X : Int) 2), .int .u64 (d (X : Int) 3)], 24)] = R := ⟨_, rfl⟩
  rw [hR] at K0
  have HR2 := Lib.hid (fun (wz : World) (B : List (Option Addr × Nat × Nat)) (h : Kp w R B wz) => h.rows _ _ _ (by rw [← hR]; exact .tail _ (.head _)))
  have HR3 := Lib.hid (fun (wz : World) (B : List (Option Addr × Nat × Nat)) (h : Kp w R B wz) => h.rows _ _ _ (by rw [← hR]; exact .head _))
  have KP0 := Lib.hid K0
  clear hR K0
  have HBX := Lib.hid (show ∀ wz, Kp w R [] wz → Calls Try.prog 8 #[.slice (some ⟨w.heap.size, 0, none⟩) 4 4] wz (fun e w' => ∃ b cap', e = .returned (.slice (some ⟨b, 0, none⟩) n4 cap') ∧ n4 ≤ cap' ∧ Bs (some ⟨b, 0, none⟩) X n4 w' ∧ Below wz.heap.size wz w') from fun wz h => by
    rw [HN4.out]
    refine (bits_any (w.heap.size) 4 4 X wz (arow_lt (HR2.out wz [] h)) (cells_in4 (HR2.out wz [] h) (fun _ _ => rfl)) (by omega)).mono ?_
    rintro e w' ⟨ao, c, h1, h2, h3, h4⟩
    obtain ⟨b, rfl⟩ := h3.head (by omega)
    exact ⟨b, c, h1, h2, h3, h4⟩)
  have HBY := Lib.hid (show ∀ wz, Kp w R [] wz → Calls Try.prog 8 #[.slice (some ⟨w.heap.size + 1, 0, none⟩) 4 4] wz (fun e w' => ∃ b cap', e = .returned (.slice (some ⟨b, 0, none⟩) n4 cap') ∧ n4 ≤ cap' ∧ Bs (some ⟨b, 0, none⟩) Y n4 w' ∧ Below wz.heap.size wz w') from fun wz h => by
    rw [HN4.out]
    refine (bits_any (w.heap.size + 1) 4 4 Y wz (arow_lt (HR3.out wz [] h)) (cells_in4 (HR3.out wz [] h) (fun _ _ => rfl)) (by omega)).mono ?_
    rintro e w' ⟨ao, c, h1, h2, h3, h4⟩
    obtain ⟨b, rfl⟩ := h3.head (by omega)
    exact ⟨b, c, h1, h2, h3, h4⟩)
  go_enter Try.func4, Try.ntmps4
  try simp only [List.append_eq, List.cons_append, List.nil_append]
  go_upto_region 1 with (fail)
  go_region_held3 (fun w' => Kp w R [] w')
    (first | (with_reducible assumption) | (with_reducible exact KP0.out) | (with_reducible exact KP0.out.drew))
    (first
      | (go_at_call 8; with_reducible refine (HBX.out _ (by first | (with_reducible assumption) | (with_reducible exact KP0.out) | (with_reducible exact KP0.out.drew))).mono ?_; rintro e wa ⟨b5, p5, rfl, hp5, hB5, hb1⟩; have hSa := Kp.next (by first | (with_reducible assumption) | (with_reducible exact KP0.out) | (with_reducible exact KP0.out.drew)) hb1)
      | (go_at_call 8; with_reducible refine (HBY.out _ (by with_reducible assumption)).mono ?_; rintro e wb ⟨b6, p6, rfl, hp6, hB6, hb2⟩; have hSb := Kp.next (by with_reducible assumption) hb2))
  have K1 := (hSb.bit (hB5.below hb2 (Nat.le_refl _))).bit hB6
  obtain ⟨B, hB⟩ : ∃ B, [((some ⟨b6, 0, none⟩ : Option Addr), Y, n4), (some ⟨b5, 0, none⟩, X, n4)] = B := ⟨_, rfl⟩
  rw [hB] at K1
  have HB5 := Lib.hid (fun (wz : World) (R : List (Nat × Array Value × TypeId)) (h : Kp w R B wz) => h.bits _ _ _ (by rw [← hB]; exact .tail _ (.head _)))
  have HB6 := Lib.hid (fun (wz : World) (R : List (Nat × Array Value × TypeId)) (h : Kp w R B wz) => h.bits _ _ _ (by rw [← hB]; exact .head _))
  have KP := Lib.hid K1
  have q5 : (64 : Int) ≤ (p5 : Int) := by have := HN4.out; omega
  have q6 : (64 : Int) ≤ (p6 : Int) := by have := HN4.out; omega
  have q7 : (128 : Int) ≤ (p5 : Int) := by have := HN4.out; omega
  clear hB K1 hSa hSb hb1 hb2 hB5 hB6 hp5 hp6 HBX HBY KP0
  have c0 := (arow_cell (HR2.out _ _ KP.out) 0).trans rfl
  have c1 := (arow_cell (HR2.out _ _ KP.out) 1).trans rfl
  have c2 := (arow_cell (HR2.out _ _ KP.out) 2).trans rfl
  have c3 := (arow_cell (HR2.out _ _ KP.out) 3).trans rfl
  have e0 := (arow_cell (HR3.out _ _ KP.out) 0).trans rfl
  have e1 := (arow_cell (HR3.out _ _ KP.out) 1).trans rfl
  have e2 := (arow_cell (HR3.out _ _ KP.out) 2).trans rfl
  have e3 := (arow_cell (HR3.out _ _ KP.out) 3).trans rfl
  have l2 := arow_lt (HR2.out _ _ KP.out)
  have l3 := arow_lt (HR3.out _ _ KP.out)
  go_wp2_with fail
  clear c0 c1 c2 c3 e0 e1 e2 e3 l2 l3
  refine (HMUL.out _).mono ?_
  rintro e w2 ⟨rfl, hb⟩
  have KP := Lib.hid (KP.out.next hb)
  clear hb HMUL
  have c0 := (arow_cell (HR2.out _ _ KP.out) 0).trans rfl
  have e0 := (arow_cell (HR3.out _ _ KP.out) 0).trans rfl
  have l2 := arow_lt (HR2.out _ _ KP.out)
  have l3 := arow_lt (HR3.out _ _ KP.out)
  go_wp2_with fail
  clear c0 e0 l2 l3
  have K2 := KP.out.alloc #[.int .u64 (d p 0), .int .u64 (d p 1), .int .u64 (d p 2), .int .u64 (d p 3), .int .u64 (d p 4), .int .u64 (d p 5), .int .u64 (d p 6), .int .u64 (d p 7)] 26
  generalize (w2.alloc (.cells #[.int .u64 (d p 0), .int .u64 (d p 1), .int .u64 (d p 2), .int .u64 (d p 3), .int .u64 (d p 4), .int .u64 (d p 5), .int .u64 (d p 6), .int .u64 (d p 7)] 26)) = v2 at *
  generalize w2.heap.size = n7 at *
  have KP := Lib.hid K2
  clear K2
  refine (HSM.out _).mono ?_
  rintro e w3 ⟨rfl, hb⟩
  have KP := Lib.hid (KP.out.next hb)
  clear hb HSM
  go_upto_region 4 with (fail)
  have K2 := KP.out.alloc #[.int .u64 (d s 0), .int .u64 (d s 1)] 49
  generalize (w3.alloc (.cells #[.int .u64 (d s 0), .int .u64 (d s 1)] 49)) = v3 at *
  generalize w3.heap.size = n8 at *
  have KP := Lib.hid K2
  clear K2
  have HRM1 := Lib.hid (show ∀ wz, Kp w ((n8, (#[.int .u64 (d s 0), .int .u64 (d s 1)] : Array Value), 49) :: (n7, (#[.int .u64 (d p 0), .int .u64 (d p 1), .int .u64 (d p 2), .int .u64 (d p 3), .int .u64 (d p 4), .int .u64 (d p 5), .int .u64 (d p 6), .int .u64 (d p 7)] : Array Value), 26) :: R) B wz → Calls Try.prog 25 #[.slice (some ⟨b5, 0, none⟩) n4 p5, .slice (some ⟨b6, 0, none⟩) n4 p6] wz (fun e w' => ∃ a3 N cap3, e = .returned (.slice a3 N cap3) ∧ N ≤ 5000 ∧ X * Y < 2 ^ N ∧ Bs a3 (X * Y) N w' ∧ Below wz.heap.size wz w') from
    fun wz h => (rmul_any (some ⟨b5, 0, none⟩) (some ⟨b6, 0, none⟩) p5 p6 X n4 Y n4 wz HX.out (HB5.out _ _ h) HY.out (HB6.out _ _ h) (by omega) (by omega)).mono (fun e w' ⟨a3, N, c3, h1, h2, h3, h4, h5⟩ => ⟨a3, N, c3, h1, by omega, h3, h4, h5⟩))
  have HRM2 := Lib.hid (show ∀ p5 p6 wz, Kp w ((n8, (#[.int .u64 (d s 0), .int .u64 (d s 1)] : Array Value), 49) :: (n7, (#[.int .u64 (d p 0), .int .u64 (d p 1), .int .u64 (d p 2), .int .u64 (d p 3), .int .u64 (d p 4), .int .u64 (d p 5), .int .u64 (d p 6), .int .u64 (d p 7)] : Array Value), 26) :: R) B wz → Calls Try.prog 25 #[.slice (some ⟨b5, 0, none⟩) 64 p5, .slice (some ⟨b6, 0, none⟩) 64 p6] wz (fun e w' => ∃ a3 N cap3, e = .returned (.slice a3 N cap3) ∧ N ≤ 5000 ∧ X % 2 ^ 64 * (Y % 2 ^ 64) < 2 ^ N ∧ Bs a3 (X % 2 ^ 64 * (Y % 2 ^ 64)) N w' ∧ Below wz.heap.size wz w') from
    fun p5 p6 wz h => (rmul_any (some ⟨b5, 0, none⟩) (some ⟨b6, 0, none⟩) p5 p6 (X % 2 ^ 64) 64 (Y % 2 ^ 64) 64 wz (Nat.mod_lt _ (Nat.two_pow_pos 64)) ((HB5.out _ _ h).cut (by have := HN4.out; omega)) (Nat.mod_lt _ (Nat.two_pow_pos 64)) ((HB6.out _ _ h).cut (by have := HN4.out; omega)) (by omega) (by omega)).mono (fun e w' ⟨a3, N, c3, h1, h2, h3, h4, h5⟩ => ⟨a3, N, c3, h1, by omega, h3, h4, h5⟩))
  have HI1 := Lib.hid (fun (a1 : Option Addr) (p1 N : Nat) (wz : World) (h : Kp w ((n8, (#[.int .u64 (d s 0), .int .u64 (d s 1)] : Array Value), 49) :: (n7, (#[.int .u64 (d p 0), .int .u64 (d p 1), .int .u64 (d p 2), .int .u64 (d p 3), .int .u64 (d p 4), .int .u64 (d p 5), .int .u64 (d p 6), .int .u64 (d p 7)] : Array Value), 26) :: R) B wz) (hb : Bs a1 (X * Y) N wz) (hl : X * Y < 2 ^ N) (hN : N ≤ 5000) =>
    is_any a1 p1 n7 8 (X * Y) N 8 false wz hl hb hN (by omega) (arow_lt (h.tl.hd)) (cells_in8 (h.tl.hd) HPC.out) (decide_eq_false (Nat.not_le_of_lt HXY.out)).symm)
  have HI2 := Lib.hid (fun (a1 : Option Addr) (p1 N : Nat) (wz : World) (h : Kp w ((n8, (#[.int .u64 (d s 0), .int .u64 (d s 1)] : Array Value), 49) :: (n7, (#[.int .u64 (d p 0), .int .u64 (d p 1), .int .u64 (d p 2), .int .u64 (d p 3), .int .u64 (d p 4), .int .u64 (d p 5), .int .u64 (d p 6), .int .u64 (d p 7)] : Array Value), 26) :: R) B wz) (hb : Bs a1 (X % 2 ^ 64 * (Y % 2 ^ 64)) N wz) (hl : X % 2 ^ 64 * (Y % 2 ^ 64) < 2 ^ N) (hN : N ≤ 5000) =>
    is_any a1 p1 n8 2 (X % 2 ^ 64 * (Y % 2 ^ 64)) N 2 false wz hl hb hN (by omega) (arow_lt (h.hd)) (cells_in2 (h.hd) HSC.out) (decide_eq_false (Nat.not_le_of_lt (mul_below _ _ 64 64 (64 * 2) (Nat.mod_lt _ (Nat.two_pow_pos 64)) (Nat.mod_lt _ (Nat.two_pow_pos 64)) rfl))).symm)
  go_region_held3 (fun w' => Kp w ((n8, (#[.int .u64 (d s 0), .int .u64 (d s 1)] : Array Value), 49) :: (n7, (#[.int .u64 (d p 0), .int .u64 (d p 1), .int .u64 (d p 2), .int .u64 (d p 3), .int .u64 (d p 4), .int .u64 (d p 5), .int .u64 (d p 6), .int .u64 (d p 7)] : Array Value), 26) :: R) B w')
    (first | (with_reducible assumption) | (with_reducible exact KP.out) | (with_reducible exact KP.out.drew))
    (first
      | (go_at_call 25; with_reducible refine (HRM1.out _ (by first | (with_reducible assumption) | (with_reducible exact KP.out) | (with_reducible exact KP.out.drew))).mono ?_; rintro e wa ⟨a1, N1, p1, rfl, hN1, hlt1, hB1, hb1⟩; have hSa := Kp.next (by first | (with_reducible assumption) | (with_reducible exact KP.out) | (with_reducible exact KP.out.drew)) hb1)
      | (go_at_call 10; with_reducible refine (HI1.out _ _ _ _ (by with_reducible assumption) (by with_reducible assumption) (by with_reducible assumption) (by with_reducible assumption)).mono ?_; rintro e wb ⟨rfl, hb2⟩; have hSb := Kp.next (by with_reducible assumption) hb2)
      | (go_at_call 25; with_reducible refine (HRM2.out _ _ _ (by with_reducible assumption)).mono ?_; rintro e wc ⟨a3, N3, p3, rfl, hN3, hlt3, hB3, hb3⟩; have hSc := Kp.next (by with_reducible assumption) hb3)
      | (go_at_call 10; with_reducible refine (HI2.out _ _ _ _ (by with_reducible assumption) (by with_reducible assumption) (by with_reducible assumption) (by with_reducible assumption)).mono ?_; rintro e wd ⟨rfl, hb4⟩; have hSd := Kp.next (by with_reducible assumption) hb4))
  have KP := Lib.hid hSd.tl.tl
  clear hSa hSb hSc hSd hb1 hb2 hb3 hb4 hB1 hlt1 hN1 hB3 hlt3 hN3 HRM1 HRM2 HI1 HI2 HPC HSC HXY
  have c0 := (arow_cell (HR2.out _ _ KP.out) 0).trans rfl
  have c1 := (arow_cell (HR2.out _ _ KP.out) 1).trans rfl
  have c2 := (arow_cell (HR2.out _ _ KP.out) 2).trans rfl
  have c3 := (arow_cell (HR2.out _ _ KP.out) 3).trans rfl
  have e0 := (arow_cell (HR3.out _ _ KP.out) 0).trans rfl
  have e1 := (arow_cell (HR3.out _ _ KP.out) 1).trans rfl
  have e2 := (arow_cell (HR3.out _ _ KP.out) 2).trans rfl
  have e3 := (arow_cell (HR3.out _ _ KP.out) 3).trans rfl
  have l2 := arow_lt (HR2.out _ _ KP.out)
  have l3 := arow_lt (HR3.out _ _ KP.out)
  go_wp2_with fail
  clear c0 c1 c2 c3 e0 e1 e2 e3 l2 l3
  refine (HDM.out _).mono ?_
  rintro e w5 ⟨rfl, hb⟩
  have KP := Lib.hid (KP.out.next hb)
  clear hb HDM
  have c0 := (arow_cell (HR2.out _ _ KP.out) 0).trans rfl
  have c1 := (arow_cell (HR2.out _ _ KP.out) 1).trans rfl
  have e0 := (arow_cell (HR3.out _ _ KP.out) 0).trans rfl
  have l2 := arow_lt (HR2.out _ _ KP.out)
  have l3 := arow_lt (HR3.out _ _ KP.out)
  go_wp2_with fail
  clear c0 c1 e0 l2 l3
  have K2 := (KP.out.alloc #[.int .u64 (d q 0), .int .u64 (d q 1), .int .u64 (d q 2), .int .u64 (d q 3)] 24).alloc #[.int .u64 (d r 0), .int .u64 (d r 1), .int .u64 (d r 2), .int .u64 (d r 3)] 24
  rw [World.size_alloc] at K2
  generalize ((w5.alloc (.cells #[.int .u64 (d q 0), .int .u64 (d q 1), .int .u64 (d q 2), .int .u64 (d q 3)] 24)).alloc (.cells #[.int .u64 (d r 0), .int .u64 (d r 1), .int .u64 (d r 2), .int .u64 (d r 3)] 24)) = v5 at *
  generalize w5.heap.size = n9 at *
  have KP := Lib.hid K2
  clear K2
  refine (H128.out _).mono ?_
  rintro e w6 ⟨rfl, hb⟩
  have KP := Lib.hid (KP.out.next hb)
  clear hb H128
  have e0 := (arow_cell (HR3.out _ _ KP.out.tl.tl) 0).trans rfl
  have e1 := (arow_cell (HR3.out _ _ KP.out.tl.tl) 1).trans rfl
  have e2 := (arow_cell (HR3.out _ _ KP.out.tl.tl) 2).trans rfl
  have e3 := (arow_cell (HR3.out _ _ KP.out.tl.tl) 3).trans rfl
  have f0 := (arow_cell (KP.out.tl.hd) 0).trans rfl
  have f1 := (arow_cell (KP.out.tl.hd) 1).trans rfl
  have f2 := (arow_cell (KP.out.tl.hd) 2).trans rfl
  have f3 := (arow_cell (KP.out.tl.hd) 3).trans rfl
  have g0 := (arow_cell (KP.out.hd) 0).trans rfl
  have g1 := (arow_cell (KP.out.hd) 1).trans rfl
  have g2 := (arow_cell (KP.out.hd) 2).trans rfl
  have g3 := (arow_cell (KP.out.hd) 3).trans rfl
  have l3 := arow_lt (HR3.out _ _ KP.out.tl.tl)
  have l9 := arow_lt KP.out.tl.hd
  have l10 := arow_lt KP.out.hd
  have hz := HE2.out
  have heb := HEB.out
  cases bz
  · obtain ⟨y0, qc, rc⟩ := HD4.out rfl
    have HY0 := Lib.hid y0
    have HQC := Lib.hid qc
    have HRC := Lib.hid rc
    clear y0 qc rc HD3 HD4
    cases zz
    · clear HE3
      obtain ⟨hb0, huc, hvc⟩ := HE4.out rfl
      have HB0 := Lib.hid hb0
      have HUC := Lib.hid huc
      have HVC := Lib.hid hvc
      clear hb0 huc hvc
      go_wp2_with fail
      clear e0 e1 e2 e3 f0 f1 f2 f3 g0 g1 g2 g3 l3 l9 l10 hz heb
      have K2 := KP.out.alloc #[.int .u64 (d u 0), .int .u64 (d u 1)] 49
      generalize (w6.alloc (.cells #[.int .u64 (d u 0), .int .u64 (d u 1)] 49)) = v6 at *
      generalize w6.heap.size = n12 at *
      have KP := Lib.hid K2
      clear K2
      refine (rdiv_any (some ⟨b5, 0, none⟩) (some ⟨b6, 0, none⟩) p5 p6 X n4 Y n4 v6 HX.out (HB5.out _ _ KP.out) HY.out (HB6.out _ _ KP.out) (by omega) (by omega) HY0.out).mono ?_
      rintro e w7 ⟨g15, a16, L16, p16, rfl, hL16, hlt16, hB15, hB16, hb⟩
      have KP := Lib.hid (KP.out.next hb)
      have HB15 := Lib.hid hB15
      have HB16 := Lib.hid hB16
      have HLT := Lib.hid hlt16
      clear hb hB15 hB16 hlt16
      go_wp2_with fail
      have hc := is_any (some ⟨g15, 0, none⟩) n4 n9 4 (X / Y) n4 4 false w7 (Nat.lt_of_le_of_lt (Nat.div_le_self X Y) HX.out) HB15.out (by omega) (by omega) (arow_lt KP.out.tl.tl.hd) (cells_in4 KP.out.tl.tl.hd HQC.out) (decide_eq_false (Nat.not_le_of_lt (Nat.lt_of_le_of_lt (Nat.div_le_self X Y) HX4.out))).symm
      refine hc.mono ?_
      clear hc HB15
      rintro e w8 ⟨rfl, hb⟩
      have KP := Lib.hid (KP.out.next hb)
      have HB16 := Lib.hid (HB16.out.below hb (Nat.le_refl _))
      clear hb
      go_wp2_with fail
      have hc := is_any a16 p16 (n9 + 1) 4 (X % Y) L16 4 false w8 HLT.out HB16.out (by omega) (by omega) (arow_lt KP.out.tl.hd) (cells_in4 KP.out.tl.hd HRC.out) (decide_eq_false (Nat.not_le_of_lt (Nat.lt_of_le_of_lt (Nat.mod_le X Y) HX4.out))).symm
      refine hc.mono ?_
      clear hc HB16 HLT
      rintro e w9 ⟨rfl, hb⟩
      have KP := Lib.hid (KP.out.next hb)
      clear hb
      go_upto_region 15 with (fail)
      have HRD := Lib.hid (fun (c1 c2 : Nat) (wz : World) (h : Kp w ((n12, (#[.int .u64 (d u 0), .int .u64 (d u 1)] : Array Value), 49) :: (n9 + 1, (#[.int .u64 (d r 0), .int .u64 (d r 1), .int .u64 (d r 2), .int .u64 (d r 3)] : Array Value), 24) :: (n9, (#[.int .u64 (d q 0), .int .u64 (d q 1), .int .u64 (d q 2), .int .u64 (d q 3)] : Array Value), 24) :: R) B wz) => rdiv_any (some ⟨b5, 0, none⟩) (some ⟨b6, 0, none⟩) c1 c2 (X % 2 ^ 128) 128 (Y % 2 ^ 64) 64 wz (Nat.mod_lt _ (Nat.two_pow_pos 128)) ((HB5.out _ _ h).cut (by have := HN4.out; omega)) (Nat.mod_lt _ (Nat.two_pow_pos 64)) ((HB6.out _ _ h).cut (by have := HN4.out; omega)) (by omega) (by omega) HB0.out)
      go_region_held3 (fun w' => Kp w ((n12, (#[.int .u64 (d u 0), .int .u64 (d u 1)] : Array Value), 49) :: (n9 + 1, (#[.int .u64 (d r 0), .int .u64 (d r 1), .int .u64 (d r 2), .int .u64 (d r 3)] : Array Value), 24) :: (n9, (#[.int .u64 (d q 0), .int .u64 (d q 1), .int .u64 (d q 2), .int .u64 (d q 3)] : Array Value), 24) :: R) B w')
        (first | (with_reducible assumption) | (with_reducible exact KP.out) | (with_reducible exact KP.out.drew))
        ((go_at_call 28; with_reducible refine (HRD.out _ _ _ (by first | (with_reducible assumption) | (with_reducible exact KP.out) | (with_reducible exact KP.out.drew))).mono ?_; rintro e wa ⟨g17, a18, L18, p18, rfl, hL18, hlt18, hB17, hB18, hb1⟩; have hSa := Kp.next (by first | (with_reducible assumption) | (with_reducible exact KP.out) | (with_reducible exact KP.out.drew)) hb1))
      have KP := Lib.hid hSa
      have HB17 := Lib.hid hB17
      have HB18 := Lib.hid hB18
      have HLT := Lib.hid hlt18
      clear hb1 hB17 hB18 hlt18 hSa HRD
      go_wp2_with fail
      have hc := is_any (some ⟨g17, 0, none⟩) 128 n12 2 (X % 2 ^ 128 / (Y % 2 ^ 64)) 128 2 false wa (Nat.lt_of_le_of_lt (Nat.div_le_self _ _) (Nat.mod_lt _ (Nat.two_pow_pos 128))) HB17.out (by omega) (by omega) (arow_lt KP.out.hd) (cells_in2 KP.out.hd HUC.out) (decide_eq_false (Nat.not_le_of_lt (Nat.lt_of_le_of_lt (Nat.div_le_self _ _) (Nat.mod_lt _ (Nat.two_pow_pos 128))))).symm
      refine hc.mono ?_
      clear hc HB17
      rintro e w11 ⟨rfl, hb⟩
      have KP := Lib.hid (KP.out.next hb)
      have HB18 := Lib.hid (HB18.out.below hb (Nat.le_refl _))
      clear hb
      go_wp2_with fail
      have HB18 := Lib.hid (HB18.out.below (below1' w11 (.cells #[.int .u64 v] 22)) (Nat.le_refl _))
      have K2 := KP.out.alloc #[.int .u64 v] 22
      generalize (w11.alloc (.cells #[.int .u64 v] 22)) = v11 at *
      generalize w11.heap.size = n20 at *
      have KP := Lib.hid K2
      clear K2
      have hc := is_any a18 p18 n20 1 (X % 2 ^ 128 % (Y % 2 ^ 64)) L18 1 false v11 HLT.out HB18.out (by omega) (by omega) (arow_lt KP.out.hd) (fun j hj => by
        rw [← HVC.out j hj]
        obtain rfl : j = 0 := by omega
        exact (arow_cell KP.out.hd 0).trans rfl) (decide_eq_false (Nat.not_le_of_lt (Nat.lt_trans (Nat.mod_lt _ HB0.out) (Nat.mod_lt _ (Nat.two_pow_pos 64))))).symm
      refine hc.mono ?_
      clear hc HB18 HLT
      rintro e w12 ⟨rfl, hb⟩
      have KP := Lib.hid (KP.out.next hb)
      clear hb
      go_wp2_with fail
      refine (works_any _).mono ?_
      rintro e wz ⟨rfl, hb⟩
      have KP := Lib.hid (KP.out.next hb)
      clear hb
      go_wp2_with fail
      go_ret
      exact ⟨rfl, KP.out.hw⟩
    · clear HE4
      obtain ⟨hv0, heu⟩ := HE3.out rfl
      subst hv0
      go_wp2_with fail
      clear e0 e1 e2 e3 f0 f1 f2 f3 g0 g1 g2 g3 l3 l9 l10 hz heb heu
      have K2 := KP.out.alloc #[.int .u64 (d u 0), .int .u64 (d u 1)] 49
      generalize (w6.alloc (.cells #[.int .u64 (d u 0), .int .u64 (d u 1)] 49)) = v6 at *
      generalize w6.heap.size = n12 at *
      have KP := Lib.hid K2
      clear K2
      refine (rdiv_any (some ⟨b5, 0, none⟩) (some ⟨b6, 0, none⟩) p5 p6 X n4 Y n4 v6 HX.out (HB5.out _ _ KP.out) HY.out (HB6.out _ _ KP.out) (by omega) (by omega) HY0.out).mono ?_
      rintro e w7 ⟨g15, a16, L16, p16, rfl, hL16, hlt16, hB15, hB16, hb⟩
      have KP := Lib.hid (KP.out.next hb)
      have HB15 := Lib.hid hB15
      have HB16 := Lib.hid hB16
      have HLT := Lib.hid hlt16
      clear hb hB15 hB16 hlt16
      go_wp2_with fail
      have hc := is_any (some ⟨g15, 0, none⟩) n4 n9 4 (X / Y) n4 4 false w7 (Nat.lt_of_le_of_lt (Nat.div_le_self X Y) HX.out) HB15.out (by omega) (by omega) (arow_lt KP.out.tl.tl.hd) (cells_in4 KP.out.tl.tl.hd HQC.out) (decide_eq_false (Nat.not_le_of_lt (Nat.lt_of_le_of_lt (Nat.div_le_self X Y) HX4.out))).symm
      refine hc.mono ?_
      clear hc HB15
      rintro e w8 ⟨rfl, hb⟩
      have KP := Lib.hid (KP.out.next hb)
      have HB16 := Lib.hid (HB16.out.below hb (Nat.le_refl _))
      clear hb
      go_wp2_with fail
      have hc := is_any a16 p16 (n9 + 1) 4 (X % Y) L16 4 false w8 HLT.out HB16.out (by omega) (by omega) (arow_lt KP.out.tl.hd) (cells_in4 KP.out.tl.hd HRC.out) (decide_eq_false (Nat.not_le_of_lt (Nat.lt_of_le_of_lt (Nat.mod_le X Y) HX4.out))).symm
      refine hc.mono ?_
      clear hc HB16 HLT
      rintro e w9 ⟨rfl, hb⟩
      have KP := Lib.hid (KP.out.next hb)
      clear hb
      go_wp2_with fail
      refine (works_any _).mono ?_
      rintro e wz ⟨rfl, hb⟩
      have KP := Lib.hid (KP.out.next hb)
      clear hb
      go_wp2_with fail
      go_ret
      exact ⟨rfl, KP.out.hw⟩
  · obtain ⟨y0, heq, her⟩ := HD3.out rfl
    cases zz
    · have k := (HE4.out rfl).1
      rw [y0] at k
      exact absurd k (by decide)
    · clear HD3 HD4 HE4 y0
      obtain ⟨hv0, heu⟩ := HE3.out rfl
      subst hv0
      go_wp2_with fail
      clear e0 e1 e2 e3 f0 f1 f2 f3 g0 g1 g2 g3 l3 l9 l10 hz heb heu heq her
      have K2 := KP.out.alloc #[.int .u64 (d u 0), .int .u64 (d u 1)] 49
      generalize (w6.alloc (.cells #[.int .u64 (d u 0), .int .u64 (d u 1)] 49)) = v6 at *
      generalize w6.heap.size = n12 at *
      have KP := Lib.hid K2
      clear K2
      refine (works_any _).mono ?_
      rintro e wz ⟨rfl, hb⟩
      have KP := Lib.hid (KP.out.next hb)
      clear hb
      go_wp2_with fail
      go_ret
      exact ⟨rfl, KP.out.hw⟩
end Go.Proofs.Ytiglhgcckceikaa
