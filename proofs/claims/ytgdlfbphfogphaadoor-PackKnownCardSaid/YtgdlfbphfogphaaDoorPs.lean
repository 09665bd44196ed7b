/- PackKnown: its walk, given what the writer does, of one and of none, and strings.Repeat. -/
import Derived.Test.YtgdlfbphfogphaaDoorPq
namespace Go.Proofs.YtgdlfbphfogphaaDoor
open Go.RowKit

/-- a writer that is none -/
structure NilC : Prop where
  num : ∀ w, Calls Tryd.prog 15 #[.pointer none, .int .u64 1] w fun e w' => e = .returned (.int .i64 1) ∧ Below w.heap.size w w'
  bin : ∀ w, Calls Tryd.prog 22 #[.pointer none, .string ⟨#[]⟩] w fun e w' => e = .returned (.int .i64 1) ∧ Below w.heap.size w w'
  str : ∀ w, Calls Tryd.prog 23 #[.pointer none, .string ⟨#[]⟩] w fun e w' => e = .returned (.int .i64 1) ∧ Below w.heap.size w w'
  list : ∀ w, Calls Tryd.prog 20 #[.pointer none, .int .i64 (-1)] w fun e w' => e = .returned (.int .i64 1) ∧ Below w.heap.size w w'
  map : ∀ w, Calls Tryd.prog 21 #[.pointer none, .int .i64 1] w fun e w' => e = .returned (.int .i64 1) ∧ Below w.heap.size w w'
  text : ∀ w, Calls Tryd.prog 13 #[.pointer none] w fun e w' => e = .returned (.string ⟨#[]⟩) ∧ Below w.heap.size w w'
  len : ∀ w, Calls Tryd.prog 12 #[.pointer none] w fun e w' => e = .returned (.int .i64 0) ∧ Below w.heap.size w w'
theorem make_closed (n : Nat) (i : Int) (hi : i = (n : Int)) (hn : n ≤ 100000000) : ∃ M : Array Value, ∃ Z : List UInt8, Z.length = n ∧ (∀ w : World, (Instr.makeSlice 48 (.int .i64 i) (.int .i64 i)).run Tryd.prog w = .ok (.slice (some ⟨w.heap.size, 0, none⟩) n n) (w.alloc (.cells M 5))) ∧
    ∀ w : World, (convert 48 9 (.slice (some ⟨w.heap.size, 0, none⟩) n n)).run Tryd.prog (w.alloc (.cells M 5)) = .ok (.string ⟨Z.toArray⟩) (w.alloc (.cells M 5)) := by
  subst hi
  obtain ⟨M, h1, h2⟩ := make_zeros n hn
  exact ⟨M, List.replicate n 0, List.length_replicate, h1, fun w => h2 _ _ (heap_alloc_new w _)⟩

set_option maxRecDepth 100000 in
set_option maxHeartbeats 4000000 in
theorem known_c {G : World → Prop} {Wr : Nat → Nat → List UInt8 → World → Prop} (C : PackC G Wr) (N : NilC) (HR : RepeatC) (HW : WorksC G) (w : World) (hG : G w) :
    Calls Tryd.prog 7 #[] w fun e w' => e = .returned (.bool true) ∧ Below w.heap.size w w' := by
  have HRX := Lib.hid (fun w => HR 120 31 w (by decide))
  have HRY := Lib.hid (fun w => HR 121 255 w (by decide))
  have HRZ := Lib.hid (fun w => HR 122 256 w (by decide))
  generalize hx : List.replicate 31 (120 : UInt8) = X at HRX
  generalize hy : List.replicate 255 (121 : UInt8) = Y at HRY
  generalize hz : List.replicate 256 (122 : UInt8) = Z at HRZ
  have HXl := Lib.hid (show X.length ≤ 1000 by rw [← hx]; decide)
  have HYl := Lib.hid (show Y.length ≤ 1000 by rw [← hy]; decide)
  have HZl := Lib.hid (show Z.length ≤ 1000 by rw [← hz]; decide)
  have HX2 := Lib.hid (show laidP 2 0 (textP X 0) = (191 :: X, 0) by rw [← hx]; decide +kernel)
  have HY1 := Lib.hid (show laidP 1 0 (textP Y 0) = (196 :: 255 :: Y, 0) by rw [← hy]; decide +kernel)
  have HY2 := Lib.hid (show laidP 2 0 (textP Y 0) = (217 :: 255 :: Y, 0) by rw [← hy]; decide +kernel)
  have HZ1 := Lib.hid (show laidP 1 0 (textP Z 0) = (197 :: 1 :: 0 :: Z, 0) by rw [← hz]; decide +kernel)
  have HZ2 := Lib.hid (show laidP 2 0 (textP Z 0) = (218 :: 1 :: 0 :: Z, 0) by rw [← hz]; decide +kernel)
  clear hx hy hz HR
  have HWK := Lib.hid HW
  obtain ⟨M, T, hT, hmk, hcv⟩ := make_closed 65536 65536 rfl (by decide)
  obtain ⟨M2, U, hU, hmk2, hcv2⟩ := make_closed 65535 65535 rfl (by decide)
  have HT3 := Lib.hid (show laidP 1 0 T = ([], 3) by rw [laidP, if_neg (by decide), if_pos (.inl rfl), if_pos (by omega)])
  have HTl := Lib.hid (show T.length < 10000000 by omega)
  have HU1 := Lib.hid (show laidP 1 0 U = ([197, 255, 255] ++ U, 0) by rw [laidP, if_neg (by decide), if_pos (.inl rfl), if_neg (by omega), hU]; rfl)
  have HU2 := Lib.hid (show laidP 2 0 U = ([218, 255, 255] ++ U, 0) by rw [laidP, if_neg (by decide), if_pos (.inr rfl), if_neg (by omega), hU]; rfl)
  have HUl := Lib.hid hU
  clear hT hU HW
  go_enter Tryd.func7, Tryd.ntmps7
  try simp only [List.append_eq, List.cons_append, List.nil_append]
  go_wp2_with fail
  refine (C.new _ hG).mono ?_
  rintro e w2 ⟨b, rfl, hW, b2⟩
  have z1 : w.heap.size ≤ w.heap.size := Nat.le_refl _
  have K := Lib.hid (Wx.mk hW b2 : Wx Wr w w.heap.size b [] w2)
  clear hW b2
  go_wp2_with fail
  refine (C.list _ b [] 65535 w2 K.out.hW (by decide) (by decide) (by decide)).mono ?_
  rintro e w3 ⟨rfl, hW, hb, _⟩
  have K := Lib.hid (Wx.mk hW (K.out.hb.trans hb) : Wx Wr w w.heap.size b [220, 255, 255] w3)
  clear hW hb
  go_wp2_with fail
  refine (C.map _ b _ (-5) w3 K.out.hW (by decide) (by decide) (by decide)).mono ?_
  rintro e w4 ⟨rfl, _, _, hb⟩
  have K := Lib.hid (K.out.next C (hb (by decide)))
  clear hb
  go_wp2_with fail
  have K := Lib.hid (K.out.next C (by0 w4 (.cells M 5)))
  generalize (w4.alloc (.cells M 5)) = v4 at *
  clear hmk hcv
  refine (C.bin _ b _ T v4 K.out.hW (by decide) HTl.out).mono ?_
  rw [HT3.out]
  rintro e w5 ⟨rfl, _, _, hb⟩
  have K := Lib.hid (K.out.next C (hb (by decide)))
  clear hb
  go_wp2_with fail
  refine (C.list _ b _ 65536 w5 K.out.hW (by decide) (by decide) (by decide)).mono ?_
  rintro e w6 ⟨rfl, _, _, hb⟩
  have K := Lib.hid (K.out.next C (hb (by decide)))
  clear hb
  go_wp2_with fail
  refine (C.text _ b _ w6 K.out.hW (by decide)).mono ?_
  rintro e w7 ⟨rfl, hb⟩
  have K := Lib.hid (K.out.next C hb)
  clear hb
  go_wp2_with fail
  have K := Lib.hid (K.out.next C (by0 w7 (.cells M2 5)))
  generalize (w7.alloc (.cells M2 5)) = v7 at *
  clear hmk2 hcv2
  refine (C.bin _ b _ U v7 K.out.hW (by decide) (by have := HUl.out; omega)).mono ?_
  rw [HU1.out]
  rintro e w8 ⟨rfl, hW, hb, _⟩
  obtain ⟨L2, hL2⟩ : ∃ L2, [220, 255, 255] ++ ([197, 255, 255] ++ U) = L2 := ⟨_, rfl⟩
  have hl2 : L2.length = 65541 := by rw [← hL2, List.length_append, List.length_append, HUl.out]; rfl
  have K := Lib.hid (Wx.mk (hL2 ▸ hW) (K.out.hb.trans hb) : Wx Wr w w.heap.size b L2 w8)
  clear hW hb
  go_wp2_with fail
  refine (C.str _ b L2 U w8 K.out.hW (by omega) (by have := HUl.out; omega)).mono ?_
  rw [HU2.out]
  rintro e w9 ⟨rfl, hW, hb, _⟩
  obtain ⟨L3, hL3⟩ : ∃ L3, L2 ++ ([218, 255, 255] ++ U) = L3 := ⟨_, rfl⟩
  have hl3 : L3.length = 131079 := by rw [← hL3, List.length_append, List.length_append, HUl.out, hl2]; rfl
  have K := Lib.hid (Wx.mk (hL3 ▸ hW) (K.out.hb.trans hb) : Wx Wr w w.heap.size b L3 w9)
  clear hW hb hL2 hl2 hL3 HU1 HU2 HUl HT3 HTl
  go_wp2_with fail
  refine (HRX.out _).mono ?_
  rintro e wx ⟨rfl, hb⟩
  have K := Lib.hid (K.out.next C hb)
  clear hb
  go_wp2_with fail
  refine (HRY.out _).mono ?_
  rintro e wx ⟨rfl, hb⟩
  have K := Lib.hid (K.out.next C hb)
  clear hb
  go_wp2_with fail
  refine (HRZ.out _).mono ?_
  rintro e wx ⟨rfl, hb⟩
  have K := Lib.hid (K.out.next C hb)
  clear hb
  go_wp2_with fail
  refine (HWK.out _ (C.gb hG K.out.hb)).mono ?_
  rintro e wx ⟨rfl, hb⟩
  have K := Lib.hid (K.out.next C hb)
  clear hb
  have hcl : (L3.length : Int) = 131079 := by omega
  go_wp2_with fail
  have hK := C.len _ b L3 _ K.out.hW (by omega)
  rw [hcl] at hK
  refine hK.mono ?_
  rintro e wx ⟨rfl, hb⟩
  have K := Lib.hid (K.out.next C hb)
  clear hb hK hcl hl3
  have hcy1 := run_cat [196, 255] Y (by have := HYl.out; simp; omega)
  have hcz1 := run_cat [197, 1, 0] Z (by have := HZl.out; simp; omega)
  have hcx2 := run_cat [191] X (by have := HXl.out; simp; omega)
  have hcy2 := run_cat [217, 255] Y (by have := HYl.out; simp; omega)
  have hcz2 := run_cat [218, 1, 0] Z (by have := HZl.out; simp; omega)
  go_wp2_with fail
  refine (pis_true C 0 0 [] [0] _ _ _ _ rfl rfl rfl (by decide) (by decide) (by decide +kernel) (C.gb hG K.out.hb)).mono ?_
  rintro e wx ⟨rfl, hb⟩
  have K := Lib.hid (K.out.next C hb)
  clear hb
  go_wp2_with fail
  refine (pis_true C 0 255 [] [204, 255] _ _ _ _ rfl rfl rfl (by decide) (by decide) (by decide +kernel) (C.gb hG K.out.hb)).mono ?_
  rintro e wx ⟨rfl, hb⟩
  have K := Lib.hid (K.out.next C hb)
  clear hb
  go_wp2_with fail
  refine (pis_true C 0 65535 [] [205, 255, 255] _ _ _ _ rfl rfl rfl (by decide) (by decide) (by decide +kernel) (C.gb hG K.out.hb)).mono ?_
  rintro e wx ⟨rfl, hb⟩
  have K := Lib.hid (K.out.next C hb)
  clear hb
  go_wp2_with fail
  refine (pis_true C 0 4294967295 [] [206, 255, 255, 255, 255] _ _ _ _ rfl rfl rfl (by decide) (by decide) (by decide +kernel) (C.gb hG K.out.hb)).mono ?_
  rintro e wx ⟨rfl, hb⟩
  have K := Lib.hid (K.out.next C hb)
  clear hb
  go_wp2_with fail
  refine (pis_true C 0 18446744073709551615 [] [207, 255, 255, 255, 255, 255, 255, 255, 255] _ _ _ _ rfl rfl rfl (by decide) (by decide) (by decide +kernel) (C.gb hG K.out.hb)).mono ?_
  rintro e wx ⟨rfl, hb⟩
  have K := Lib.hid (K.out.next C hb)
  clear hb
  go_wp2_with fail
  refine (pis_true C 1 0 [] [196, 0] _ _ _ _ rfl rfl rfl (by decide) (by decide) (by decide +kernel) (C.gb hG K.out.hb)).mono ?_
  rintro e wx ⟨rfl, hb⟩
  have K := Lib.hid (K.out.next C hb)
  clear hb
  go_wp2_with fail
  refine (pis_true C 1 0 Y (196 :: 255 :: Y) _ _ _ _ rfl rfl rfl (by decide) (Nat.le_trans HYl.out (by decide)) HY1.out (C.gb hG K.out.hb)).mono ?_
  rintro e wx ⟨rfl, hb⟩
  have K := Lib.hid (K.out.next C hb)
  clear hb
  go_wp2_with fail
  refine (pis_true C 1 0 Z (197 :: 1 :: 0 :: Z) _ _ _ _ rfl rfl rfl (by decide) (Nat.le_trans HZl.out (by decide)) HZ1.out (C.gb hG K.out.hb)).mono ?_
  rintro e wx ⟨rfl, hb⟩
  have K := Lib.hid (K.out.next C hb)
  clear hb
  go_wp2_with fail
  refine (pis_true C 2 0 [] [160] _ _ _ _ rfl rfl rfl (by decide) (by decide) (by decide +kernel) (C.gb hG K.out.hb)).mono ?_
  rintro e wx ⟨rfl, hb⟩
  have K := Lib.hid (K.out.next C hb)
  clear hb
  go_wp2_with fail
  refine (pis_true C 2 0 X (191 :: X) _ _ _ _ rfl rfl rfl (by decide) (Nat.le_trans HXl.out (by decide)) HX2.out (C.gb hG K.out.hb)).mono ?_
  rintro e wx ⟨rfl, hb⟩
  have K := Lib.hid (K.out.next C hb)
  clear hb
  go_wp2_with fail
  refine (pis_true C 2 0 Y (217 :: 255 :: Y) _ _ _ _ rfl rfl rfl (by decide) (Nat.le_trans HYl.out (by decide)) HY2.out (C.gb hG K.out.hb)).mono ?_
  rintro e wx ⟨rfl, hb⟩
  have K := Lib.hid (K.out.next C hb)
  clear hb
  go_wp2_with fail
  refine (pis_true C 2 0 Z (218 :: 1 :: 0 :: Z) _ _ _ _ rfl rfl rfl (by decide) (Nat.le_trans HZl.out (by decide)) HZ2.out (C.gb hG K.out.hb)).mono ?_
  rintro e wx ⟨rfl, hb⟩
  have K := Lib.hid (K.out.next C hb)
  clear hb
  go_wp2_with fail
  refine (pis_true C 3 0 [] [144] _ _ _ _ rfl rfl rfl (by decide) (by decide) (by decide +kernel) (C.gb hG K.out.hb)).mono ?_
  rintro e wx ⟨rfl, hb⟩
  have K := Lib.hid (K.out.next C hb)
  clear hb
  go_wp2_with fail
  refine (pis_true C 3 15 [] [159] _ _ _ _ rfl rfl rfl (by decide) (by decide) (by decide +kernel) (C.gb hG K.out.hb)).mono ?_
  rintro e wx ⟨rfl, hb⟩
  have K := Lib.hid (K.out.next C hb)
  clear hb
  go_wp2_with fail
  refine (pis_true C 4 0 [] [128] _ _ _ _ rfl rfl rfl (by decide) (by decide) (by decide +kernel) (C.gb hG K.out.hb)).mono ?_
  rintro e wx ⟨rfl, hb⟩
  have K := Lib.hid (K.out.next C hb)
  clear hb
  go_wp2_with fail
  refine (pis_true C 4 65535 [] [222, 255, 255] _ _ _ _ rfl rfl rfl (by decide) (by decide) (by decide +kernel) (C.gb hG K.out.hb)).mono ?_
  rintro e wx ⟨rfl, hb⟩
  have K := Lib.hid (K.out.next C hb)
  clear hb
  go_wp2_with fail
  refine (N.num _).mono ?_
  rintro e wx ⟨rfl, hb⟩
  have K := Lib.hid (K.out.next C hb)
  clear hb
  go_wp2_with fail
  refine (N.bin _).mono ?_
  rintro e wx ⟨rfl, hb⟩
  have K := Lib.hid (K.out.next C hb)
  clear hb
  go_wp2_with fail
  refine (N.str _).mono ?_
  rintro e wx ⟨rfl, hb⟩
  have K := Lib.hid (K.out.next C hb)
  clear hb
  go_wp2_with fail
  refine (N.list _).mono ?_
  rintro e wx ⟨rfl, hb⟩
  have K := Lib.hid (K.out.next C hb)
  clear hb
  go_wp2_with fail
  refine (N.map _).mono ?_
  rintro e wx ⟨rfl, hb⟩
  have K := Lib.hid (K.out.next C hb)
  clear hb
  go_wp2_with fail
  refine (N.text _).mono ?_
  rintro e wx ⟨rfl, hb⟩
  have K := Lib.hid (K.out.next C hb)
  clear hb
  go_wp2_with fail
  refine (N.len _).mono ?_
  rintro e wx ⟨rfl, hb⟩
  have K := Lib.hid (K.out.next C hb)
  clear hb
  go_wp2_with fail
  go_ret
  exact ⟨rfl, K.out.hb⟩
end Go.Proofs.YtgdlfbphfogphaaDoor
