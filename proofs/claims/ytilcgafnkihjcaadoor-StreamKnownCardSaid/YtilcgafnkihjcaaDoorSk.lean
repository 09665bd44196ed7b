/- StreamKnown's body. -/
import Derived.Test.YtilcgafnkihjcaaDoorSf
import Derived.Test.YtilcgafnkihjcaaDoorEx
import Derived.Deep.Cut
import Derived.Deep.Light
namespace Go.Proofs.YtilcgafnkihjcaaDoor
open Go.RowKit

def abcSeed : List UInt8 := seedL [97, 98, 99]
theorem abcSeed_length : abcSeed.length = 32 := seedL_length _
set_option maxRecDepth 100000 in
theorem abc_byte : (blockL abcSeed 2048).getD 8 0 = 129 := by
  rw [blockL, hashL, if_pos (by decide), sha_block2 _ (by decide +kernel)]
  decide +kernel
theorem abc_num : numAt abcSeed 65544 < 18446744073709551615 := by
  have h0 : byteL abcSeed (65544 + 0) = 129 := abc_byte
  unfold numAt
  have e0 : numberL (drawL abcSeed 65544 1) = numberL (drawL abcSeed 65544 0) * 256 + (byteL abcSeed (65544 + 0)).toNat := numberL_drawL abcSeed 65544 0
  have e1 : numberL (drawL abcSeed 65544 2) = numberL (drawL abcSeed 65544 1) * 256 + (byteL abcSeed (65544 + 1)).toNat := numberL_drawL abcSeed 65544 1
  have e2 : numberL (drawL abcSeed 65544 3) = numberL (drawL abcSeed 65544 2) * 256 + (byteL abcSeed (65544 + 2)).toNat := numberL_drawL abcSeed 65544 2
  have e3 : numberL (drawL abcSeed 65544 4) = numberL (drawL abcSeed 65544 3) * 256 + (byteL abcSeed (65544 + 3)).toNat := numberL_drawL abcSeed 65544 3
  have e4 : numberL (drawL abcSeed 65544 5) = numberL (drawL abcSeed 65544 4) * 256 + (byteL abcSeed (65544 + 4)).toNat := numberL_drawL abcSeed 65544 4
  have e5 : numberL (drawL abcSeed 65544 6) = numberL (drawL abcSeed 65544 5) * 256 + (byteL abcSeed (65544 + 5)).toNat := numberL_drawL abcSeed 65544 5
  have e6 : numberL (drawL abcSeed 65544 7) = numberL (drawL abcSeed 65544 6) * 256 + (byteL abcSeed (65544 + 6)).toNat := numberL_drawL abcSeed 65544 6
  have e7 : numberL (drawL abcSeed 65544 8) = numberL (drawL abcSeed 65544 7) * 256 + (byteL abcSeed (65544 + 7)).toNat := numberL_drawL abcSeed 65544 7
  have z : numberL (drawL abcSeed 65544 0) = 0 := rfl
  have c1 := (byteL abcSeed (65544 + 1)).toNat_lt
  have c2 := (byteL abcSeed (65544 + 2)).toNat_lt
  have c3 := (byteL abcSeed (65544 + 3)).toNat_lt
  have c4 := (byteL abcSeed (65544 + 4)).toNat_lt
  have c5 := (byteL abcSeed (65544 + 5)).toNat_lt
  have c6 := (byteL abcSeed (65544 + 6)).toNat_lt
  have c7 := (byteL abcSeed (65544 + 7)).toNat_lt
  rw [h0, z] at e0
  have t : (129 : UInt8).toNat = 129 := rfl
  rw [t] at e0
  omega

theorem num_block (seed : List UInt8) (i : Nat) : numAt seed (32 * i) = numberL ((blockL seed i).take 8) := by
  rw [numAt, ← drawL_block, drawL_take _ _ _ _ (by omega)]
theorem draw_end (seed : List UInt8) : (⟨(drawL seed 0 65536).toArray⟩ : ByteArray).extract 65504 65536 = ⟨(blockL seed 2047).toArray⟩ := by
  rw [extract_list, List.take_of_length_le (by rw [drawL_length]; omega), show (65536 : Nat) = 65504 + 32 from rfl, drawL_append, List.drop_append_of_le_length (by rw [drawL_length]; omega), List.drop_of_length_le (by rw [drawL_length]; omega), List.nil_append, Nat.zero_add]
  rw [show (65504 : Nat) = 32 * 2047 from rfl, drawL_block]

set_option maxRecDepth 100000 in
set_option maxHeartbeats 2000000 in
theorem streamKnown_any (w : World) (hg : Glob w) :
    Calls Tryd.prog 6 #[] w fun e w' => e = .returned (.bool true) ∧ Below w.heap.size w w' := by
  have HSeed := Lib.hid (fun w => seed_any [97, 98, 99] w (by decide))
  obtain ⟨sd, hsd⟩ : ∃ sd, abcSeed = sd := ⟨_, rfl⟩
  have hsl : sd.length = 32 := by rw [← hsd]; exact abcSeed_length
  have hnum := abc_num
  rw [← abcSeed, hsd] at HSeed
  rw [hsd] at hnum
  have HSeed0 := Lib.hid (fun w => seed_any [] w (by decide))
  obtain ⟨s0, hs0⟩ : ∃ s0, seedL [] = s0 := ⟨_, rfl⟩
  have hs0l : s0.length = 32 := by rw [← hs0]; exact seedL_length _
  rw [hs0] at HSeed0
  have hcat := run_cat s0 [120] (by rw [hs0l]; decide)
  obtain ⟨s1, hs1⟩ : ∃ s1, s0 ++ [120] = s1 := ⟨_, rfl⟩
  have hs1l : s1.length = 33 := by rw [← hs1, List.length_append, hs0l]; rfl
  rw [hs1] at hcat
  have HG := Lib.hid hg
  have hsz := hg.size
  obtain ⟨A, hA⟩ : ∃ A, w.heap.size = A := ⟨_, rfl⟩
  rw [hA] at hsz ⊢
  clear hsd hs0 hs1 hg
  have HNil := Lib.hid sNil_any
  go_enter Tryd.func6, Tryd.ntmps6
  simp only [List.append_eq, List.cons_append, List.nil_append]
  go_wp2_with fail
  refine ((HNil.out w).2.2.1 1).mono ?_
  rintro e w' ⟨rfl, rfl⟩
  go_wp2_with fail
  refine ((HNil.out w').2.2.2.1 3).mono ?_
  rintro e w ⟨rfl, rfl⟩
  go_wp2_with fail
  refine (sNew_bad [] w (by decide) (by decide)).mono ?_
  rintro e w' ⟨rfl, rfl⟩
  go_wp2_with fail
  refine (HSeed0.out w').mono ?_
  rw [hA]
  rintro e w2 ⟨rfl, hB2⟩
  go_wp2_with fail
  refine (sNew_bad s1 w2 (by omega) (by unfold maxLen; omega)).mono ?_
  rintro e w2' ⟨rfl, rfl⟩
  go_wp2_with fail
  refine (HSeed.out w2').mono ?_
  rintro e w3 ⟨rfl, hb3⟩
  have hB3 : Below A w' w3 := hB2.trans (hb3.mono (by have := hB2.size; omega))
  clear hB2 hb3 hcat
  go_wp2_with fail
  refine (sNew_any sd w3 hsl).mono ?_
  obtain ⟨b, hb⟩ : ∃ b, w3.heap.size = b := ⟨_, rfl⟩
  have hAb : A ≤ b := by have := hB3.size; omega
  rw [hb]
  rintro e w4 ⟨rfl, hs4, hb4⟩
  have hB4 : Below A w' w4 := hB3.trans (hb4.mono hAb)
  have HS4 := Lib.hid hs4
  clear hs4 hb4 hB3
  have HBy := Lib.hid (sBytes_any b sd hsl 0 65536 w4 HS4.out (HG.out.below (by omega) hB4) (by omega) (by omega) (by omega))
  have hend := draw_end sd
  obtain ⟨ALL, hALL⟩ : ∃ ALL, drawL sd 0 65536 = ALL := ⟨_, rfl⟩
  have hALLl : ALL.length = 65536 := by rw [← hALL]; exact drawL_length _ _ _
  rw [hALL] at HBy hend
  clear hALL
  go_wp2_with fail
  refine HBy.out.mono ?_
  rintro e w5 ⟨rfl, hs5, hb5⟩
  have hB5 : Below A w' w5 := hB4.trans (hb5.below (by have := hB4.size; omega) hAb)
  have HS5 := Lib.hid hs5
  clear hs5 hb5 HBy
  have HX := Lib.hid (num_block sd 2048)
  rw [show 32 * 2048 = 65536 from rfl] at HX
  have HBl1 := Lib.hid (sBelow_any b sd hsl 65536 9223372036854775808 0 w5 HS5.out (HG.out.below (by omega) hB5) (by omega) (by omega) (by omega) (by omega) (fun i hi => by omega)
    (by have := numAt_lt sd (65536 + 8 * 0); simp only [passedL, decide_eq_false_iff_not]; omega))
  rw [show 65536 + 8 * 0 = 65536 from rfl, show 65536 + 8 * (0 + 1) = 65544 from rfl] at HBl1
  obtain ⟨X, hX⟩ : ∃ X, numAt sd 65536 = X := ⟨_, rfl⟩
  rw [hX] at HX HBl1
  obtain ⟨r, hr⟩ : ∃ r, X % 9223372036854775808 = r := ⟨_, rfl⟩
  rw [hr] at HBl1
  have hr' : (X : Int) % 9223372036854775808 = (r : Int) := by omega
  clear hX hr
  go_wp2_with fail
  refine HBl1.out.mono ?_
  rintro e w6 ⟨rfl, hs6, hb6⟩
  have hB6 : Below A w' w6 := hB5.trans (hb6.below (by have := hB5.size; omega) hAb)
  have HS6 := Lib.hid hs6
  clear hs6 hb6 HBl1
  have HBl2 := Lib.hid (sBelow_any b sd hsl 65544 18446744073709551615 0 w6 HS6.out (HG.out.below (by omega) hB6) (by omega) (by omega) (by omega) (by omega) (fun i hi => by omega)
    (by rw [show 65544 + 8 * 0 = 65544 from rfl]; simp only [passedL, decide_eq_false_iff_not]; omega))
  rw [show 65544 + 8 * 0 = 65544 from rfl, show 65544 + 8 * (0 + 1) = 65552 from rfl] at HBl2
  have hY := Nat.mod_lt (numAt sd 65544) (show 0 < 18446744073709551615 by omega)
  obtain ⟨Y, hYY⟩ : ∃ Y, numAt sd 65544 % 18446744073709551615 = Y := ⟨_, rfl⟩
  rw [hYY] at HBl2 hY
  have hY' : (Y : Int) < 18446744073709551615 := by omega
  clear hYY hnum
  go_wp2_with fail
  refine HBl2.out.mono ?_
  rintro e w7 ⟨rfl, hs7, hb7⟩
  have hB7 : Below A w' w7 := hB6.trans (hb7.below (by have := hB6.size; omega) hAb)
  have HS7 := Lib.hid hs7
  clear hs7 hb7 HBl2
  go_wp2_with fail
  refine (sCopy_any b sd 65552 w7 HS7.out).mono ?_
  obtain ⟨c, hc⟩ : ∃ c, w7.heap.size = c := ⟨_, rfl⟩
  have hbc : b < c := by rw [← hc]; exact HS7.out.lt
  rw [hc]
  rintro e w8 ⟨rfl, hc8, hb8⟩
  have hB8 : Below A w' w8 := hB7.trans (hb8.mono (by omega))
  have HS8 := Lib.hid (HS7.out.same (hb8.block b hbc))
  have HC8 := Lib.hid hc8
  clear hc8 hb8
  go_wp2_with fail
  refine (HSeed.out w8).mono ?_
  rintro e w9 ⟨rfl, hb9⟩
  go_wp2_with fail
  refine (num_any 2048 w9).mono ?_
  rintro e w10 ⟨rfl, hb10⟩
  have hb10a : Below w8.heap.size w8 (w10.alloc (.cells #[.string ⟨sd.toArray⟩, .string ⟨(numL 2048).toArray⟩] 9)) := (hb9.trans (hb10.mono hb9.size)).alloc (by have := hb9.size; have := hb10.size; omega) _
  have HBk := Lib.hid (fun i g w' hg' hs' => block_any sd hsl i g w' hg' hs')
  go_wp2_with fail
  refine (HBk.out 2048 w10.heap.size _ (HG.out.below (by omega) (hB8.trans (hb10a.mono (by have := hB8.size; omega)))) (strs_new w10 [sd, numL 2048] _ rfl)).mono ?_
  obtain ⟨T, hT⟩ : ∃ T, blockL sd 2048 = T := ⟨_, rfl⟩
  have hTl : T.length = 32 := by rw [← hT]; exact blockL_length _ _
  rw [hT] at HX ⊢
  rintro e w11 ⟨rfl, hb11⟩
  have hb11a : Below w8.heap.size w8 w11 := hb10a.trans (hb11.mono (by have := hb9.size; have := hb10.size; simp; omega))
  have hB11 : Below A w' w11 := hB8.trans (hb11a.mono (by have := hB8.size; omega))
  have HS11 := Lib.hid (HS8.out.same (hb11a.block b HS8.out.lt))
  have HC11 := Lib.hid (HC8.out.same (hb11a.block c HC8.out.lt))
  clear hT hb9 hb10 hb10a hb11 hb11a hB5 hB6 hB7 hB4 HS4 HS5 HS6 HS7 HS8 HC8
  go_wp2
  rename_i HK0
  have HKK := Lib.hid HK0
  clear HK0
  have Hend := Lib.hid hend
  have Hr' := Lib.hid hr'
  have HY' := Lib.hid hY'
  have HALL := Lib.hid hALLl
  clear hend hr' hY' hALLl
  go_loop [20, 21] (fun v i => ∃ k a : Nat, k ≤ 8 ∧ i = .int .i64 (k : Int) ∧ v = .int .u64 (a : Int) ∧ Hid (numberL (T.take k) = a)) (fun _ i => 8 - (intOf i).toNat)
  case atStart => exact ⟨0, 0, by omega, rfl, rfl, Lib.hid rfl⟩
  case round =>
    obtain ⟨k, a, hk, rfl, rfl, HA⟩ := hrel
    by_cases hlt : k < 8
    · have hlt' : k < T.length := by omega
      obtain ⟨x, hx'⟩ : ∃ x, T[k].toNat = x := ⟨_, rfl⟩
      have c1 : x < 256 := by rw [← hx']; exact T[k].toNat_lt
      have ha : a < 72057594037927936 := by
        have h1 := numberL_lt T k (by omega)
        have h2 : (256 : Nat) ^ k ≤ 256 ^ 7 := Nat.pow_le_pow_right (by omega) (by omega)
        rw [HA.out] at h1
        have h3 : (256 : Nat) ^ 7 = 72057594037927936 := by decide
        omega
      have hx : ∀ w, (Instr.index 9 (.string ⟨T.toArray⟩) (.int .i64 (k : Int))).run Tryd.prog w = .ok (.int .u8 (x : Int)) w := by
        intro w
        rw [run_index_string w 9 _ _ _ Tryd.underlying9, dif_pos ⟨by omega, by show (k : Int) < (T.length : Int); omega⟩, ← hx']
        rfl
      have HO := Lib.hid (or_256 a x ha c1)
      have HS := Lib.hid (show numberL (T.take (k + 1)) = a * 256 + x by rw [numberL_snoc T k hlt', HA.out, hx'])
      clear hx' HKK
      have k0 : (0 : Int) ≤ (k : Int) := by omega
      have k8 : (k : Int) < 8 := by omega
      go_wp2
      go_round
      case rel => exact ⟨k + 1, a * 256 + x, by omega, by go_num, by rw [HO.out], HS⟩
      case measure => simp [intOf]; omega
    · have ek : k = 8 := by omega
      subst ek
      have ea : a = X := HA.out.symm.trans HX.out.symm
      subst ea
      have HK0 := HKK.out
      clear HKK
      have HW := Lib.hid works_any
      have hend := Hend.out
      have hr' := Hr'.out
      have hrt : (a : Int).tmod 9223372036854775808 = (r : Int) := by rw [Int.tmod_eq_emod_of_nonneg (by omega)]; exact hr'
      have hwr : IntKind.u64.wrap (r : Int) = (r : Int) := by rw [wrap_u64]; omega
      have hY' := HY'.out
      have hALLl := HALL.out
      have HN := Lib.hid (num_any 2047)
      have HU1 := Lib.hid (fun w hs hg => sUint64_any c sd hsl 65552 w hs hg (by omega) (by omega))
      have HU2 := Lib.hid (fun w hs hg => sUint64_any b sd hsl 65552 w hs hg (by omega) (by omega))
      obtain ⟨Z, hZ⟩ : ∃ Z, numAt sd 65552 = Z := ⟨_, rfl⟩
      rw [hZ] at HU1 HU2
      obtain ⟨B7, hB7'⟩ : ∃ B7, blockL sd 2047 = B7 := ⟨_, rfl⟩
      have HBk7 := Lib.hid (fun g w' hg' hs' => block_any sd hsl 2047 g w' hg' hs')
      have hB7l : B7.length = 32 := by rw [← hB7']; exact blockL_length _ _
      rw [hB7'] at hend HBk7
      have z11 := hB11.size
      have lb := HS11.out.lt
      have lc := HC11.out.lt
      have HG11 := Lib.hid (HG.out.below (by omega) hB11)
      have HG11d := Lib.hid (show Glob w11.drew from HG11.out.below (Nat.le_refl _) (Below.refl 2 w11).drew)
      have e0 : (0 : Int) ≤ 65504 := by omega
      have e1 : (65504 : Int) ≤ (ALL.length : Int) := by omega
      have hl2 : 2 ≤ w11.heap.size := by omega
      have hc2 : 2 ≤ c := by omega
      have hb2' : 2 ≤ b := by omega
      have hbc' : b ≠ c := by omega
      clear hZ hB7' HA HBk
      go_upto_region 21 with fail
      go_region_held3 (fun _ => True) (trivial)
        (first | (go_at_call 17; refine (HW.out w11.drew HG11d.out).mono ?_; rintro e w12 ⟨rfl, hb12⟩; clear HW) | (go_at_call 9; refine (HSeed.out _).mono ?_; rintro e w13 ⟨rfl, hb13⟩) | (go_at_call 20; refine (HN.out _).mono ?_; rintro e w14 ⟨rfl, hb14⟩; have hb14a : Below w11.heap.size w11 (w14.alloc (.cells #[.string ⟨sd.toArray⟩, .string ⟨(numL 2047).toArray⟩] 9)) := ((((Below.refl _ w11).drew.trans hb12).trans (hb13.mono hb12.size)).trans (hb14.mono (Nat.le_trans hb12.size hb13.size))).alloc (Nat.le_trans hb12.size (Nat.le_trans hb13.size hb14.size)) _; clear HN) | (go_at_call 19; refine (HBk7.out w14.heap.size _ (HG11.out.below (by omega) hb14a) (strs_new w14 [sd, numL 2047] _ rfl)).mono ?_; rintro e w15 ⟨rfl, hb15'⟩; have hb15 : Below w11.heap.size w11 w15 := hb14a.trans (hb15'.mono hb14a.size); clear HBk7) | (go_at_call 12; refine (HU1.out w15 (HC11.out.same (hb15.block c lc)) (HG11.out.below hl2 hb15)).mono ?_; rintro e w16 ⟨rfl, -, hb16⟩; have hG16 := HG11.out.below (B := 2) (Nat.le_refl _) ((hb15.mono hl2).trans (hb16.below (B := 2) (Nat.le_trans hl2 hb15.size) hc2)); clear HU1) | (go_at_call 12; refine (HU2.out w16 (HS11.out.same ((hb16.block b (Nat.lt_of_lt_of_le lb hb15.size) hbc').trans (hb15.block b lb))) hG16).mono ?_; rintro e w17 ⟨rfl, -, hb17⟩; clear HU2) | (go_at_call 12; refine ((HNil.out w17).2.2.2.2).mono ?_; rintro e w18 ⟨rfl, rfl⟩) | (go_at_call 16; refine ((HNil.out _).2.1).mono ?_; rintro e w19 ⟨rfl, rfl⟩) | (go_at_call 18; refine ((HNil.out _).1).mono ?_; rintro e w20 ⟨rfl, rfl⟩))
      have hB15 : Below A w' w15 := hB11.trans (hb15.mono (by omega))
      have hB16 : Below A w' w16 := hB15.trans (hb16.below (by have := hB15.size; omega) (by omega))
      have hB17 : Below A w' w20 := hB16.trans (hb17.below (by have := hB16.size; omega) (by omega))
      clear hB15 hB16
      go_wp2
      go_ret
      exact ⟨rfl, hB17⟩
end Go.Proofs.YtilcgafnkihjcaaDoor
