/- What the statements make of a text: a seed; and what they ask of each program first. -/
import Derived.Test.YtilcgafnkihjcaaDoorSe
namespace Go.Proofs.YtilcgafnkihjcaaDoor
open Go.RowKit

/-- a text, made a seed -/
def seedL (S : List UInt8) : List UInt8 := S.take 32 ++ List.replicate (32 - (S.take 32).length) 0
theorem seedL_length (S : List UInt8) : (seedL S).length = 32 := by
  unfold seedL; rw [List.length_append, List.length_replicate, List.length_take]; omega

set_option maxHeartbeats 1000000 in
theorem seed_any (S : List UInt8) (w : World) (hm : S.length ≤ maxLen) :
    Calls Tryd.prog 9 #[.string ⟨S.toArray⟩] w fun e w' => e = .returned (.string ⟨(seedL S).toArray⟩) ∧ Below w.heap.size w w' := by
  unfold maxLen at hm
  obtain ⟨i0, hi, hz0, hz1, hz2⟩ := info_parts Tryd.info5
  have e1 : (⟨S.toArray⟩ : ByteArray).extract 0 (min (S.length : Int) 32).toNat = ⟨(S.take 32).toArray⟩ := by
    rw [extract_list, List.drop_zero]
    congr 2
    by_cases h : S.length ≤ 32
    · rw [List.take_of_length_le (by omega), List.take_of_length_le (by omega)]
    · congr 1; omega
  have hT : (S.take 32).length ≤ 32 := by rw [List.length_take]; omega
  obtain ⟨T, hTT⟩ : ∃ T, S.take 32 = T := ⟨_, rfl⟩
  have HT := Lib.hid hTT
  rw [hTT] at e1 hT
  have HL := Lib.hid (show seedL S = T ++ List.replicate (32 - T.length) 0 by rw [seedL, hTT])
  clear hTT
  obtain ⟨m, hmm⟩ : ∃ m, 32 - T.length = m := ⟨_, rfl⟩
  rw [hmm] at HL
  have e2 : (32 : Int) - (T.length : Int) = (m : Int) := by omega
  have hm32 : m ≤ 32 := by omega
  obtain ⟨C, hC⟩ : ∃ C, C = madeCells #[.int .u8 0] m := ⟨_, rfl⟩
  have hmk : ∀ w, (Instr.makeSlice 43 (.int .i64 (m : Int)) (.int .i64 (m : Int))).run Tryd.prog w = .ok (.slice (some ⟨w.heap.size, 0, none⟩) m m) (w.alloc (.cells C 5)) := by
    intro w
    have h := run_make (P := Tryd.prog) w 43 5 i0 (.int .u8 0) Tryd.underlying43 hi hz0 .i64 .i64 (m : Int) (m : Int) (by omega) (by omega) (by rw [hz2]; omega) (by omega)
    rw [show (m : Int).toNat = m by omega, hz1, Nat.mul_one] at h
    rw [hC]
    exact h
  have hconv : (convert 43 9 (.slice (some ⟨w.heap.size, 0, none⟩) m m)).run Tryd.prog (w.alloc (.cells C 5)) = .ok (.string ⟨(List.replicate m 0).toArray⟩) (w.alloc (.cells C 5)) := by
    have h := run_convert_bytes_back (P := Tryd.prog) (w.alloc (.cells C 5)) 43 9 5 ⟨w.heap.size, 0, none⟩ m (List.replicate m 0) Tryd.underlying43 Tryd.underlying5 Tryd.underlying9 (by
      intro j hj
      have hj' : j < m := by simpa using hj
      rw [Addr.add_mid, Nat.zero_add, cell_of_row _ _ _ _ 5 _ (heap_alloc_new w _), hC]
      simp [madeCells, hj', Nat.mod_one])
    rw [List.length_replicate] at h
    exact h
  have hcat := run_cat T (List.replicate m 0) (by rw [List.length_replicate]; omega)
  obtain ⟨Z, hZ⟩ : ∃ Z : List UInt8, List.replicate m 0 = Z := ⟨_, rfl⟩
  have hZl : Z.length = m := by rw [← hZ]; simp
  rw [hZ] at hcat hconv HL
  clear hC hmm hZ
  go_enter Tryd.func9, Tryd.ntmps9
  go_wp2
  go_ret
  exact ⟨by rw [HL.out]; rfl, (Below.refl _ _).alloc (Nat.le_refl _) _⟩

def rowK (k : Nat) : List Value := List.replicate k (.int .u8 7) ++ List.replicate (32 - k) (.int .u8 0)
theorem rowK_length (k : Nat) (h : k ≤ 32) : (rowK k).length = 32 := by simp [rowK]; omega
theorem rowK_next (k : Nat) (h : k < 32) : splice (rowK k) k [.int .u8 7] = rowK (k + 1) := by
  have e : 32 - k = (32 - (k + 1)) + 1 := by omega
  unfold splice rowK
  rw [List.take_left' (by simp), List.drop_append, List.drop_of_length_le (by simp), e, List.replicate_succ]
  simp [List.replicate_succ', List.append_assoc]

def sevens : List UInt8 := List.replicate 32 7
/-- 32 bytes 07 -/
def SevensAt (A : Nat) (w : World) : Prop := w.heap[A]? = some (.cells (rowK 32).toArray 5 (0, 0))
theorem SevensAt.cell {A : Nat} {w : World} (h : SevensAt A w) (j : Nat) (hj : j < 32) : w.cell? ⟨A, j, none⟩ = some (.int .u8 7) := by
  rw [row_cell h, rowK, List.getElem?_append_left (by rw [List.length_replicate]; exact hj), List.getElem?_replicate, if_pos hj]
theorem SevensAt.conv {A : Nat} {w : World} (h : SevensAt A w) : (convert 43 9 (.slice (some ⟨A, 0, none⟩) 32 32)).run Tryd.prog w = .ok (.string ⟨sevens.toArray⟩) w :=
  run_convert_bytes_back (P := Tryd.prog) w 43 9 5 ⟨A, 0, none⟩ 32 sevens Tryd.underlying43 Tryd.underlying5 Tryd.underlying9 (fun j hj => by
    have hj' : j < 32 := by simpa [sevens] using hj
    rw [Addr.add_mid, Nat.zero_add, h.cell j hj']; rw [show sevens[j] = 7 from List.getElem_replicate hj]; rfl)
theorem SevensAt.conv1 {A : Nat} {w : World} (h : SevensAt A w) : (convert 43 9 (.slice (some ⟨A, 1, none⟩) 31 31)).run Tryd.prog w = .ok (.string ⟨(List.replicate 31 7).toArray⟩) w :=
  run_convert_bytes_back (P := Tryd.prog) w 43 9 5 ⟨A, 1, none⟩ 31 (List.replicate 31 7) Tryd.underlying43 Tryd.underlying5 Tryd.underlying9 (fun j hj => by
    have hj' : j < 31 := by simpa using hj
    rw [Addr.add_mid, h.cell (1 + j) (by omega), List.getElem_replicate]; rfl)

set_option maxRecDepth 100000 in
set_option maxHeartbeats 2000000 in
theorem works_any (w : World) (hg : Glob w) :
    Calls Tryd.prog 17 #[] w fun e w' => e = .returned (.bool true) ∧ Below w.heap.size w w' := by
  obtain ⟨i0, hi, hz0, hz1, hz2⟩ := info_parts Tryd.info5
  obtain ⟨C, hC⟩ : ∃ C, C = madeCells #[.int .u8 0] 32 := ⟨_, rfl⟩
  have hmk : ∀ w, (Instr.makeSlice 43 (.int .i64 32) (.int .i64 32)).run Tryd.prog w = .ok (.slice (some ⟨w.heap.size, 0, none⟩) 32 32) (w.alloc (.cells C 5)) := by
    intro w
    have h := run_make (P := Tryd.prog) w 43 5 i0 (.int .u8 0) Tryd.underlying43 hi hz0 .i64 .i64 32 32 (by omega) (by omega) (by rw [hz2]; omega) (by omega)
    rw [show (32 : Int).toNat = 32 by omega, hz1, Nat.mul_one] at h
    rw [hC]
    exact h
  have HC := Lib.hid (show C = (rowK 0).toArray by rw [hC]; kernel_rfl)
  have HG := Lib.hid hg
  have hsz := hg.size
  clear hC hi hz0 hz1 hz2 hg
  go_enter Tryd.func17, Tryd.ntmps17
  go_wp2
  go_loopw [2] (fun i wr => ∃ k : Nat, k ≤ 32 ∧ i = .int .i64 (k : Int) ∧ Hid (wr.heap[w.heap.size]? = some (.cells (rowK k).toArray 5 (0, 0))) ∧ Below w.heap.size w wr) (fun i _ => 32 - (intOf i).toNat)
  case atStart => exact ⟨0, by omega, rfl, Lib.hid (by rw [heap_alloc_new, HC.out]), (Below.refl _ _).alloc (Nat.le_refl _) _⟩
  case round =>
    obtain ⟨k, hk, rfl, HR, hbe⟩ := hrel
    by_cases hlt : k < 32
    · have hce : (wr.cell? ⟨w.heap.size, k, none⟩).isSome = true := by rw [row_cell HR.out, List.getElem?_eq_getElem (by rw [rowK_length k hk]; exact hlt)]; rfl
      obtain ⟨v0, hv0⟩ := Option.isSome_iff_exists.1 hce
      have hfe : wr.frozen? ⟨w.heap.size, k, none⟩ = false := row_free HR.out k
      have k0 : (0 : Int) ≤ (k : Int) := by omega
      have k1 : (k : Int) < 32 := by omega
      clear hce
      go_wp2
      go_roundw
      case rel => exact ⟨k + 1, by omega, by go_num, Lib.hid (by rw [← rowK_next k hlt]; exact heap_setCells_row [_] k _ wr HR.out (by rw [rowK_length k hk]; simp; omega)), hbe.setCell (p := ⟨w.heap.size, k, none⟩) (Nat.le_refl _) _⟩
      case measure => simp [intOf]; omega
    · have ek : k = 32 := by omega
      subst ek
      have HS := Lib.hid (show SevensAt w.heap.size wr from HR.out)
      have hc0 := HS.out.conv
      obtain ⟨V, hV⟩ : ∃ V, sevens = V := ⟨_, rfl⟩
      have hVl : V.length = 32 := by rw [← hV]; simp [sevens]
      have HV := Lib.hid hV
      rw [hV] at hc0
      clear hV HR
      have hz0 := hbe.size
      have hgr : Glob wr := HG.out.below (by omega) hbe
      have Hgr := Lib.hid hgr
      obtain ⟨b, hbb⟩ : ∃ b, wr.heap.size = b := ⟨_, rfl⟩
      have hAb : w.heap.size < b := by rw [← hbb]; exact (Array.getElem?_eq_some_iff.1 HS.out).1
      clear hgr
      go_wp2_with fail
      refine (sNew_any V wr hVl).mono ?_
      rw [hbb]
      rintro e w1 ⟨rfl, hs1, hb1⟩
      have HS1 := Lib.hid hs1
      have hsev1 : SevensAt w.heap.size w1 := (hb1.block _ hAb).trans HS.out
      have Hsev1 := Lib.hid hsev1
      have hc1 := hsev1.conv1
      obtain ⟨V1, hV1⟩ : ∃ V1 : List UInt8, List.replicate 31 7 = V1 := ⟨_, rfl⟩
      have hV1l : V1.length = 31 := by rw [← hV1]; simp
      rw [hV1] at hc1
      have hB1 : Below w.heap.size w w1 := hbe.trans (hb1.mono (by omega))
      have hG1 := Lib.hid (HG.out.below (by omega) hB1)
      clear hs1 hsev1 hc0 hV1
      go_wp2_with fail
      refine (sNew_bad V1 w1 (by omega) (by unfold maxLen; omega)).mono ?_
      rintro e w1' ⟨rfl, rfl⟩
      have HBy := Lib.hid (sBytes_any b V hVl 0 32 w1' HS1.out hG1.out (by omega) (by omega) (by omega))
      rw [show drawL V 0 32 = blockL V 0 from drawL_block V 0] at HBy
      obtain ⟨B, hB⟩ : ∃ B, blockL V 0 = B := ⟨_, rfl⟩
      have hBl : B.length = 32 := by rw [← hB]; exact blockL_length _ _
      rw [hB] at HBy
      have HBb := Lib.hid hB
      clear hB hc1
      go_wp2_with fail
      refine HBy.out.mono ?_
      rintro e w2 ⟨rfl, hs2, hb2⟩
      have HB2 := Lib.hid (hB1.trans (hb2.below hB1.size (by omega)))
      have hsev2 := Lib.hid (show SevensAt w.heap.size w2 from (hb2.block _ (by have := (Array.getElem?_eq_some_iff.1 Hsev1.out).1; exact this) (by omega)).trans Hsev1.out)
      have HS2 := Lib.hid hs2
      clear hs2 hb2 HBy
      go_wp2_with fail
      refine (sBytes_any b V hVl 32 0 w2 HS2.out (HG.out.below (by omega) HB2.out) (by omega) (by omega) (by omega)).mono ?_
      rw [show drawL V 32 0 = [] from rfl]
      rintro e w3 ⟨rfl, hs3, hb3⟩
      have HB3 := Lib.hid (HB2.out.trans (hb3.below HB2.out.size (by omega)))
      have hsev3 := Lib.hid (show SevensAt w.heap.size w3 from (hb3.block _ (by have := (Array.getElem?_eq_some_iff.1 hsev2.out).1; exact this) (by omega)).trans hsev2.out)
      have HS3 := Lib.hid hs3
      clear hs3 hb3 hsev2 HS2
      go_wp2_with fail
      refine (sBytes_bad b (-1) w3 (by omega)).mono ?_
      rintro e w3' ⟨rfl, rfl⟩
      go_wp2_with fail
      refine (sBytes_bad b 65537 w3' (by omega)).mono ?_
      rintro e w3'' ⟨rfl, rfl⟩
      go_wp2_with fail
      refine (sPlace_any b V 32 w3'' HS3.out).mono ?_
      rintro e w4 ⟨rfl, rfl⟩
      go_wp2_with fail
      refine (sBelow_zero b w4).mono ?_
      rintro e w5 ⟨rfl, rfl⟩
      go_wp2_with fail
      have hno : ∀ x, x < 18446744073709551616 → passedL x 1 = false := fun x hx => by simp [passedL]; omega
      refine (sBelow_any b V hVl 32 1 0 w5 HS3.out (HG.out.below (by omega) HB3.out) (by omega) (by omega) (by omega) (by omega) (fun i hi => by omega) (hno _ (numAt_lt _ _))).mono ?_
      rw [Nat.mod_one]
      rintro e w6 ⟨rfl, hs6, hb6⟩
      have HB6 := Lib.hid (HB3.out.trans (hb6.below HB3.out.size (by omega)))
      have hsev6 := Lib.hid (show SevensAt w.heap.size w6 from (hb6.block _ (by have := (Array.getElem?_eq_some_iff.1 hsev3.out).1; exact this) (by omega)).trans hsev3.out)
      have HS6 := Lib.hid hs6
      clear hs6 hb6 hsev3 HS3 hno
      have HCv := Lib.hid (fun (w' : World) (h : SevensAt w.heap.size w') => h.conv)
      rw [HV.out] at HCv
      have hA6 : w.heap.size < w6.heap.size := (Array.getElem?_eq_some_iff.1 hsev6.out).1
      have hz6 : 2 ≤ w6.heap.size := by omega
      have HG6 := Lib.hid (HG.out.below (by omega) HB6.out)
      have hc6 := HCv.out w6 hsev6.out
      have hblt : b < w6.heap.size := HS6.out.lt
      have HBk := Lib.hid (fun g w' hg' hs' => block_any V hVl 0 g w' hg' hs')
      rw [HBb.out] at HBk
      have HN := Lib.hid (num_any 0)
      go_wp2
      go_region_held3 (fun w' => (convert 43 9 (.slice (some ⟨w.heap.size, 0, none⟩) 32 32)).run Tryd.prog w' = .ok (.string ⟨V.toArray⟩) w')
        (first | (exact HCv.out _ ((hb8.block _ hA6).trans hsev6.out)) | (exact HCv.out _ ((hb7a.block _ hA6).trans hsev6.out)) | (exact HCv.out _ ((hb7.block _ hA6).trans hsev6.out)) | (exact HCv.out _ hsev6.out))
        (first | (go_at_call 20; refine (HN.out _).mono ?_; rintro e w7 ⟨rfl, hb7⟩; have hb7a : Below w6.heap.size w6 (w7.alloc (.cells #[.string ⟨V.toArray⟩, .string ⟨(numL 0).toArray⟩] 9)) := ((Below.refl _ w6).drew.trans hb7).alloc hb7.size _) | (go_at_call 19; refine (HBk.out w7.heap.size _ (HG6.out.below hz6 hb7a) (strs_new w7 [V, numL 0] _ rfl)).mono ?_; rintro e w8 ⟨rfl, hb8'⟩; have hb8 : Below w6.heap.size w6 w8 := hb7a.trans (hb8'.mono (by have := hb7.size; simp at this ⊢; omega))) | (go_at_call 16; refine (sPlace_any b V 40 _ (HS6.out.same (hb8.block b hblt))).mono ?_; rintro e w9 ⟨rfl, rfl⟩))
      go_wp2
      go_ret
      exact ⟨rfl, HB6.out.trans (hb8.mono HB6.out.size)⟩
end Go.Proofs.YtilcgafnkihjcaaDoor
