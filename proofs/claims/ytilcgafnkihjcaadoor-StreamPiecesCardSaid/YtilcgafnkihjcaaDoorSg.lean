/- StreamPieces' body. -/
import Derived.Test.YtilcgafnkihjcaaDoorSf
namespace Go.Proofs.YtilcgafnkihjcaaDoor
open Go.RowKit

/-- the slice at ao lays the bytes L -/
def Byts (ao : Option Addr) (L : List UInt8) (w : World) : Prop :=
  L = [] ∨ ∃ b off, ao = some ⟨b, off, none⟩ ∧ b < w.heap.size ∧ ∀ i (h : i < L.length), w.cell? ⟨b, off + i, none⟩ = some (.int .u8 (L[i].toNat : Int))
theorem Byts.below {ao : Option Addr} {L : List UInt8} {w w' : World} {B : Nat} (h : Byts ao L w) (hB : w.heap.size ≤ B) (hb : Below B w w') : Byts ao L w' := by
  rcases h with h | ⟨b, off, h1, h2, h3⟩
  · exact .inl h
  · exact .inr ⟨b, off, h1, by have := hb.size; omega, fun i hi => (hb.cell (p := ⟨b, off + i, none⟩) (by show b < B; omega)).trans (h3 i hi)⟩
theorem Byts.cell {ao : Option Addr} {L : List UInt8} {w : World} (h : Byts ao L w) (k : Nat) (hk : k < L.length) : ∃ b off, ao = some ⟨b, off, none⟩ ∧ w.cell? ⟨b, off + k, none⟩ = some (.int .u8 (L[k].toNat : Int)) := by
  rcases h with h | ⟨b, off, h1, h2, h3⟩
  · subst h; simp at hk
  · exact ⟨b, off, h1, h3 k hk⟩

set_option maxRecDepth 100000 in
set_option maxHeartbeats 2000000 in
theorem streamPieces_any (S : List UInt8) (ao : Option Addr) (cap : Nat) (L : List UInt8) (w : World) (hg : Glob w) (hS : S.length ≤ maxLen) (hL : L.length ≤ maxLen) (hBy : Byts ao L w) :
    Calls Tryd.prog 4 #[.string ⟨S.toArray⟩, .slice ao L.length cap] w fun e w' => e = .returned (.bool true) ∧ Below w.heap.size w w' := by
  have HSeed := Lib.hid (fun w => seed_any S w hS)
  obtain ⟨sd, hsd⟩ : ∃ sd, seedL S = sd := ⟨_, rfl⟩
  have hsl : sd.length = 32 := by rw [← hsd]; exact seedL_length _
  rw [hsd] at HSeed
  have HG := Lib.hid hg
  have HBy := Lib.hid hBy
  have hsz := hg.size
  obtain ⟨A, hA⟩ : ∃ A, w.heap.size = A := ⟨_, rfl⟩
  rw [hA] at hsz ⊢
  unfold maxLen at hS hL
  clear hsd hg hBy
  go_enter Tryd.func4, Tryd.ntmps4
  go_wp2_with fail
  refine (works_any w HG.out).mono ?_
  rw [hA]
  rintro e w1 ⟨rfl, hB1⟩
  go_wp2_with fail
  refine (HSeed.out w1).mono ?_
  rintro e w2 ⟨rfl, hb2⟩
  have hB2 : Below A w w2 := hB1.trans (hb2.mono (by rw [← hA]; exact hB1.size))
  clear hb2 hB1
  go_wp2_with fail
  refine (sNew_any sd w2 hsl).mono ?_
  have z2 := hB2.size
  obtain ⟨b1, hb1⟩ : ∃ b1, w2.heap.size = b1 := ⟨_, rfl⟩
  rw [hb1]
  rintro e w3 ⟨rfl, hs3, hb3⟩
  have hB3 : Below A w w3 := hB2.trans (hb3.mono (by omega))
  have hlt3 := hs3.lt
  go_wp2_with fail
  refine (HSeed.out w3).mono ?_
  rintro e w4 ⟨rfl, hb4⟩
  have hB4 : Below A w w4 := hB3.trans (hb4.mono (by have := hB3.size; omega))
  have hs4 := hs3.same (hb4.block b1 hlt3)
  have hlt4 := hs4.lt
  clear hs3
  go_wp2_with fail
  refine (sNew_any sd w4 hsl).mono ?_
  obtain ⟨b2, hb2⟩ : ∃ b2, w4.heap.size = b2 := ⟨_, rfl⟩
  rw [hb2]
  rintro e w5 ⟨rfl, ht5, hb5⟩
  have hB5 : Below A w w5 := hB4.trans (hb5.mono (by have := hB4.size; omega))
  have hs5 := hs4.same (hb5.block b1 (by omega))
  have HS5 := Lib.hid hs5
  have HT5 := Lib.hid ht5
  have hA1 : A ≤ b1 := by omega
  have hA2 : b1 < b2 := by omega
  clear hs4 hs5 ht5 hb3 hb4 hb5 hB3 hB2 hB4 z2 hlt3 hlt4
  go_wp2
  go_loopw [9, 10] (fun v i wr => ∃ k m : Nat, k ≤ L.length ∧ k ≤ 40 ∧ m ≤ 200 * k ∧ i = .int .i64 (k : Int) ∧ v = .string ⟨(drawL sd 0 m).toArray⟩ ∧ Hid (StAt b1 sd m wr) ∧ Hid (StAt b2 sd 0 wr) ∧ Below A w wr) (fun _ i _ => L.length - (intOf i).toNat)
  case atStart => exact ⟨0, 0, by omega, by omega, by omega, rfl, rfl, HS5, HT5, hB5⟩
  case round =>
    obtain ⟨k, m, hk, hk4, hm, rfl, rfl, HS, HT, hbe⟩ := hrel
    have hz := hbe.size
    have HG1 := Lib.hid (HG.out.below (by omega) hbe)
    by_cases hlt : k < L.length ∧ k < 40
    · obtain ⟨hlt, hlt4⟩ := hlt
      obtain ⟨g, off, rfl, hcell⟩ := (HBy.out.below (by omega) hbe).cell k hlt
      obtain ⟨x, hx⟩ : ∃ x, L[k].toNat = x := ⟨_, rfl⟩
      have hx8 : x < 256 := by rw [← hx]; exact L[k].toNat_lt
      rw [hx] at hcell
      obtain ⟨n, hn⟩ : ∃ n, x % 201 = n := ⟨_, rfl⟩
      have e1 : (x : Int) % 201 = (n : Int) := by omega
      have hn2 : n ≤ 200 := by omega
      have k0 : (0 : Int) ≤ (k : Int) := by omega
      have k1 : (k : Int) < (L.length : Int) := by omega
      have k2 : (k : Int) < 40 := by omega
      obtain ⟨M, hM⟩ : ∃ M, drawL sd 0 m = M := ⟨_, rfl⟩
      have hMl : M.length = m := by rw [← hM]; exact drawL_length _ _ _
      obtain ⟨D, hD⟩ : ∃ D, drawL sd m n = D := ⟨_, rfl⟩
      have hDl : D.length = n := by rw [← hD]; exact drawL_length _ _ _
      have HMD := Lib.hid (show drawL sd 0 (m + n) = M ++ D by rw [drawL_append, Nat.zero_add, hM, hD])
      have hcat := run_cat M D (by omega)
      rw [hM]
      have HD := Lib.hid hD
      clear hx hn hD hM
      go_wp2_with fail
      rw [e1]
      clear e1
      refine (sCopy_any b1 sd m wr HS.out).mono ?_
      obtain ⟨b3, hb3⟩ : ∃ b3, wr.heap.size = b3 := ⟨_, rfl⟩
      have l1 : b1 < b3 := by rw [← hb3]; exact HS.out.lt
      have l2 : b2 < b3 := by rw [← hb3]; exact HT.out.lt
      rw [hb3]
      rintro e w6 ⟨rfl, hc6, hb6⟩
      have HS6 := Lib.hid (HS.out.same (hb6.block b1 l1))
      have HT6 := Lib.hid (HT.out.same (hb6.block b2 l2))
      have HC6 := Lib.hid hc6
      have hB6 : Below A w w6 := hbe.trans (hb6.mono (by omega))
      have HG6 := Lib.hid (HG.out.below (by omega) hB6)
      have hl6 := hc6.lt
      clear hc6 hb6 HS HT
      go_wp2_with fail
      refine (sBytes_any b1 sd hsl m n w6 HS6.out HG6.out (by omega) (by omega) (by omega)).mono ?_
      rw [HD.out]
      rintro e w7 ⟨rfl, hs7, hb7⟩
      have HS7 := Lib.hid hs7
      have HT7 := Lib.hid (HT6.out.same (hb7.block b2 (by omega) (by omega)))
      have HC7 := Lib.hid (HC6.out.same (hb7.block b3 hl6 (by omega)))
      have hB7 : Below A w w7 := hB6.trans (hb7.below (by have := hB6.size; omega) hA1)
      have HG7 := Lib.hid (HG.out.below (by omega) hB7)
      have hz7 := hb7.size
      clear hs7 hb7 HS6 HT6 HC6
      go_wp2_with fail
      refine (sBytes_any b3 sd hsl m n w7 HC7.out HG7.out (by omega) (by omega) (by omega)).mono ?_
      rw [HD.out]
      rintro e w8 ⟨rfl, hc8, hb8⟩
      have HS8 := Lib.hid (HS7.out.same (hb8.block b1 (by omega) (by omega)))
      have HT8 := Lib.hid (HT7.out.same (hb8.block b2 (by omega) (by omega)))
      have HC8 := Lib.hid hc8
      have hB8 : Below A w w8 := hB7.trans (hb8.below (by have := hB7.size; omega) (by omega))
      clear hc8 hb8 HS7 HT7 HC7
      go_wp2_with fail
      refine (sPlace_any b3 sd (m + n) w8 HC8.out).mono ?_
      rintro e w9 ⟨rfl, rfl⟩
      go_wp2_with fail
      refine (sPlace_any b1 sd (m + n) w9 HS8.out).mono ?_
      rintro e w9' ⟨rfl, rfl⟩
      go_wp2
      go_roundw
      case rel => exact ⟨k + 1, m + n, by omega, by omega, by omega, by go_num, by rw [HMD.out], HS8, HT8, hB8⟩
      case measure => simp [intOf]; omega
    · have hm8 : m ≤ 8000 := by omega
      obtain ⟨M, hM⟩ : ∃ M, drawL sd 0 m = M := ⟨_, rfl⟩
      have hMl : M.length = m := by rw [← hM]; exact drawL_length _ _ _
      have HM := Lib.hid hM
      rw [hM]
      clear hM
      have hl2 : b2 < wr.heap.size := HT.out.lt
      have hcond : (¬ (k : Int) < (L.length : Int)) ∨ ((k : Int) < (L.length : Int) ∧ ¬ (k : Int) < 40) := by omega
      have HBt := Lib.hid (sBytes_any b2 sd hsl 0 m wr HT.out HG1.out (by omega) (by omega) (by omega))
      rw [HM.out] at HBt
      clear hlt
      rcases hcond with hk1 | ⟨hk1, hk2⟩
      all_goals
        go_wp2_with fail
        refine HBt.out.mono ?_
        rintro e w6 ⟨rfl, -, hb6⟩
        have HS6 := Lib.hid (HS.out.same (hb6.block b1 (by omega) (by omega)))
        have hB6 : Below A w w6 := hbe.trans (hb6.below (by omega) (by omega))
        clear hb6
        generalize wr = wx at *
        go_wp2
        go_loopw [19, 20] (fun v i wr => ∃ q : Nat, (0 < q → 32 * (q - 1) < m) ∧ i = .int .u64 (q : Int) ∧ v = .string ⟨(drawL sd 0 (32 * q)).toArray⟩ ∧ Hid (StAt b1 sd m wr) ∧ Below A w wr) (fun v _ _ => m + 32 - strLen v)
        case atStart => exact ⟨0, by omega, rfl, rfl, HS6, hB6⟩
        case round =>
          obtain ⟨q, hq, rfl, rfl, HSq, hbq⟩ := hrel
          have hzq := hbq.size
          obtain ⟨W, hW⟩ : ∃ W, drawL sd 0 (32 * q) = W := ⟨_, rfl⟩
          have hWl : W.length = 32 * q := by rw [← hW]; exact drawL_length _ _ _
          have HW := Lib.hid hW
          rw [hW]
          clear hW
          by_cases hlt : 32 * q < m
          · have hlt' : (W.length : Int) < (M.length : Int) := by omega
            obtain ⟨B, hB⟩ : ∃ B, blockL sd q = B := ⟨_, rfl⟩
            have hBl : B.length = 32 := by rw [← hB]; exact blockL_length _ _
            have HWB := Lib.hid (show drawL sd 0 (32 * (q + 1)) = W ++ B by rw [show 32 * (q + 1) = 32 * q + 32 by omega, drawL_append, Nat.zero_add, drawL_block, HW.out, hB])
            have hcat := run_cat W B (by omega)
            have HBk := Lib.hid (fun g w' hg' hs' => block_any sd hsl q g w' hg' hs')
            rw [hB] at HBk
            clear hB
            go_wp2_with fail
            refine (HSeed.out wr).mono ?_
            rintro e w7 ⟨rfl, hb7⟩
            go_wp2_with fail
            refine (num_any q w7).mono ?_
            rintro e w8 ⟨rfl, hb8⟩
            go_wp2_with fail
            have hb8a : Below A w (w8.alloc (.cells #[.string ⟨sd.toArray⟩, .string ⟨(numL q).toArray⟩] 9)) := ((hbq.trans (hb7.mono (by omega))).trans (hb8.mono (by have := hb7.size; omega))).alloc (by have := hb7.size; have := hb8.size; omega) _
            have hb1q : b1 < wr.heap.size := HSq.out.lt
            refine (HBk.out w8.heap.size _ (HG.out.below (by omega) hb8a) (strs_new w8 [sd, numL q] _ rfl)).mono ?_
            rintro e w9 ⟨rfl, hb9⟩
            have hB9 : Below A w w9 := hb8a.trans (hb9.mono (by have := hb7.size; have := hb8.size; simp; omega))
            have HS9 := Lib.hid (HSq.out.same (((hb9.block b1 (by have := hb7.size; have := hb8.size; simp; omega)).trans (Below.heap_alloc _ _ _ (by have := hb7.size; have := hb8.size; omega))).trans ((hb8.block b1 (by have := hb7.size; omega)).trans (hb7.block b1 hb1q))))
            clear hb7 hb8 hb8a hb9
            obtain ⟨X, hX⟩ : ∃ X, W ++ B = X := ⟨_, rfl⟩
            have hXl : X.length = 32 * (q + 1) := by rw [← hX, List.length_append]; omega
            have hXe : X.isEmpty = false := not_empty X (by intro e; rw [e] at hXl; simp at hXl)
            rw [hX] at hcat HWB
            have hqs : q < 1000 := by omega
            clear hX
            go_wp2
            go_roundw
            case rel => exact ⟨q + 1, fun _ => by rw [Nat.add_sub_cancel]; exact hlt, by go_num, by rw [HWB.out], HS9, hB9⟩
            case measure => show m + 32 - X.length < m + 32 - W.length; omega
          · have hlt' : ¬ (W.length : Int) < (M.length : Int) := by omega
            have hcut : (⟨W.toArray⟩ : ByteArray).extract 0 m = ⟨M.toArray⟩ := by
              rw [extract_list, List.drop_zero, ← HW.out, drawL_take _ _ _ _ (by omega), HM.out]
            have hm0 : (0 : Int) ≤ (m : Int) := by omega
            have hm1 : (m : Int) ≤ (W.length : Int) := by omega
            have hwm : IntKind.u64.wrap (m : Int) = (m : Int) := by rw [wrap_u64]; omega
            go_wp2_with fail
            refine (sPlace_any b1 sd m wr HSq.out).mono ?_
            rintro e w9 ⟨rfl, rfl⟩
            go_wp2
            go_ret
            exact ⟨rfl, hbq⟩
end Go.Proofs.YtilcgafnkihjcaaDoor
