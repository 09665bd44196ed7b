/- The bodies of ShaSums and ShaSteps return true for all arguments, in every world that holds the two tables. -/
import Derived.Test.YtbeiflcmnmfggaaDoorTq
import Derived.Test.YtbeiflcmnmfggaaDoorTx
namespace Go.Proofs.YtbeiflcmnmfggaaDoor
open Go.RowKit

/-- some noughts -/
def zerosL (n : Nat) : List UInt8 := List.replicate n 0
theorem zerosL_length (n : Nat) : (zerosL n).length = n := by simp [zerosL]

set_option maxRecDepth 100000 in
set_option maxHeartbeats 2000000 in
theorem shaSums_any (S : List UInt8) (z : Int) (w : World) (hg : Glob w) (hS : S.length ≤ maxLen) (hz0 : 0 ≤ z) (hz1 : z < 256) :
    Calls Tryd.prog 3 #[.string ⟨S.toArray⟩, .int .u8 z] w fun e w' => e = .returned (.bool true) ∧ Below w.heap.size w w' := by
  have hsz := hg.size
  unfold maxLen at hS
  obtain ⟨i0, hi, hq0, hq1, hq2⟩ := info_parts Tryd.info5
  obtain ⟨n, hn, hn2⟩ : ∃ n : Nat, z % 200 = (n : Int) ∧ n < 200 := ⟨(z % 200).toNat, by omega, by omega⟩
  obtain ⟨C, hC⟩ : ∃ C, C = madeCells #[.int .u8 0] n := ⟨_, rfl⟩
  have hmk : ∀ w, (Instr.makeSlice 22 (.int .i64 (n : Int)) (.int .i64 (n : Int))).run Tryd.prog w = .ok (.slice (some ⟨w.heap.size, 0, none⟩) n n) (w.alloc (.cells C 5)) := by
    intro w
    have h := run_make (P := Tryd.prog) w 22 5 i0 (.int .u8 0) Tryd.underlying22 hi hq0 .i64 .i64 (n : Int) (n : Int) (by omega) (by omega) (by rw [hq2]; omega) (by omega)
    rw [Int.toNat_natCast, hq1, Nat.mul_one] at h
    rw [hC]
    exact h
  have hconv : (convert 22 9 (.slice (some ⟨w.heap.size, 0, none⟩) n n)).run Tryd.prog (w.alloc (.cells C 5)) = .ok (.string ⟨(zerosL n).toArray⟩) (w.alloc (.cells C 5)) := by
    have h := run_convert_bytes_back (P := Tryd.prog) (w.alloc (.cells C 5)) 22 9 5 ⟨w.heap.size, 0, none⟩ n (zerosL n) Tryd.underlying22 Tryd.underlying5 Tryd.underlying9 (fun j hj => by
      have hj' : j < n := by simpa [zerosL] using hj
      rw [Addr.add_mid, Nat.zero_add, World.cell?_alloc_at (hn := rfl), hC, ← Array.getElem?_toList, toList_madeCells_one, List.getElem?_replicate, if_pos hj']
      simp [zerosL])
    rwa [zerosL_length] at h
  have hzl := zerosL_length n
  clear hC
  go_enter Tryd.func3, Tryd.ntmps3
  go_wp2_with fail
  all_goals
    first
      | (obtain ⟨T, hT, hTl⟩ := cut_str S 5000 5000 (by omega); rw [hT]; clear hT)
      | (obtain ⟨T, hT, hTl⟩ := cut_str S S.length 5000 (by omega); rw [hT]; clear hT)
    rw [str_add]
    obtain ⟨Tz, hTz, hTzl⟩ : ∃ Tz, T ++ zerosL n = Tz ∧ Tz.length < 6000 := ⟨_, rfl, by rw [List.length_append, zerosL_length]; omega⟩
    rw [hTz]
    clear hTz
    have hB1 : Below w.heap.size w (w.alloc (.cells C 5)) := (Below.refl _ _).alloc (Nat.le_refl _) _
    clear hmk hconv
    generalize w.alloc (.cells C 5) = w1 at *
    have hG1 : Glob w1 := hg.below (by omega) hB1
    refine (shaSum_any T w1 hG1 (by omega)).mono ?_
    rintro e w2 ⟨rfl, hU2⟩
    have hD2 : Below w.heap.size w w2 := hB1.trans (hU2.mono hB1.size)
    go_wp2_with fail
    refine (refSum_any T w2 (by omega)).mono ?_
    rintro e w3 ⟨rfl, hU3⟩
    have hD3 : Below w.heap.size w w3 := hD2.trans (hU3.mono hD2.size)
    have hG3 : Glob w3 := hg.below (by omega) hD3
    go_wp2_with fail
    refine (shaSum_any Tz w3 hG3 (by omega)).mono ?_
    rintro e w4 ⟨rfl, hU4⟩
    have hD4 : Below w.heap.size w w4 := hD3.trans (hU4.mono hD3.size)
    go_wp2_with fail
    refine (refSum_any Tz w4 (by omega)).mono ?_
    rintro e w5 ⟨rfl, hU5⟩
    have hD5 : Below w.heap.size w w5 := hD4.trans (hU5.mono hD4.size)
    have hG5 : Glob w5 := hg.below (by omega) hD5
    go_wp2_with fail
    refine (works_any w5 hG5).mono ?_
    rintro e w6 ⟨rfl, hU6⟩
    have hD6 : Below w.heap.size w w6 := hD5.trans (hU6.mono hD5.size)
    go_wp2
    go_ret
    exact ⟨rfl, hD6⟩

set_option maxRecDepth 100000 in
set_option maxHeartbeats 2000000 in
theorem shaSteps_any (ao : Option Addr) (cap : Nat) (L : List (List UInt8)) (w : World) (hg : Glob w) (hL : L.length ≤ maxLen) (hl : ∀ i (h : i < L.length), L[i].length ≤ maxLen) (hs : Strs ao L w) :
    Calls Tryd.prog 4 #[.slice ao L.length cap] w fun e w' => e = .returned (.bool true) ∧ Below w.heap.size w w' := by
  have hsz := hg.size
  have HL := Lib.hid hl
  have HS := Lib.hid hs
  clear hl hs
  go_enter Tryd.func4, Tryd.ntmps4
  go_wp2_with fail
  refine (new_any w hg).mono ?_
  rintro e w2 ⟨rfl, hH2, hB2⟩
  have hG2 : Glob w2 := hg.below (by omega) hB2
  go_wp2_with fail
  have hs3 : Strs ao L w2 := by
    rcases HS.out with h | ⟨b, off, h1, h2, h3⟩
    · exact .inl h
    · exact .inr ⟨b, off, h1, by have := hB2.size; omega, fun i hi => (hB2.cell (p := ⟨b, off + i, none⟩) h2).trans (h3 i hi)⟩
  refine (cut_any ao cap L w2 hL HL.out hs3).mono ?_
  rintro e w4 ⟨ao', cp, rfl, hR4, hB4⟩
  clear hs3
  have hH4 : Has w.heap.size [] w4 := Has.below hH2 hH2.lt hB4
  have hB04 : Below w.heap.size w w4 := hB2.trans (hB4.mono hB2.size)
  have l1 : w.heap.size < w2.heap.size := hH2.lt
  obtain ⟨hc20, hc300⟩ := cut_le L
  have HF := Lib.hid (flat_le _ hc300)
  obtain ⟨TS, hTS⟩ : ∃ TS, cutTo L 20 = TS := ⟨_, rfl⟩
  rw [hTS] at hR4 hc20 HF
  rw [hTS]
  have H300 := Lib.hid (hTS ▸ hc300)
  clear hc300 hTS
  go_wp2
  go_loopw [4, 6, 13] (fun t _ i wr => ∃ k : Nat, k ≤ TS.length ∧ i = .int .i64 (k : Int) ∧ ∃ T : List UInt8, Hid (T = (TS.take k).flatten) ∧ t = .string ⟨T.toArray⟩ ∧
      Has w.heap.size T wr ∧ Row ao' w2.heap.size TS wr ∧ Below w.heap.size w wr) (fun _ _ i _ => TS.length - (intOf i).toNat)
  case atStart => exact ⟨0, by omega, rfl, [], Lib.hid (by simp), rfl, hH4, hR4, hB04⟩
  case round =>
    clear hH4 hR4 hB04
    obtain ⟨k, hk, rfl, T, HT, rfl, hHr, hRr, hBr⟩ := hrel
    have hGr : Glob wr := hg.below (by omega) hBr
    have hTl2 : T.length ≤ 6000 := by have := HF.out k hk; rw [HT.out]; omega
    by_cases hlt : k < TS.length
    · obtain ⟨g, rfl, hcell⟩ := hRr.cell k hlt
      obtain ⟨X, hX⟩ : ∃ X, TS[k] = X := ⟨_, rfl⟩
      have hXl : X.length ≤ 300 := by rw [← hX]; exact H300.out k hlt
      have HT2 := Lib.hid (show T ++ X = (TS.take (k + 1)).flatten by rw [flat_snoc TS k hlt, ← HT.out, hX])
      rw [hX] at hcell
      clear hX
      have k0 : (0 : Int) ≤ (k : Int) := by omega
      have k1 : (k : Int) < (TS.length : Int) := by omega
      go_wp2_with fail
      refine (write_any w.heap.size T X wr hHr hGr (by omega) (by omega)).mono ?_
      rintro e v1 ⟨rfl, hH1, hU1⟩
      have hR1 := hRr.but hU1 (by omega)
      have hD1 : Below w.heap.size w v1 := hBr.trans (hU1.below hBr.size (by omega))
      have hg1 : Glob v1 := hg.below (by omega) hD1
      have hTX : (T ++ X).length ≤ 6300 := by rw [List.length_append]; omega
      obtain ⟨TX, hTXe⟩ : ∃ TX, T ++ X = TX := ⟨_, rfl⟩
      rw [hTXe] at hH1 hTX HT2
      have hadd := str_add T X
      rw [hTXe] at hadd
      clear hTXe
      go_wp2_with fail
      refine (sum_any w.heap.size TX v1 hH1 hg1 (by omega)).mono ?_
      rintro e v2 ⟨rfl, hU2⟩
      have hH2' := Has.below hH1 hH1.lt hU2
      have hR2 := hR1.below hU2
      have hD2 : Below w.heap.size w v2 := hD1.trans (hU2.mono hD1.size)
      go_wp2_with fail
      refine (refSum_any TX v2 (by omega)).mono ?_
      rintro e v3 ⟨rfl, hU3⟩
      have hH3' := Has.below hH2' hH2'.lt hU3
      have hR3 := hR2.below hU3
      have hD3 : Below w.heap.size w v3 := hD2.trans (hU3.mono hD2.size)
      go_wp2_with fail
      refine (len_any w.heap.size TX v3 hH3').mono ?_
      rintro e v4 ⟨rfl, rfl⟩
      go_wp2
      go_roundw
      case rel => exact ⟨k + 1, by omega, by go_num, TX, HT2, by first | rfl | (rw [hadd]), hH3', hR3, hD3⟩
      case measure => simp [intOf]; omega
    · go_wp2_with fail
      refine (sum_any w.heap.size T wr hHr hGr (by omega)).mono ?_
      rintro e v1 ⟨rfl, hU1⟩
      have hD1 : Below w.heap.size w v1 := hBr.trans (hU1.mono hBr.size)
      go_wp2_with fail
      refine (refSum_any T v1 (by omega)).mono ?_
      rintro e v2 ⟨rfl, hU2⟩
      have hD2 : Below w.heap.size w v2 := hD1.trans (hU2.mono hD1.size)
      have hg2 : Glob v2 := hg.below (by omega) hD2
      go_wp2_with fail
      refine (works_any v2 hg2).mono ?_
      rintro e v3 ⟨rfl, hU3⟩
      have hD3 : Below w.heap.size w v3 := hD2.trans (hU3.mono hD2.size)
      go_wp2
      go_ret
      exact ⟨rfl, hD3⟩
end Go.Proofs.YtbeiflcmnmfggaaDoor
