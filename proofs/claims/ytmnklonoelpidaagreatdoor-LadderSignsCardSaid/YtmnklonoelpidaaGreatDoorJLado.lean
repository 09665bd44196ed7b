/- Layer 14's law: LadderSigns. -/
import Derived.Test.YtmnklonoelpidaaGreatDoorJLadl
import Derived.Test.YtmnklonoelpidaaGreatDoorJLadm
import Derived.Test.YtmnklonoelpidaaGreatDoorJLadc
import Derived.Test.YtmnklonoelpidaaGreatDoorJ35
import Derived.Test.YtmnklonoelpidaaGreatDoorJ36
namespace Go.Proofs.YtmnklonoelpidaaGreatDoor
open Go.RowKit

/-- what a walk keeps: what came in, the program's ladder, the document's -/
structure Sg14 (Ld : Nat → (List UInt8) → Nat → Nat → Nat → World → Prop) (w0 : World) (ms : Array Value) (b c : Nat) (s : (List UInt8)) (f l n : Nat) (wz : World) : Prop where
  i : M14 w0 ms wz
  u : Ld b s f l n wz
  v : RLad c s f l n wz
theorem Sg14.next {Ld : Nat → (List UInt8) → Nat → Nat → Nat → World → Prop} (L : LadderC Ld) {w0 wz wa : World} {ms : Array Value} {b c : Nat} {s : (List UInt8)} {f l n : Nat} (h : Sg14 Ld w0 ms b c s f l n wz) (hb : Below wz.heap.size wz wa) : Sg14 Ld w0 ms b c s f l n wa :=
  ⟨h.i.next hb, L.ck h.u hb, h.v.next hb⟩
/-- a path is very short where there are few keys -/
theorem path_few (s : (List UInt8)) (n k : Nat) (hn : n ≤ 64) (hk : k < n) : (proofD (rungsL s n) [k]).length ≤ 1000 := by
  have hd16 : dep n ≤ 16 := dep_le n (by omega)
  rw [proofD_len, rungsL_len]
  have h1 := pre_bound (M := needM (lvs [k] (dep n)) (dep n)) (B := 20) (fun N hN => by
    obtain ⟨i, hi⟩ := List.getElem?_of_mem hN
    have h1 := need_le ((needs_M (L := lvs [k] (dep n)) (d := dep n) (fun x hx => by
      obtain ⟨y, hy, rfl⟩ := List.mem_map.1 hx
      have hy : y = k := by simpa using hy
      exact turnB_lt hd16 (Nat.lt_of_lt_of_le (by omega) (dep_spec n (by omega)).1))).2 i N hi)
    simp only [upTo, List.length_map] at h1
    simp at h1
    omega) (dep n) (by rw [needM_len]; exact Nat.le_refl _)
  omega
theorem signA_small (s : (List UInt8)) (f l n q : Nat) (d : (List UInt8)) (hn : n ≤ 8) : (signA s f l n q d).w.length ≤ 1000 ∧ (signA s f l n q d).p.length ≤ 1000 := by
  unfold signA
  split
  · exact ⟨by decide, by decide⟩
  · rename_i h1
    split
    · exact ⟨by decide, by decide⟩
    · have h2 : keyF f l n q = ((keyF f l n q).1, true) := by
        revert h1
        generalize keyF f l n q = z
        intro h1
        rcases z with ⟨u, v⟩
        cases v
        · exact absurd rfl h1
        · rfl
      exact ⟨by show (sigL _ _ _).length ≤ 1000; rw [sigL, row67_len]; decide, path_few s n _ (by omega) (keyF_lt h2).1⟩
set_option maxRecDepth 100000 in
set_option maxHeartbeats 8000000 in
theorem ladderSigns_no {Ld : Nat → (List UInt8) → Nat → Nat → Nat → World → Prop} (L : LadderC Ld) (HWK : WorksL) (s d z f l : Nat) (k : Int) (r wt : Nat) (w : World) (hg : Glob w) (hs : s < 256) (hd : d < 256) (hz : z < 256) (hf : f < 18446744073709551616) (hl : l < 18446744073709551616) (hk : -9223372036854775808 ≤ k ∧ k ≤ 9223372036854775807) (he : newE (txtF s (sizeA z)) f l (keysF k) ≠ 0) :
    Calls Tryz.prog 3 #[.agg (madeV s d z f l k r wt)] w fun e w' => e = .returned (.bool true) ∧ Below w.heap.size w w' := by
  have HWO := Lib.hid (fun wz (h : Below w.heap.size w wz) => HWK wz (hg.below hg.size h))
  have HGB := Lib.hid (fun wz (h : Below w.heap.size w wz) => hg.below hg.size h)
  have HSZ := Lib.hid (fun wz => sizes14_any s d z f l k r wt wz hz)
  have HKY := Lib.hid (fun wz => keys14_any s d z f l k r wt wz hk)
  have hsa : sizeA z ≤ 33 := by unfold sizeA; split <;> omega
  have hsb : sizeB z ≤ 33 := by unfold sizeB; split <;> omega
  obtain ⟨K, hK⟩ : ∃ K, K = keysF k := ⟨_, rfl⟩
  have hKb : -9223372036854775808 ≤ K ∧ K ≤ 9223372036854775807 := by
    rw [hK]; unfold keysF; split <;> omega
  rw [← hK] at he HKY
  generalize sizeA z = sa at *
  generalize sizeB z = sb at *
  obtain ⟨S, hS⟩ : ∃ S, S = txtF s sa := ⟨_, rfl⟩
  obtain ⟨D, hD⟩ : ∃ D, D = txtF d sb := ⟨_, rfl⟩
  rw [← hS] at he
  have HTS := Lib.hid (fun wz => show Calls Tryz.prog 9 #[.int .u8 (s : Int), .int .i64 (sa : Int)] wz fun e w' => e = .returned (.string ⟨S.toArray⟩) ∧ Below wz.heap.size wz w' by rw [hS]; exact text14_any s sa wz hs (by omega))
  have HTD := Lib.hid (fun wz => show Calls Tryz.prog 9 #[.int .u8 (d : Int), .int .i64 (sb : Int)] wz fun e w' => e = .returned (.string ⟨D.toArray⟩) ∧ Below wz.heap.size wz w' by rw [hD]; exact text14_any d sb wz hd (by omega))
  have hsl : S.length ≤ 1000 := by rw [hS, txtF_len]; omega
  have hdl : D.length ≤ 1000 := by rw [hD, txtF_len]; omega
  obtain ⟨e, hee⟩ : ∃ e, e = newE S f l K := ⟨_, rfl⟩
  have HNA := Lib.hid (fun wz (h : Below w.heap.size w wz) => show Calls Tryz.prog 10 #[.string ⟨S.toArray⟩, .int .u64 (f : Int), .int .u64 (l : Int), .int .i64 K] wz fun e' w' => e' = .returned (.tuple #[.pointer none, .int .i64 (e : Int)]) ∧ Below wz.heap.size wz w' by rw [hee]; exact L.ca S f l K wz (HGB.out wz h) hsl hf hl hKb he)
  have HNR := Lib.hid (fun wz => show Calls Tryz.prog 12 #[.string ⟨S.toArray⟩, .int .u64 (f : Int), .int .u64 (l : Int), .int .i64 K] wz fun e' w' => e' = .returned (.tuple #[.pointer none, .int .i64 (e : Int)]) ∧ Below wz.heap.size wz w' by
    by_cases h1 : S.length ≠ 32 ∨ l = 0 ∨ K < 1 ∨ 64 < K
    · have h2 : e = 2 := by rw [hee]; exact if_pos h1
      subst h2
      refine (rnew_arg S f l K wz h1).mono ?_
      rintro e' w' ⟨rfl, rfl⟩
      exact ⟨rfl, Below.refl _ _⟩
    · have h3 : 18446744073709551615 < f + l * K.toNat := by
        refine Classical.byContradiction fun h4 => he ?_
        unfold newE
        rw [if_neg h1, if_neg h4]
      have h2 : e = 21 := by rw [hee]; unfold newE; rw [if_neg h1, if_pos h3]
      subst h2
      obtain ⟨N, hN⟩ : ∃ N : Nat, N = K.toNat := ⟨_, rfl⟩
      obtain rfl : K = (N : Int) := by omega
      refine (rnew_over S f l N wz (by omega) (by omega) hl hf (by omega) (by omega) (by rwa [← hN] at h3)).mono ?_
      rintro e' w' ⟨rfl, rfl⟩
      exact ⟨rfl, Below.refl _ _⟩)
  have hne : ¬ (e : Int) = 0 := by omega
  have hne3 : ((e : Int) != 0) = true := by simp; omega
  clear hKb he hee hK hS hD hs hd hz hf hl hk hsa hsb hsl hdl hg
  have B0 := Lib.hid (M14.first w (madeV s d z f l k r wt))
  have HC := Lib.hid (show ∀ wz, M14 w (madeV s d z f l k r wt) wz → (wz.cell? ⟨w.heap.size, 0, none⟩ = some (.int .u8 (s : Int)) ∧ wz.cell? ⟨w.heap.size, 1, none⟩ = some (.int .u8 (d : Int)) ∧ wz.cell? ⟨w.heap.size, 2, none⟩ = some (.int .u8 (z : Int)) ∧ wz.cell? ⟨w.heap.size, 3, none⟩ = some (.int .u64 (f : Int)) ∧ wz.cell? ⟨w.heap.size, 4, none⟩ = some (.int .u64 (l : Int)) ∧ wz.cell? ⟨w.heap.size, 5, none⟩ = some (.int .i64 k) ∧ wz.cell? ⟨w.heap.size, 6, none⟩ = some (.int .u64 (r : Int)) ∧ wz.cell? ⟨w.heap.size, 7, none⟩ = some (.int .u64 (wt : Int)) ∧ M14 w (madeV s d z f l k r wt) wz) from fun wz h => ⟨(lit_cell h.m 0).trans rfl, (lit_cell h.m 1).trans rfl, (lit_cell h.m 2).trans rfl, (lit_cell h.m 3).trans rfl, (lit_cell h.m 4).trans rfl, (lit_cell h.m 5).trans rfl, (lit_cell h.m 6).trans rfl, (lit_cell h.m 7).trans rfl, h⟩)
  have HAL := Lib.hid (show ∀ wz o, (wz.cell? ⟨w.heap.size, 0, none⟩ = some (.int .u8 (s : Int)) ∧ wz.cell? ⟨w.heap.size, 1, none⟩ = some (.int .u8 (d : Int)) ∧ wz.cell? ⟨w.heap.size, 2, none⟩ = some (.int .u8 (z : Int)) ∧ wz.cell? ⟨w.heap.size, 3, none⟩ = some (.int .u64 (f : Int)) ∧ wz.cell? ⟨w.heap.size, 4, none⟩ = some (.int .u64 (l : Int)) ∧ wz.cell? ⟨w.heap.size, 5, none⟩ = some (.int .i64 k) ∧ wz.cell? ⟨w.heap.size, 6, none⟩ = some (.int .u64 (r : Int)) ∧ wz.cell? ⟨w.heap.size, 7, none⟩ = some (.int .u64 (wt : Int)) ∧ M14 w (madeV s d z f l k r wt) wz) → ((wz.alloc o).cell? ⟨w.heap.size, 0, none⟩ = some (.int .u8 (s : Int)) ∧ (wz.alloc o).cell? ⟨w.heap.size, 1, none⟩ = some (.int .u8 (d : Int)) ∧ (wz.alloc o).cell? ⟨w.heap.size, 2, none⟩ = some (.int .u8 (z : Int)) ∧ (wz.alloc o).cell? ⟨w.heap.size, 3, none⟩ = some (.int .u64 (f : Int)) ∧ (wz.alloc o).cell? ⟨w.heap.size, 4, none⟩ = some (.int .u64 (l : Int)) ∧ (wz.alloc o).cell? ⟨w.heap.size, 5, none⟩ = some (.int .i64 k) ∧ (wz.alloc o).cell? ⟨w.heap.size, 6, none⟩ = some (.int .u64 (r : Int)) ∧ (wz.alloc o).cell? ⟨w.heap.size, 7, none⟩ = some (.int .u64 (wt : Int)) ∧ M14 w (madeV s d z f l k r wt) (wz.alloc o)) from fun wz o h => HC.out _ (h.2.2.2.2.2.2.2.2.next (by0 wz o)))
  have HST := Lib.hid (show ∀ wz wa, (wz.cell? ⟨w.heap.size, 0, none⟩ = some (.int .u8 (s : Int)) ∧ wz.cell? ⟨w.heap.size, 1, none⟩ = some (.int .u8 (d : Int)) ∧ wz.cell? ⟨w.heap.size, 2, none⟩ = some (.int .u8 (z : Int)) ∧ wz.cell? ⟨w.heap.size, 3, none⟩ = some (.int .u64 (f : Int)) ∧ wz.cell? ⟨w.heap.size, 4, none⟩ = some (.int .u64 (l : Int)) ∧ wz.cell? ⟨w.heap.size, 5, none⟩ = some (.int .i64 k) ∧ wz.cell? ⟨w.heap.size, 6, none⟩ = some (.int .u64 (r : Int)) ∧ wz.cell? ⟨w.heap.size, 7, none⟩ = some (.int .u64 (wt : Int)) ∧ M14 w (madeV s d z f l k r wt) wz) → Below wz.heap.size wz wa → (wa.cell? ⟨w.heap.size, 0, none⟩ = some (.int .u8 (s : Int)) ∧ wa.cell? ⟨w.heap.size, 1, none⟩ = some (.int .u8 (d : Int)) ∧ wa.cell? ⟨w.heap.size, 2, none⟩ = some (.int .u8 (z : Int)) ∧ wa.cell? ⟨w.heap.size, 3, none⟩ = some (.int .u64 (f : Int)) ∧ wa.cell? ⟨w.heap.size, 4, none⟩ = some (.int .u64 (l : Int)) ∧ wa.cell? ⟨w.heap.size, 5, none⟩ = some (.int .i64 k) ∧ wa.cell? ⟨w.heap.size, 6, none⟩ = some (.int .u64 (r : Int)) ∧ wa.cell? ⟨w.heap.size, 7, none⟩ = some (.int .u64 (wt : Int)) ∧ M14 w (madeV s d z f l k r wt) wa) from fun wz wa h hb => HC.out _ (h.2.2.2.2.2.2.2.2.next hb))
  have hS0 := HC.out _ B0.out
  go_enter Tryz.func3, Tryz.ntmps3
  obtain ⟨c0, c1, c2, c3, c4, c5, c6, c7, _⟩ := hS0
  go_upto_region 2 with (go_at_call 8; with_reducible refine (HSZ.out _).mono ?_; rintro e w1 ⟨rfl, hb1⟩; have B1 := Lib.hid (B0.out.next hb1); clear hb1)
  clear c0 c1 c2 c3 c4 c5 c6 c7 HSZ
  have hS1 := HC.out _ (B1.out.next (Below.refl w1.heap.size w1).drew)
  go_region_held3 (fun wz => wz.cell? ⟨w.heap.size, 0, none⟩ = some (.int .u8 (s : Int)) ∧ wz.cell? ⟨w.heap.size, 1, none⟩ = some (.int .u8 (d : Int)) ∧ wz.cell? ⟨w.heap.size, 2, none⟩ = some (.int .u8 (z : Int)) ∧ wz.cell? ⟨w.heap.size, 3, none⟩ = some (.int .u64 (f : Int)) ∧ wz.cell? ⟨w.heap.size, 4, none⟩ = some (.int .u64 (l : Int)) ∧ wz.cell? ⟨w.heap.size, 5, none⟩ = some (.int .i64 k) ∧ wz.cell? ⟨w.heap.size, 6, none⟩ = some (.int .u64 (r : Int)) ∧ wz.cell? ⟨w.heap.size, 7, none⟩ = some (.int .u64 (wt : Int)) ∧ M14 w (madeV s d z f l k r wt) wz)
    (first | (with_reducible assumption) | (with_reducible exact HAL.out _ _ (by with_reducible assumption)))
    (first
      | (go_at_call 9; with_reducible refine (HTS.out _).mono ?_; rintro e wa ⟨rfl, hba⟩; have hSa := HST.out _ _ (by with_reducible assumption) hba)
      | (go_at_call 9; with_reducible refine (HTD.out _).mono ?_; rintro e wb ⟨rfl, hbb⟩; have hSb := HST.out _ _ (by with_reducible assumption) hbb))
  all_goals
    have HM3 := Lib.hid hSb.2.2.2.2.2.2.2.2
    clear hS1 hSb
    go_wp2
    have hS3 := HC.out _ (HM3.out.next (Below.refl _ _).drew)
    go_region_held3 (fun wz => wz.cell? ⟨w.heap.size, 0, none⟩ = some (.int .u8 (s : Int)) ∧ wz.cell? ⟨w.heap.size, 1, none⟩ = some (.int .u8 (d : Int)) ∧ wz.cell? ⟨w.heap.size, 2, none⟩ = some (.int .u8 (z : Int)) ∧ wz.cell? ⟨w.heap.size, 3, none⟩ = some (.int .u64 (f : Int)) ∧ wz.cell? ⟨w.heap.size, 4, none⟩ = some (.int .u64 (l : Int)) ∧ wz.cell? ⟨w.heap.size, 5, none⟩ = some (.int .i64 k) ∧ wz.cell? ⟨w.heap.size, 6, none⟩ = some (.int .u64 (r : Int)) ∧ wz.cell? ⟨w.heap.size, 7, none⟩ = some (.int .u64 (wt : Int)) ∧ M14 w (madeV s d z f l k r wt) wz)
      (first | (with_reducible assumption) | (with_reducible exact HAL.out _ _ (by with_reducible assumption)))
      (first
        | (go_at_call 11; with_reducible refine (HKY.out _).mono ?_; rintro e k3 ⟨rfl, hbk⟩; have hSk := HST.out _ _ (by with_reducible assumption) hbk)
        | (go_at_call 10; with_reducible refine (HNA.out _ hSk.2.2.2.2.2.2.2.2.o).mono ?_; rintro e n3 ⟨rfl, hbn⟩; have hSn := HST.out _ _ hSk hbn))
    have HM4 := Lib.hid hSn.2.2.2.2.2.2.2.2
    clear hSn hSk hS3
    go_wp2
    have hS4 := HC.out _ (HM4.out.next (Below.refl _ _).drew)
    go_region_held3 (fun wz => wz.cell? ⟨w.heap.size, 0, none⟩ = some (.int .u8 (s : Int)) ∧ wz.cell? ⟨w.heap.size, 1, none⟩ = some (.int .u8 (d : Int)) ∧ wz.cell? ⟨w.heap.size, 2, none⟩ = some (.int .u8 (z : Int)) ∧ wz.cell? ⟨w.heap.size, 3, none⟩ = some (.int .u64 (f : Int)) ∧ wz.cell? ⟨w.heap.size, 4, none⟩ = some (.int .u64 (l : Int)) ∧ wz.cell? ⟨w.heap.size, 5, none⟩ = some (.int .i64 k) ∧ wz.cell? ⟨w.heap.size, 6, none⟩ = some (.int .u64 (r : Int)) ∧ wz.cell? ⟨w.heap.size, 7, none⟩ = some (.int .u64 (wt : Int)) ∧ M14 w (madeV s d z f l k r wt) wz)
      (first | (with_reducible assumption) | (with_reducible exact HAL.out _ _ (by with_reducible assumption)))
      (first
        | (go_at_call 11; with_reducible refine (HKY.out _).mono ?_; rintro e k4 ⟨rfl, hbk⟩; have hSk := HST.out _ _ (by with_reducible assumption) hbk)
        | (go_at_call 12; with_reducible refine (HNR.out _).mono ?_; rintro e n4 ⟨rfl, hbn⟩; have hSn := HST.out _ _ hSk hbn))
    have HM5 := Lib.hid hSn.2.2.2.2.2.2.2.2
    clear hSn hSk hS4
    go_wp2_with (go_at_call 13; with_reducible refine (HWO.out _ HM5.out.o).mono ?_; rintro e w9 ⟨rfl, hb9⟩; have HM6 := Lib.hid (HM5.out.next hb9); clear hb9)
    exact bodyPost_ret (v := .bool true) (by simp [results, Tryz.results3, go_sem]) rfl ⟨rfl, HM6.out.o⟩
set_option maxRecDepth 100000 in
set_option maxHeartbeats 8000000 in
theorem ladderSigns_yes {Ld : Nat → (List UInt8) → Nat → Nat → Nat → World → Prop} (L : LadderC Ld) (HWK : WorksL) (s d z f l : Nat) (k : Int) (r wt : Nat) (w : World) (hg : Glob w) (hs : s < 256) (hd : d < 256) (hz : z < 256) (hf : f < 18446744073709551616) (hl : l < 18446744073709551616) (hk : -9223372036854775808 ≤ k ∧ k ≤ 9223372036854775807) (hr : r < 18446744073709551616) (hwt : wt < 18446744073709551616) (he : newE (txtF s (sizeA z)) f l (keysF k) = 0) :
    Calls Tryz.prog 3 #[.agg (madeV s d z f l k r wt)] w fun e w' => e = .returned (.bool true) ∧ Below w.heap.size w w' := by
  have HWO := Lib.hid (fun wz (h : Below w.heap.size w wz) => HWK wz (hg.below hg.size h))
  have HGB := Lib.hid (fun wz (h : Below w.heap.size w wz) => hg.below hg.size h)
  have HSZ := Lib.hid (fun wz => sizes14_any s d z f l k r wt wz hz)
  have HKY := Lib.hid (fun wz => keys14_any s d z f l k r wt wz hk)
  have hsa : sizeA z ≤ 33 := by unfold sizeA; split <;> omega
  have hsb : sizeB z ≤ 33 := by unfold sizeB; split <;> omega
  obtain ⟨K, hK⟩ : ∃ K, K = keysF k := ⟨_, rfl⟩
  rw [← hK] at he HKY
  generalize sizeA z = sa at *
  generalize sizeB z = sb at *
  obtain ⟨S, hS⟩ : ∃ S, S = txtF s sa := ⟨_, rfl⟩
  obtain ⟨D, hD⟩ : ∃ D, D = txtF d sb := ⟨_, rfl⟩
  rw [← hS] at he
  have HTS := Lib.hid (fun wz => show Calls Tryz.prog 9 #[.int .u8 (s : Int), .int .i64 (sa : Int)] wz fun e w' => e = .returned (.string ⟨S.toArray⟩) ∧ Below wz.heap.size wz w' by rw [hS]; exact text14_any s sa wz hs (by omega))
  have HTD := Lib.hid (fun wz => show Calls Tryz.prog 9 #[.int .u8 (d : Int), .int .i64 (sb : Int)] wz fun e w' => e = .returned (.string ⟨D.toArray⟩) ∧ Below wz.heap.size wz w' by rw [hD]; exact text14_any d sb wz hd (by omega))
  have hsl : S.length ≤ 1000 := by rw [hS, txtF_len]; omega
  have hdl : D.length ≤ 1000 := by rw [hD, txtF_len]; omega
  have HFI := Lib.hid (newE_fine he)
  obtain ⟨N, hN⟩ : ∃ N : Nat, N = K.toNat := ⟨_, rfl⟩
  rw [← hN] at HFI
  have hN1 := HFI.out.hn
  have hN0 := HFI.out.hn2
  obtain rfl : K = (N : Int) := by omega
  have hN2 : N ≤ 8 := by
    unfold keysF at hK
    split at hK <;> omega
  have hsl2 := HFI.out.hs
  have hl1 := HFI.out.hl
  have hov := HFI.out.ho
  have HNA := Lib.hid (fun wz (h : Below w.heap.size w wz) => L.cn S f l N wz (HGB.out wz h) HFI.out)
  have HNR := Lib.hid (fun wz => rnew_good S f l N wz hsl2 hl1 hl hf hN1 hN0 hov)
  obtain ⟨Q, hQ⟩ : ∃ Q, Q = rootS S N := ⟨_, rfl⟩
  have HR1 := Lib.hid (fun b wz (h : Below w.heap.size w wz) (hb : Ld b S f l N wz) => show Calls Tryz.prog 14 #[.pointer (some ⟨b, 0, none⟩)] wz fun e w' => e = .returned (.string ⟨Q.toArray⟩) ∧ Below wz.heap.size wz w' by rw [hQ]; exact L.cr b S f l N wz (HGB.out wz h) HFI.out hb)
  have HR2 := Lib.hid (fun b wz (hb : RLad b S f l N wz) => show Calls Tryz.prog 15 #[.pointer (some ⟨b, 0, none⟩)] wz fun e w' => e = .returned (.string ⟨Q.toArray⟩) ∧ Below wz.heap.size wz w' by rw [hQ]; exact rroot_any b S f l N wz hb hN1 hN0)
  have HP1 := Lib.hid (fun b wz (h : Below w.heap.size w wz) (hb : Ld b S f l N wz) => show Calls Tryz.prog 16 #[.pointer (some ⟨b, 0, none⟩), .int .u64 (wt : Int)] wz fun e w' => e = .returned (.agg #[.string ⟨Q.toArray⟩, .int .u64 (wt : Int), .int .u64 (f : Int), .int .u64 (l : Int), .int .u64 (N : Int)]) ∧ Below wz.heap.size wz w' by rw [hQ]; exact L.cp b S f l N wt wz (HGB.out wz h) HFI.out hb hwt)
  have HP2 := Lib.hid (fun b wz (hb : RLad b S f l N wz) => show Calls Tryz.prog 17 #[.pointer (some ⟨b, 0, none⟩), .int .u64 (wt : Int)] wz fun e w' => e = .returned (.agg #[.string ⟨Q.toArray⟩, .int .u64 (wt : Int), .int .u64 (f : Int), .int .u64 (l : Int), .int .u64 (N : Int)]) ∧ Below wz.heap.size wz w' by rw [hQ]; exact rpart14_any b S f l N wt wz hb hN1 hN0)
  have HK1 := Lib.hid (fun b (q : Nat) wz (h : Below w.heap.size w wz) (hb : Ld b S f l N wz) (hq : q < 18446744073709551616) => L.cq b S f l N q wz (HGB.out wz h) HFI.out hb hq)
  have HK2 := Lib.hid (fun b (q : Nat) wz (hb : RLad b S f l N wz) (hq : q < 18446744073709551616) => rkey_any b S f l N q wz hb hl1 hN0 hq)
  have HS1 := Lib.hid (fun b (q : Nat) wz (h : Below w.heap.size w wz) (hb : Ld b S f l N wz) (hq : q < 18446744073709551616) => L.cs b S f l N q D wz (HGB.out wz h) HFI.out hb hq hdl)
  have HS2 := Lib.hid (fun b (q : Nat) wz (hb : RLad b S f l N wz) (hq : q < 18446744073709551616) => rsign14_any b S f l N q D wz hb (by omega) hl1 hN0 hq)
  have HSL := Lib.hid (fun q => signA_small S f l N q D hN2)
  obtain ⟨a, ha⟩ : ∃ a, a = l * N := ⟨_, rfl⟩
  have ha1 : 0 < a := by rw [ha]; exact Nat.mul_pos hl1 hN1
  rw [← ha] at hov
  obtain ⟨x, hx⟩ : ∃ x, x = r % a := ⟨_, rfl⟩
  have hxa : x < a := by rw [hx]; exact Nat.mod_lt _ ha1
  obtain ⟨r2, hr2⟩ : ∃ r2, r2 = f + x := ⟨_, rfl⟩
  have y1 : IntKind.u64.wrap (N : Int) = (N : Int) := by rw [IntKind.wrap_u64]; omega
  have y2 : (l : Int) * (N : Int) = (a : Int) := by rw [ha]; exact (Int.natCast_mul l N).symm
  have y3 : IntKind.u64.wrap (a : Int) = (a : Int) := by rw [IntKind.wrap_u64]; omega
  have y4 : (r : Int) % (a : Int) = (x : Int) := by rw [hx]; exact (Int.natCast_emod r a).symm
  have y5 : (r : Int).tmod (a : Int) = (x : Int) := by rw [Int.tmod_eq_emod_of_nonneg (by omega)]; exact y4
  have y6 : ¬ (a : Int) = 0 := by omega
  have hn0 : ¬ (a = 0) := by omega
  have y7 : (f : Int) + (x : Int) = (r2 : Int) := by omega
  have y8 : IntKind.u64.wrap (r2 : Int) = (r2 : Int) := by rw [IntKind.wrap_u64]; omega
  have HRQ := Lib.hid (show r < 18446744073709551616 ∧ r2 < 18446744073709551616 from ⟨hr, by omega⟩)
  clear he hK hS hD hs hd hz hf hl hk hr hwt hsa hsb hsl hdl hg hN hN1 hN0 hN2 hsl2 hl1 hov hQ ha ha1 hx hxa hr2 HGB
  have B0 := Lib.hid (M14.first w (madeV s d z f l k r wt))
  have HC := Lib.hid (show ∀ wz, M14 w (madeV s d z f l k r wt) wz → (wz.cell? ⟨w.heap.size, 0, none⟩ = some (.int .u8 (s : Int)) ∧ wz.cell? ⟨w.heap.size, 1, none⟩ = some (.int .u8 (d : Int)) ∧ wz.cell? ⟨w.heap.size, 2, none⟩ = some (.int .u8 (z : Int)) ∧ wz.cell? ⟨w.heap.size, 3, none⟩ = some (.int .u64 (f : Int)) ∧ wz.cell? ⟨w.heap.size, 4, none⟩ = some (.int .u64 (l : Int)) ∧ wz.cell? ⟨w.heap.size, 5, none⟩ = some (.int .i64 k) ∧ wz.cell? ⟨w.heap.size, 6, none⟩ = some (.int .u64 (r : Int)) ∧ wz.cell? ⟨w.heap.size, 7, none⟩ = some (.int .u64 (wt : Int)) ∧ M14 w (madeV s d z f l k r wt) wz) from fun wz h => ⟨(lit_cell h.m 0).trans rfl, (lit_cell h.m 1).trans rfl, (lit_cell h.m 2).trans rfl, (lit_cell h.m 3).trans rfl, (lit_cell h.m 4).trans rfl, (lit_cell h.m 5).trans rfl, (lit_cell h.m 6).trans rfl, (lit_cell h.m 7).trans rfl, h⟩)
  have HAL := Lib.hid (show ∀ wz o, (wz.cell? ⟨w.heap.size, 0, none⟩ = some (.int .u8 (s : Int)) ∧ wz.cell? ⟨w.heap.size, 1, none⟩ = some (.int .u8 (d : Int)) ∧ wz.cell? ⟨w.heap.size, 2, none⟩ = some (.int .u8 (z : Int)) ∧ wz.cell? ⟨w.heap.size, 3, none⟩ = some (.int .u64 (f : Int)) ∧ wz.cell? ⟨w.heap.size, 4, none⟩ = some (.int .u64 (l : Int)) ∧ wz.cell? ⟨w.heap.size, 5, none⟩ = some (.int .i64 k) ∧ wz.cell? ⟨w.heap.size, 6, none⟩ = some (.int .u64 (r : Int)) ∧ wz.cell? ⟨w.heap.size, 7, none⟩ = some (.int .u64 (wt : Int)) ∧ M14 w (madeV s d z f l k r wt) wz) → ((wz.alloc o).cell? ⟨w.heap.size, 0, none⟩ = some (.int .u8 (s : Int)) ∧ (wz.alloc o).cell? ⟨w.heap.size, 1, none⟩ = some (.int .u8 (d : Int)) ∧ (wz.alloc o).cell? ⟨w.heap.size, 2, none⟩ = some (.int .u8 (z : Int)) ∧ (wz.alloc o).cell? ⟨w.heap.size, 3, none⟩ = some (.int .u64 (f : Int)) ∧ (wz.alloc o).cell? ⟨w.heap.size, 4, none⟩ = some (.int .u64 (l : Int)) ∧ (wz.alloc o).cell? ⟨w.heap.size, 5, none⟩ = some (.int .i64 k) ∧ (wz.alloc o).cell? ⟨w.heap.size, 6, none⟩ = some (.int .u64 (r : Int)) ∧ (wz.alloc o).cell? ⟨w.heap.size, 7, none⟩ = some (.int .u64 (wt : Int)) ∧ M14 w (madeV s d z f l k r wt) (wz.alloc o)) from fun wz o h => HC.out _ (h.2.2.2.2.2.2.2.2.next (by0 wz o)))
  have HST := Lib.hid (show ∀ wz wa, (wz.cell? ⟨w.heap.size, 0, none⟩ = some (.int .u8 (s : Int)) ∧ wz.cell? ⟨w.heap.size, 1, none⟩ = some (.int .u8 (d : Int)) ∧ wz.cell? ⟨w.heap.size, 2, none⟩ = some (.int .u8 (z : Int)) ∧ wz.cell? ⟨w.heap.size, 3, none⟩ = some (.int .u64 (f : Int)) ∧ wz.cell? ⟨w.heap.size, 4, none⟩ = some (.int .u64 (l : Int)) ∧ wz.cell? ⟨w.heap.size, 5, none⟩ = some (.int .i64 k) ∧ wz.cell? ⟨w.heap.size, 6, none⟩ = some (.int .u64 (r : Int)) ∧ wz.cell? ⟨w.heap.size, 7, none⟩ = some (.int .u64 (wt : Int)) ∧ M14 w (madeV s d z f l k r wt) wz) → Below wz.heap.size wz wa → (wa.cell? ⟨w.heap.size, 0, none⟩ = some (.int .u8 (s : Int)) ∧ wa.cell? ⟨w.heap.size, 1, none⟩ = some (.int .u8 (d : Int)) ∧ wa.cell? ⟨w.heap.size, 2, none⟩ = some (.int .u8 (z : Int)) ∧ wa.cell? ⟨w.heap.size, 3, none⟩ = some (.int .u64 (f : Int)) ∧ wa.cell? ⟨w.heap.size, 4, none⟩ = some (.int .u64 (l : Int)) ∧ wa.cell? ⟨w.heap.size, 5, none⟩ = some (.int .i64 k) ∧ wa.cell? ⟨w.heap.size, 6, none⟩ = some (.int .u64 (r : Int)) ∧ wa.cell? ⟨w.heap.size, 7, none⟩ = some (.int .u64 (wt : Int)) ∧ M14 w (madeV s d z f l k r wt) wa) from fun wz wa h hb => HC.out _ (h.2.2.2.2.2.2.2.2.next hb))
  have hS0 := HC.out _ B0.out
  go_enter Tryz.func3, Tryz.ntmps3
  obtain ⟨c0, c1, c2, c3, c4, c5, c6, c7, _⟩ := hS0
  go_upto_region 2 with (go_at_call 8; with_reducible refine (HSZ.out _).mono ?_; rintro e w1 ⟨rfl, hb1⟩; have B1 := Lib.hid (B0.out.next hb1); clear hb1)
  clear c0 c1 c2 c3 c4 c5 c6 c7 HSZ
  have hS1 := HC.out _ (B1.out.next (Below.refl w1.heap.size w1).drew)
  go_region_held3 (fun wz => wz.cell? ⟨w.heap.size, 0, none⟩ = some (.int .u8 (s : Int)) ∧ wz.cell? ⟨w.heap.size, 1, none⟩ = some (.int .u8 (d : Int)) ∧ wz.cell? ⟨w.heap.size, 2, none⟩ = some (.int .u8 (z : Int)) ∧ wz.cell? ⟨w.heap.size, 3, none⟩ = some (.int .u64 (f : Int)) ∧ wz.cell? ⟨w.heap.size, 4, none⟩ = some (.int .u64 (l : Int)) ∧ wz.cell? ⟨w.heap.size, 5, none⟩ = some (.int .i64 k) ∧ wz.cell? ⟨w.heap.size, 6, none⟩ = some (.int .u64 (r : Int)) ∧ wz.cell? ⟨w.heap.size, 7, none⟩ = some (.int .u64 (wt : Int)) ∧ M14 w (madeV s d z f l k r wt) wz)
    (first | (with_reducible assumption) | (with_reducible exact HAL.out _ _ (by with_reducible assumption)))
    (first
      | (go_at_call 9; with_reducible refine (HTS.out _).mono ?_; rintro e wa ⟨rfl, hba⟩; have hSa := HST.out _ _ (by with_reducible assumption) hba)
      | (go_at_call 9; with_reducible refine (HTD.out _).mono ?_; rintro e wb ⟨rfl, hbb⟩; have hSb := HST.out _ _ (by with_reducible assumption) hbb))
  all_goals
    have HM3 := Lib.hid hSb.2.2.2.2.2.2.2.2
    clear hS1 hSb
    go_wp2
    have hS3 := HC.out _ (HM3.out.next (Below.refl _ _).drew)
    go_region_held3 (fun wz => wz.cell? ⟨w.heap.size, 0, none⟩ = some (.int .u8 (s : Int)) ∧ wz.cell? ⟨w.heap.size, 1, none⟩ = some (.int .u8 (d : Int)) ∧ wz.cell? ⟨w.heap.size, 2, none⟩ = some (.int .u8 (z : Int)) ∧ wz.cell? ⟨w.heap.size, 3, none⟩ = some (.int .u64 (f : Int)) ∧ wz.cell? ⟨w.heap.size, 4, none⟩ = some (.int .u64 (l : Int)) ∧ wz.cell? ⟨w.heap.size, 5, none⟩ = some (.int .i64 k) ∧ wz.cell? ⟨w.heap.size, 6, none⟩ = some (.int .u64 (r : Int)) ∧ wz.cell? ⟨w.heap.size, 7, none⟩ = some (.int .u64 (wt : Int)) ∧ M14 w (madeV s d z f l k r wt) wz)
      (first | (with_reducible assumption) | (with_reducible exact HAL.out _ _ (by with_reducible assumption)))
      (first
        | (go_at_call 11; with_reducible refine (HKY.out _).mono ?_; rintro e k3 ⟨rfl, hbk⟩; have hSk := HST.out _ _ (by with_reducible assumption) hbk)
        | (go_at_call 10; with_reducible refine (HNA.out _ hSk.2.2.2.2.2.2.2.2.o).mono ?_; rintro e n3 ⟨b, rfl, hl3, hbn⟩; have hSn := HST.out _ _ hSk hbn; have L3 := Lib.hid hl3; clear hl3))
    have HM4 := Lib.hid hSn.2.2.2.2.2.2.2.2
    have L4 := Lib.hid (L.ck L3.out (Below.refl _ _).drew)
    clear hSn hSk hS3 L3
    go_wp2
    have hS4 := HC.out _ (HM4.out.next (Below.refl _ _).drew)
    go_region_held3 (fun wz => wz.cell? ⟨w.heap.size, 0, none⟩ = some (.int .u8 (s : Int)) ∧ wz.cell? ⟨w.heap.size, 1, none⟩ = some (.int .u8 (d : Int)) ∧ wz.cell? ⟨w.heap.size, 2, none⟩ = some (.int .u8 (z : Int)) ∧ wz.cell? ⟨w.heap.size, 3, none⟩ = some (.int .u64 (f : Int)) ∧ wz.cell? ⟨w.heap.size, 4, none⟩ = some (.int .u64 (l : Int)) ∧ wz.cell? ⟨w.heap.size, 5, none⟩ = some (.int .i64 k) ∧ wz.cell? ⟨w.heap.size, 6, none⟩ = some (.int .u64 (r : Int)) ∧ wz.cell? ⟨w.heap.size, 7, none⟩ = some (.int .u64 (wt : Int)) ∧ M14 w (madeV s d z f l k r wt) wz)
      (first | (with_reducible assumption) | (with_reducible exact HAL.out _ _ (by with_reducible assumption)))
      (first
        | (go_at_call 11; with_reducible refine (HKY.out _).mono ?_; rintro e k4 ⟨rfl, hbk⟩; have hSk := HST.out _ _ (by with_reducible assumption) hbk; have L5 := Lib.hid (L.ck L4.out hbk))
        | (go_at_call 12; with_reducible refine (HNR.out _).mono ?_; rintro e n4 ⟨c, rfl, hr4, hbn⟩; have hSn := HST.out _ _ hSk hbn; have L6 := Lib.hid (L.ck L5.out hbn); have R6 := Lib.hid hr4; clear hr4))
    have HM5 := Lib.hid hSn.2.2.2.2.2.2.2.2
    have HG := Lib.hid (show Sg14 Ld w (madeV s d z f l k r wt) b c S f l N n4 from ⟨HM5.out, L6.out, R6.out⟩)
    clear hSn hSk hS4 L4 L5 L6 R6 HM3 HM4 HM5 HAL HST HNA HNR HKY HTS HTD
    go_wp2
    have HC7 := Lib.hid (show ∀ wz, Sg14 Ld w (madeV s d z f l k r wt) b c S f l N wz → (wz.cell? ⟨w.heap.size, 7, none⟩ = some (.int .u64 (wt : Int)) ∧ Sg14 Ld w (madeV s d z f l k r wt) b c S f l N wz) from fun wz h => ⟨(HC.out wz h.i).2.2.2.2.2.2.2.1, h⟩)
    have HA7 := Lib.hid (show ∀ wz o, (wz.cell? ⟨w.heap.size, 7, none⟩ = some (.int .u64 (wt : Int)) ∧ Sg14 Ld w (madeV s d z f l k r wt) b c S f l N wz) → ((wz.alloc o).cell? ⟨w.heap.size, 7, none⟩ = some (.int .u64 (wt : Int)) ∧ Sg14 Ld w (madeV s d z f l k r wt) b c S f l N (wz.alloc o)) from fun wz o h => HC7.out _ (h.2.next L (by0 wz o)))
    have HT7 := Lib.hid (show ∀ wz wa, (wz.cell? ⟨w.heap.size, 7, none⟩ = some (.int .u64 (wt : Int)) ∧ Sg14 Ld w (madeV s d z f l k r wt) b c S f l N wz) → Below wz.heap.size wz wa → (wa.cell? ⟨w.heap.size, 7, none⟩ = some (.int .u64 (wt : Int)) ∧ Sg14 Ld w (madeV s d z f l k r wt) b c S f l N wa) from fun wz wa h hb => HC7.out _ (h.2.next L hb))
    have hS9 := HC7.out _ (HG.out.next L (Below.refl _ _).drew)
    have J1 := Lib.hid (fun wz (h : wz.cell? ⟨w.heap.size, 7, none⟩ = some (.int .u64 (wt : Int)) ∧ Sg14 Ld w (madeV s d z f l k r wt) b c S f l N wz) => HR1.out b wz h.2.i.o h.2.u)
    have J2 := Lib.hid (fun wz (h : wz.cell? ⟨w.heap.size, 7, none⟩ = some (.int .u64 (wt : Int)) ∧ Sg14 Ld w (madeV s d z f l k r wt) b c S f l N wz) => HR2.out c wz h.2.v)
    have J3 := Lib.hid (fun wz (h : wz.cell? ⟨w.heap.size, 7, none⟩ = some (.int .u64 (wt : Int)) ∧ Sg14 Ld w (madeV s d z f l k r wt) b c S f l N wz) => HP1.out b wz h.2.i.o h.2.u)
    have J4 := Lib.hid (fun wz (h : wz.cell? ⟨w.heap.size, 7, none⟩ = some (.int .u64 (wt : Int)) ∧ Sg14 Ld w (madeV s d z f l k r wt) b c S f l N wz) => HP2.out c wz h.2.v)
    clear HR1 HR2 HP1 HP2
    go_region_held3 (fun wz => wz.cell? ⟨w.heap.size, 7, none⟩ = some (.int .u64 (wt : Int)) ∧ Sg14 Ld w (madeV s d z f l k r wt) b c S f l N wz)
      (first | (with_reducible assumption) | (with_reducible exact HA7.out _ _ (by with_reducible assumption)))
      (first
        | (go_at_call 14; with_reducible refine (J1.out _ (by with_reducible assumption)).mono ?_; rintro e g1 ⟨rfl, hbg⟩; have hSa := HT7.out _ _ (by with_reducible assumption) hbg)
        | (go_at_call 15; with_reducible refine (J2.out _ (by with_reducible assumption)).mono ?_; rintro e g2 ⟨rfl, hbg⟩; have hSb := HT7.out _ _ (by with_reducible assumption) hbg)
        | (go_at_call 16; with_reducible refine (J3.out _ (by with_reducible assumption)).mono ?_; rintro e g3 ⟨rfl, hbg⟩; have hSc := HT7.out _ _ (by with_reducible assumption) hbg)
        | (go_at_call 17; with_reducible refine (J4.out _ (by with_reducible assumption)).mono ?_; rintro e g4 ⟨rfl, hbg⟩; have hSd := HT7.out _ _ (by with_reducible assumption) hbg))
    have HG := Lib.hid hSd.2
    clear hSa hSb hSc hSd hS9 J1 J2 J3 J4 HC7 HA7 HT7
    go_wp2
    obtain ⟨ao, cp, _, _, _, d3, _⟩ := HG.out.v.cells
    have hS11 := (fun (wz : World) (h : Sg14 Ld w (madeV s d z f l k r wt) b c S f l N wz) (h3 : wz.cell? ⟨c, 3, none⟩ = some (.slice ao N cp)) => show wz.cell? ⟨w.heap.size, 3, none⟩ = some (.int .u64 (f : Int)) ∧ wz.cell? ⟨w.heap.size, 4, none⟩ = some (.int .u64 (l : Int)) ∧ wz.cell? ⟨w.heap.size, 6, none⟩ = some (.int .u64 (r : Int)) ∧ wz.cell? ⟨c, 3, none⟩ = some (.slice ao N cp) ∧ Sg14 Ld w (madeV s d z f l k r wt) b c S f l N wz from ⟨(HC.out wz h.i).2.2.2.1, (HC.out wz h.i).2.2.2.2.1, (HC.out wz h.i).2.2.2.2.2.2.1, h3, h⟩) _ (HG.out.next L (Below.refl _ _).drew) (key_keep (Below.refl _ _).drew d3)
    have HA11 := Lib.hid (show ∀ wz o, (wz.cell? ⟨w.heap.size, 3, none⟩ = some (.int .u64 (f : Int)) ∧ wz.cell? ⟨w.heap.size, 4, none⟩ = some (.int .u64 (l : Int)) ∧ wz.cell? ⟨w.heap.size, 6, none⟩ = some (.int .u64 (r : Int)) ∧ wz.cell? ⟨c, 3, none⟩ = some (.slice ao N cp) ∧ Sg14 Ld w (madeV s d z f l k r wt) b c S f l N wz) → ((wz.alloc o).cell? ⟨w.heap.size, 3, none⟩ = some (.int .u64 (f : Int)) ∧ (wz.alloc o).cell? ⟨w.heap.size, 4, none⟩ = some (.int .u64 (l : Int)) ∧ (wz.alloc o).cell? ⟨w.heap.size, 6, none⟩ = some (.int .u64 (r : Int)) ∧ (wz.alloc o).cell? ⟨c, 3, none⟩ = some (.slice ao N cp) ∧ Sg14 Ld w (madeV s d z f l k r wt) b c S f l N (wz.alloc o)) from fun wz o h => ⟨key_keep (by0 wz o) h.1, key_keep (by0 wz o) h.2.1, key_keep (by0 wz o) h.2.2.1, key_keep (by0 wz o) h.2.2.2.1, h.2.2.2.2.next L (by0 wz o)⟩)
    have HD11 := Lib.hid (show ∀ o, ((g4.alloc o).drew.cell? ⟨w.heap.size, 3, none⟩ = some (.int .u64 (f : Int)) ∧ (g4.alloc o).drew.cell? ⟨w.heap.size, 4, none⟩ = some (.int .u64 (l : Int)) ∧ (g4.alloc o).drew.cell? ⟨w.heap.size, 6, none⟩ = some (.int .u64 (r : Int)) ∧ (g4.alloc o).drew.cell? ⟨c, 3, none⟩ = some (.slice ao N cp) ∧ Sg14 Ld w (madeV s d z f l k r wt) b c S f l N (g4.alloc o).drew) from fun o => ⟨key_keep (by0 g4 o).drew hS11.1, key_keep (by0 g4 o).drew hS11.2.1, key_keep (by0 g4 o).drew hS11.2.2.1, key_keep (by0 g4 o).drew hS11.2.2.2.1, HG.out.next L (by0 g4 o).drew⟩)
    go_region_held3 (fun wz => wz.cell? ⟨w.heap.size, 3, none⟩ = some (.int .u64 (f : Int)) ∧ wz.cell? ⟨w.heap.size, 4, none⟩ = some (.int .u64 (l : Int)) ∧ wz.cell? ⟨w.heap.size, 6, none⟩ = some (.int .u64 (r : Int)) ∧ wz.cell? ⟨c, 3, none⟩ = some (.slice ao N cp) ∧ Sg14 Ld w (madeV s d z f l k r wt) b c S f l N wz)
      (first | (with_reducible assumption) | (with_reducible exact HA11.out _ _ (by with_reducible assumption)) | (with_reducible exact HD11.out _))
      (first | (fail))
    have HH := Lib.hid (HD11.out (.cells #[.int .u64 (r : Int), .int .u64 (r2 : Int)] 22)).2.2.2.2
    obtain ⟨X, hX⟩ : ∃ X, X = g4.heap.size := ⟨_, rfl⟩
    have HX := Lib.hid (show (g4.alloc (.cells #[.int .u64 (r : Int), .int .u64 (r2 : Int)] 22)).drew.heap[X]? = some (.cells #[.int .u64 (r : Int), .int .u64 (r2 : Int)] 22 (0, 0)) by rw [hX]; exact heap_alloc_new g4 _)
    rw [← hX]
    generalize (g4.alloc (.cells #[.int .u64 (r : Int), .int .u64 (r2 : Int)] 22)).drew = w5 at *
    clear hX HD11 HA11 hS11 HG d3 HC
    have HCL := Lib.hid (show ∀ i, i < 2 → ∃ q : Nat, w5.cell? ⟨X, i, none⟩ = some (.int .u64 (q : Int)) ∧ q < 18446744073709551616 by
      intro i hi
      match i, hi with
      | 0, _ => exact ⟨r, (lit_cell HX.out 0).trans rfl, HRQ.out.1⟩
      | 1, _ => exact ⟨r2, (lit_cell HX.out 1).trans rfl, HRQ.out.2⟩)
    clear HX HRQ
    go_wp2
    go_loopw [104] (fun v104 wr => ∃ i : Nat, i ≤ 2 ∧ v104 = .int .i64 (i : Int) ∧ Hid (Below w5.heap.size w5 wr) ∧ Hid (Sg14 Ld w (madeV s d z f l k r wt) b c S f l N wr)) (fun v104 _ => 2 - (intOf v104).toNat)
    case atStart => exact ⟨0, by decide, rfl, Lib.hid (Below.refl _ _), HH⟩
    case round =>
      obtain ⟨i, hi, rfl, HB, HR⟩ := hrel
      by_cases hlt : i < 2
      · obtain ⟨q, cq, hq⟩ := HCL.out i hlt
        have cq := key_keep HB.out cq
        have i0 : (0 : Int) ≤ (i : Int) := by omega
        have i1 : (i : Int) < 2 := by omega
        have HLT := Lib.hid hlt
        have KA := Lib.hid (fun wz (h : Sg14 Ld w (madeV s d z f l k r wt) b c S f l N wz) => HK1.out b q wz h.i.o h.u hq)
        have KB := Lib.hid (fun wz (h : Sg14 Ld w (madeV s d z f l k r wt) b c S f l N wz) => HK2.out c q wz h.v hq)
        have KC := Lib.hid (fun wz (h : Sg14 Ld w (madeV s d z f l k r wt) b c S f l N wz) => HS1.out b q wz h.i.o h.u hq)
        have KD := Lib.hid (fun wz (h : Sg14 Ld w (madeV s d z f l k r wt) b c S f l N wz) => HS2.out c q wz h.v hq)
        have HSQ := Lib.hid (HSL.out q)
        clear hlt hi hq
        generalize keyF f l N q = kb at *
        generalize signA S f l N q D = V at *
        obtain ⟨kn, kt⟩ := kb
        unfold SigO at KC KD
        go_upto_region 16 with (first
          | (go_at_call 18; with_reducible refine (KA.out _ HR.out).mono ?_; rintro e w6 ⟨rfl, hb6⟩; have HR6 := Lib.hid (HR.out.next L hb6); have HB6 := Lib.hid (HB.out.trans (hb6.mono HB.out.size)); clear hb6)
          | (go_at_call 19; with_reducible refine (KB.out _ HR6.out).mono ?_; rintro e w7 ⟨rfl, hb7⟩; have HR7 := Lib.hid (HR6.out.next L hb7); have HB7 := Lib.hid (HB6.out.trans (hb7.mono HB6.out.size)); clear hb7))
        clear cq KA KB HR6 HB6
        go_upto_region 17 with (go_at_call 20; with_reducible refine (KC.out _ HR7.out).mono ?_; rintro e w8 ⟨wo, po, wc, pc, rfl, hw8, hp8, _, hb8⟩; have HR8 := Lib.hid (HR7.out.next L hb8); have HB8 := Lib.hid (HB7.out.trans (hb8.mono HB7.out.size)); have SW := Lib.hid hw8; have SP := Lib.hid hp8; clear hw8 hp8 hb8)
        obtain ⟨A, hA⟩ : ∃ A, A = w8.heap.size := ⟨_, rfl⟩
        have HX9 := Lib.hid (show (w8.alloc (.cells #[.int .u64 (V.i : Int), .slice wo V.w.length wc, .slice po V.p.length pc] 48)).heap[A]? = some (.cells #[.int .u64 (V.i : Int), .slice wo V.w.length wc, .slice po V.p.length pc] 48 (0, 0)) by rw [hA]; exact heap_alloc_new w8 _)
        have HR9 := Lib.hid (HR8.out.next L (by0 w8 (.cells #[.int .u64 (V.i : Int), .slice wo V.w.length wc, .slice po V.p.length pc] 48)))
        have HB9 := Lib.hid (HB8.out.trans ((by0 w8 (.cells #[.int .u64 (V.i : Int), .slice wo V.w.length wc, .slice po V.p.length pc] 48)).mono HB8.out.size))
        have SW := Lib.hid (SW.out.below (Nat.le_refl _) (by0 w8 (.cells #[.int .u64 (V.i : Int), .slice wo V.w.length wc, .slice po V.p.length pc] 48)))
        have SP := Lib.hid (SP.out.below (Nat.le_refl _) (by0 w8 (.cells #[.int .u64 (V.i : Int), .slice wo V.w.length wc, .slice po V.p.length pc] 48)))
        rw [← hA]
        generalize w8.alloc (.cells #[.int .u64 (V.i : Int), .slice wo V.w.length wc, .slice po V.p.length pc] 48) = w9 at *
        clear hA KC HR7 HB7 HR8 HB8
        go_upto_region 18 with (go_at_call 21; with_reducible refine (KD.out _ HR9.out).mono ?_; rintro e w10 ⟨wo2, po2, wc2, pc2, rfl, hw10, hp10, _, hb10⟩; have HR10 := Lib.hid (HR9.out.next L hb10); have HB10 := Lib.hid (HB9.out.trans (hb10.mono HB9.out.size)); have SW := Lib.hid (SW.out.below (Nat.le_refl _) hb10); have SP := Lib.hid (SP.out.below (Nat.le_refl _) hb10); have HX10 := Lib.hid ((hb10.block _ (lit_lt HX9.out)).trans HX9.out); have SV := Lib.hid hw10; have SQ := Lib.hid hp10; clear hw10 hp10 hb10)
        obtain ⟨B, hB⟩ : ∃ B, B = w10.heap.size := ⟨_, rfl⟩
        have HY11 := Lib.hid (show (w10.alloc (.cells #[.int .u64 (V.i : Int), .slice wo2 V.w.length wc2, .slice po2 V.p.length pc2] 48)).heap[B]? = some (.cells #[.int .u64 (V.i : Int), .slice wo2 V.w.length wc2, .slice po2 V.p.length pc2] 48 (0, 0)) by rw [hB]; exact heap_alloc_new w10 _)
        have HX11 := Lib.hid (show (w10.alloc (.cells #[.int .u64 (V.i : Int), .slice wo2 V.w.length wc2, .slice po2 V.p.length pc2] 48)).heap[A]? = some (.cells #[.int .u64 (V.i : Int), .slice wo V.w.length wc, .slice po V.p.length pc] 48 (0, 0)) from lit_old _ HX10.out)
        have HR11 := Lib.hid (HR10.out.next L (by0 w10 (.cells #[.int .u64 (V.i : Int), .slice wo2 V.w.length wc2, .slice po2 V.p.length pc2] 48)))
        have HB11 := Lib.hid (HB10.out.trans ((by0 w10 (.cells #[.int .u64 (V.i : Int), .slice wo2 V.w.length wc2, .slice po2 V.p.length pc2] 48)).mono HB10.out.size))
        have SW := Lib.hid (SW.out.below (Nat.le_refl _) (by0 w10 (.cells #[.int .u64 (V.i : Int), .slice wo2 V.w.length wc2, .slice po2 V.p.length pc2] 48)))
        have SP := Lib.hid (SP.out.below (Nat.le_refl _) (by0 w10 (.cells #[.int .u64 (V.i : Int), .slice wo2 V.w.length wc2, .slice po2 V.p.length pc2] 48)))
        have SV := Lib.hid (SV.out.below (Nat.le_refl _) (by0 w10 (.cells #[.int .u64 (V.i : Int), .slice wo2 V.w.length wc2, .slice po2 V.p.length pc2] 48)))
        have SQ := Lib.hid (SQ.out.below (Nat.le_refl _) (by0 w10 (.cells #[.int .u64 (V.i : Int), .slice wo2 V.w.length wc2, .slice po2 V.p.length pc2] 48)))
        rw [← hB]
        generalize w10.alloc (.cells #[.int .u64 (V.i : Int), .slice wo2 V.w.length wc2, .slice po2 V.p.length pc2] 48) = w11 at *
        clear hB KD HR9 HB9 HR10 HB10 HX9 HX10
        have p0 := (lit_cell HX11.out 0).trans rfl
        have p1 := (lit_cell HX11.out 1).trans rfl
        have p2 := (lit_cell HX11.out 2).trans rfl
        have q0 := (lit_cell HY11.out 0).trans rfl
        have q1 := (lit_cell HY11.out 1).trans rfl
        have q2 := (lit_cell HY11.out 2).trans rfl
        go_wp2_with (go_at_call 22; with_reducible refine (rsame14_any V.i V.w V.p wo wo2 po po2 wc wc2 pc pc2 _ HSQ.out.1 HSQ.out.2 SW.out SV.out SP.out SQ.out).mono ?_; rintro e w12 ⟨rfl, hb12⟩; have HR12 := Lib.hid (HR11.out.next L hb12); have HB12 := Lib.hid (HB11.out.trans (hb12.mono HB11.out.size)); clear hb12)
        go_roundw
        case rel => exact ⟨i + 1, HLT.out, by go_num, HB12, HR12⟩
        case measure => have := HLT.out; simp [intOf]; omega
      · have k1 : ¬ (i : Int) < 2 := by omega
        clear hlt hi HCL HB
        go_wp2_with (go_at_call 13; with_reducible refine (HWO.out _ HR.out.i.o).mono ?_; rintro e w9 ⟨rfl, hb9⟩; have HR9 := Lib.hid (HR.out.next L hb9); clear hb9)
        exact bodyPost_ret (v := .bool true) (by simp [results, Tryz.results3, go_sem]) rfl ⟨rfl, HR9.out.i.o⟩
theorem ladderSigns_any {Ld : Nat → (List UInt8) → Nat → Nat → Nat → World → Prop} (L : LadderC Ld) (HWK : WorksL) (s d z f l : Nat) (k : Int) (r wt : Nat) (w : World) (hg : Glob w) (hs : s < 256) (hd : d < 256) (hz : z < 256) (hf : f < 18446744073709551616) (hl : l < 18446744073709551616) (hk : -9223372036854775808 ≤ k ∧ k ≤ 9223372036854775807) (hr : r < 18446744073709551616) (hwt : wt < 18446744073709551616) :
    Calls Tryz.prog 3 #[.agg (madeV s d z f l k r wt)] w fun e w' => e = .returned (.bool true) ∧ Below w.heap.size w w' := by
  by_cases he : newE (txtF s (sizeA z)) f l (keysF k) = 0
  · exact ladderSigns_yes L HWK s d z f l k r wt w hg hs hd hz hf hl hk hr hwt he
  · exact ladderSigns_no L HWK s d z f l k r wt w hg hs hd hz hf hl hk he
end Go.Proofs.YtmnklonoelpidaaGreatDoor
