/- The law's chosen positions. -/
import Derived.Test.YtblimejnjboedaaGreatDoorJNd
import Derived.Test.YtblimejnjboedaaGreatDoorJBn
import Derived.Test.YtblimejnjboedaaGreatDoorJ8
import Derived.Test.YtblimejnjboedaaGreatDoorJ9
namespace Go.Proofs.YtblimejnjboedaaGreatDoor
open Go.RowKit Go.Sort

/-- the numbers below k that are told by bits -/
def maskTo (x k : Nat) : List Nat := (List.range k).filter fun i => decide (x / 2 ^ (i % 64) % 2 = 1)
theorem maskTo_succ (x k : Nat) : maskTo x (k + 1) = if x / 2 ^ (k % 64) % 2 = 1 then maskTo x k ++ [k] else maskTo x k := by
  unfold maskTo
  rw [List.range_succ, List.filter_append]
  by_cases h : x / 2 ^ (k % 64) % 2 = 1 <;> simp [h]
theorem maskTo_lt {x k i : Nat} (h : i ∈ maskTo x k) : i < k := by
  have := (List.mem_filter.1 h).1
  simpa using this
theorem maskTo_pair (x k : Nat) : (maskTo x k).Pairwise (· < ·) := List.Pairwise.filter _ List.pairwise_lt_range
theorem maskTo_len (x k : Nat) : (maskTo x k).length ≤ k := by simpa [maskTo] using List.length_filter_le (fun i => decide (x / 2 ^ (i % 64) % 2 = 1)) (List.range k)
/-- one at least -/
def maskP (x n : Nat) : List Nat := if maskTo x n = [] then [x % n] else maskTo x n
theorem maskP_stands (x : Nat) {n : Nat} (hn : 0 < n) : standsP (maskP x n) n = true := by
  unfold maskP
  split
  · exact decide_eq_true ⟨by simp, by simp, fun y hy => by simp at hy; subst hy; exact Nat.mod_lt _ hn⟩
  · exact decide_eq_true ⟨by assumption, maskTo_pair x n, fun y hy => maskTo_lt hy⟩
theorem maskP_len (x : Nat) {n : Nat} (hn : 0 < n) : (maskP x n).length ≤ n := by
  unfold maskP
  split
  · simp; omega
  · exact maskTo_len x n
set_option maxRecDepth 100000 in
set_option maxHeartbeats 1000000 in
theorem chosen_any (n : Nat) (h0 : 0 < n) (hn : n ≤ 1000) (x : Nat) (hx : x < 18446744073709551616) (w : World) :
    Calls Tryz.prog 13 #[.int .i64 (n : Int), .int .u64 (x : Int)] w fun e w' => ∃ ao cp, e = .returned (.slice ao (maskP x n).length cp) ∧ Nums ao (maskP x n) w' ∧ Below w.heap.size w w' := by
  have hwn : IntKind.u64.wrap (n : Int) = (n : Int) := by rw [IntKind.wrap_u64]; omega
  go_enter Tryz.func13, Tryz.ntmps13
  go_wp2
  go_loopw [5, 6] (fun v vi wr => ∃ k : Nat, k ≤ n ∧ vi = .int .i64 (k : Int) ∧ Hid (wr.ownsRow w.heap.size 33 1 v (maskTo x k).length ((maskTo x k).map encU)) ∧ Hid (Below w.heap.size w wr)) (fun _ vi _ => n - (intOf vi).toNat)
  case atStart => exact ⟨0, Nat.zero_le _, rfl, Lib.hid (World.ownsRow_nil _ _ _ _), Lib.hid (Below.refl _ _)⟩
  case round =>
    obtain ⟨k, hk, rfl, HO, HB⟩ := hrel
    by_cases hlt : k < n
    · have h1 : (k : Int) < (n : Int) := by omega
      obtain ⟨r, hr⟩ : ∃ r, r = k % 64 := ⟨_, rfl⟩
      have HS := Lib.hid (maskTo_succ x k)
      rw [← hr] at HS
      have hrm : (k : Int).tmod 64 = (r : Int) := by rw [hr, Int.tmod_eq_emod_of_nonneg (by omega)]; omega
      have hre : (k : Int) % 64 = (r : Int) := by rw [hr]; omega
      have h2 : (r : Int) < 64 := by omega
      have r0 : (0 : Int) ≤ (r : Int) := by omega
      have k0 : (0 : Int) ≤ (k : Int) := by omega
      have hwk : IntKind.u64.wrap (k : Int) = (k : Int) := by rw [IntKind.wrap_u64]; omega
      clear hr
      by_cases hb : x / 2 ^ r % 2 = 1
      · have hbi : bits .and .u64 ((x : Int) / 2 ^ r) 1 = 1 := by rw [bit_and x r hx, hb]; rfl
        rw [if_pos hb] at HS
        clear hb
        go_wp2_with (at_builtin; refine append_num rfl _ _ rfl rfl rfl HO.out (by have := maskTo_len x k; omega) HB.out.size ?_; intro v3 w3 ho3 hg3; have HO3 := Lib.hid ho3; have HG3 := Lib.hid hg3; clear ho3 hg3)
        go_roundw
        case rel => exact ⟨k + 1, hlt, by go_num, Lib.hid (by rw [HS.out]; exact HO3.out), Lib.hid (HB.out.grown HG3.out HB.out.size (fun j e => row_low HO.out (Nat.le_refl _) j e))⟩
        case measure => simp [intOf] <;> omega
      · have hbi : bits .and .u64 ((x : Int) / 2 ^ r) 1 = 0 := by rw [bit_and x r hx, show x / 2 ^ r % 2 = 0 by omega]; rfl
        rw [if_neg hb] at HS
        clear hb
        go_wp2
        go_roundw
        case rel => exact ⟨k + 1, hlt, by go_num, Lib.hid (by rw [HS.out]; exact HO.out), HB⟩
        case measure => simp [intOf] <;> omega
    · have h1 : ¬ (k : Int) < (n : Int) := by omega
      have hkn : k = n := by omega
      have hO := HO.out
      rw [hkn] at hO
      have HO2 := Lib.hid hO
      obtain ⟨a5, c5, rfl, hn5, _⟩ := nums_of_row hO
      have HN5 := Lib.hid hn5
      have hml := maskTo_len x n
      clear hO hn5 hkn
      by_cases hm : maskTo x n = []
      · have HM := Lib.hid (show maskP x n = [x % n] from if_pos hm)
        have hz : ((maskTo x n).length : Int) = 0 := by rw [hm]; rfl
        obtain ⟨y, hy⟩ : ∃ y, y = x % n := ⟨_, rfl⟩
        have hmod : (x : Int).tmod (n : Int) = (y : Int) := by rw [hy, Int.tmod_eq_emod_of_nonneg (by omega)]; simp
        have hmod2 : (x : Int) % (n : Int) = (y : Int) := by rw [hy]; simp
        have hnz : ((n : Int) == 0) = false := by rw [beq_eq_false_iff_ne]; omega
        have HY := Lib.hid hy
        have HME := Lib.hid hm
        clear hy hm
        go_wp2_with (at_builtin; refine append_num rfl _ _ rfl rfl rfl HO2.out (by omega) HB.out.size ?_; intro v3 w3 ho3 hg3; have HO3 := Lib.hid ho3; have HG3 := Lib.hid hg3; clear ho3 hg3)
        go_ret
        have h3 := HO3.out
        rw [HME.out, List.nil_append] at h3
        obtain ⟨a6, c6, rfl, h6, _⟩ := nums_of_row h3
        exact ⟨a6, ⟨c6, by rw [HM.out]; rfl⟩, by rw [HM.out, ← HY.out]; exact h6, HB.out.grown HG3.out HB.out.size (fun j e => row_low HO2.out (Nat.le_refl _) j e)⟩
      · have HM := Lib.hid (show maskP x n = maskTo x n from if_neg hm)
        have hz : (((maskTo x n).length : Int) == 0) = false := by rw [beq_eq_false_iff_ne]; have := List.length_pos_iff.2 hm; omega
        clear hm
        go_wp2
        go_ret
        exact ⟨a5, ⟨c5, by rw [HM.out]; rfl⟩, by rw [HM.out]; exact HN5.out, HB.out⟩
end Go.Proofs.YtblimejnjboedaaGreatDoor
