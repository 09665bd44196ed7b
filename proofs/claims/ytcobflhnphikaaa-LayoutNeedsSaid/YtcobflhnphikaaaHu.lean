/- Each element has a leaf of its own: the walk. -/
import Derived.Test.YtcobflhnphikaaaHt
import Derived.Deep.RegionHeld3
import Derived.Deep.QuietTactic
import Derived.BigQuiet
import Derived.Lib.Hide
namespace Go.Proofs.Ytcobflhnphikaaa
open Go.RowKit Go.Sort

theorem top_bit (d k : Nat) : turn (d + 1) 0 k / 2 ^ d = k % 2 := by
  rw [turn, turn_eq]
  have := turn_lt d (k / 2)
  rw [show (2 * 0 + k % 2) = k % 2 by omega, Nat.mul_comm, Nat.mul_add_div (Nat.pow_pos (by decide)), Nat.div_eq_of_lt this, Nat.add_zero]
theorem mirror_bit (d k b : Nat) (hb : b < d) : k / 2 ^ b % 2 = turn d 0 k / 2 ^ (d - 1 - b) % 2 := by
  rw [← Nat.toNat_testBit, ← Nat.toNat_testBit, turn_bit]
  have : d - 1 - b < d := by omega
  rw [decide_eq_true this, Bool.true_and, show d - 1 - (d - 1 - b) = b by omega]
theorem next_odd (p k k2 : Nat) (h : k2 = (k + 1) % (2 * p)) : (k : Nat) % 2 ≠ k2 % 2 := by
  have e : (k + 1) % (2 * p) % 2 = (k + 1) % 2 := Nat.mod_mod_of_dvd _ ⟨p, rfl⟩
  rw [h, e]; omega
theorem int_mod (a p : Nat) : ((a : Int) + 1) % ((2 * p : Nat) : Int) = ((a + 1) % (2 * p) : Nat) := by
  rw [show ((a : Int) + 1) = ((a + 1 : Nat) : Int) by omega]; exact (Int.natCast_emod _ _).symm
theorem int_mod' (a p : Nat) : (a : Int) % ((2 * p : Nat) : Int) = (a % (2 * p) : Nat) := (Int.natCast_emod _ _).symm
set_option maxRecDepth 100000 in
set_option maxHeartbeats 2000000 in
theorem turns_zero (n i : Nat) (hn : n < 4294967296) (hi : i < 4294967296) (hm : 1 + n % 65536 = 1) (w : World) (HW : Hid (Calls Try.prog 17 #[] w fun e w' => e = .returned (.bool true) ∧ Below w.heap.size w w')) (HD : Hid (∀ w, Calls Try.prog 8 #[.int .i64 1] w fun e w' => e = .returned (.int .i64 0) ∧ w = w')) :
    Calls Try.prog 5 #[.int .u32 (n : Int), .int .u32 (i : Int)] w fun e w' => e = .returned (.bool true) ∧ Below w.heap.size w w' := by
  have hm1 : 1 + (n : Int) % 65536 = 1 := by omega
  have HL0 := Lib.hid (fun w => leaf_any 0 (by omega) 0 w)
  have HE0 := Lib.hid (fun w => element_any 0 (by omega) 0 w)
  rw [show turnB 0 0 = 0 from rfl] at HL0 HE0
  go_enter Try.func5, Try.ntmps5
  go_wp2_with (first
    | (go_at_call 17; refine HW.out.mono ?_; rintro e w1 ⟨rfl, hb⟩)
    | (go_at_call 8; refine (HD.out _).mono ?_; rintro e w2 ⟨rfl, rfl⟩)
    | (go_at_call 10; refine (HL0.out _).mono ?_; rintro e w2 ⟨rfl, rfl⟩)
    | (go_at_call 12; refine (HE0.out _).mono ?_; rintro e w2 ⟨rfl, rfl⟩))
  go_loopw [9] (fun v wr => v = .int .i64 0 ∧ w1 = wr) (fun _ _ => 0)
  case atStart => exact ⟨rfl, rfl⟩
  case round =>
    obtain ⟨rfl, rfl⟩ := hrel
    go_wp2
    go_quiet (fail)
    go_wp2
    go_ret
    exact ⟨rfl, hb.trans ⟨rfl, rfl, rfl, Nat.le_refl _, fun _ _ => rfl⟩⟩
theorem and_one (k b : Nat) (hk : k < 18446744073709551616) : bits BinOp.and IntKind.u64 ((k : Int) / 2 ^ b) 1 = ((k / 2 ^ b % 2 : Nat) : Int) := by
  have h := u64_and_nat (k / 2 ^ b) 1 (Nat.lt_of_le_of_lt (Nat.div_le_self _ _) hk) (by decide)
  rw [Nat.and_one_is_mod] at h
  rw [← h]; simp
set_option maxRecDepth 100000 in
set_option maxHeartbeats 1000000 in
theorem turns_succ (n i m f D p k l k2 l2 : Nat) (hn : n < 4294967296) (hi : i < 4294967296) (hm1 : 1 + (n : Int) % 65536 = (m : Int)) (hf : f ≤ 15)
    (hA : wrap64 ((2 : Int) ^ (f + 1)) = (D : Int)) (hB : wrap64 ((2 : Int) ^ f) = (p : Int)) (hC : IntKind.u64.wrap ((2 : Int) ^ (f + 1)) = (D : Int)) (hmD : m ≤ D) (hpm : p < m) (hD : D ≤ 65536)
    (hk : (i : Int) % (D : Int) = (k : Int)) (hkD : k < D) (hlD : l < D) (hk2 : ((k : Int) + 1) % (D : Int) = (k2 : Int)) (HM : Hid (∀ b, b < f + 1 → k / 2 ^ b % 2 = l / 2 ^ (f + 1 - 1 - b) % 2)) (htop : l / 2 ^ f ≠ l2 / 2 ^ f)
    (w : World) (HW : Hid (Calls Try.prog 17 #[] w fun e w' => e = .returned (.bool true) ∧ Below w.heap.size w w')) (HD : Hid (∀ w, Calls Try.prog 8 #[.int .i64 (m : Int)] w fun e w' => e = .returned (.int .i64 ((f : Int) + 1)) ∧ w = w'))
    (HL : Hid (∀ w, Calls Try.prog 10 #[.int .u64 (k : Int), .int .i64 ((f : Int) + 1)] w fun e w' => e = .returned (.int .u64 (l : Int)) ∧ w = w'))
    (HE : Hid (∀ w, Calls Try.prog 12 #[.int .u64 (l : Int), .int .i64 ((f : Int) + 1)] w fun e w' => e = .returned (.int .u64 (k : Int)) ∧ w = w'))
    (HL2 : Hid (∀ w, Calls Try.prog 10 #[.int .u64 (k2 : Int), .int .i64 ((f : Int) + 1)] w fun e w' => e = .returned (.int .u64 (l2 : Int)) ∧ w = w')) :
    Calls Try.prog 5 #[.int .u32 (n : Int), .int .u32 (i : Int)] w fun e w' => e = .returned (.bool true) ∧ Below w.heap.size w w' := by
  have hz : (((f : Int) + 1) == 0) = false := by simp; omega
  have htt : (((l : Int) / 2 ^ f) != ((l2 : Int) / 2 ^ f)) = true := by simp; exact fun h => htop (by exact_mod_cast h)
  clear htop
  have hkk : ((k : Int) != (k : Int)) = false := by simp
  go_enter Try.func5, Try.ntmps5
  go_wp2_with (first
    | (go_at_call 17; refine HW.out.mono ?_; rintro e w1 ⟨rfl, hb⟩)
    | (go_at_call 8; refine (HD.out _).mono ?_; rintro e w2 ⟨rfl, rfl⟩)
    | (go_at_call 10; refine (HL.out _).mono ?_; rintro e w2 ⟨rfl, rfl⟩)
    | (go_at_call 12; refine (HE.out _).mono ?_; rintro e w2 ⟨rfl, rfl⟩))
  go_loopw [9] (fun v wr => ∃ b : Nat, v = .int .i64 (b : Int) ∧ b ≤ f + 1 ∧ Below w.heap.size w wr) (fun v _ => f + 1 - (intOf v).toNat)
  case atStart => exact ⟨0, rfl, Nat.zero_le _, hb⟩
  case round =>
    obtain ⟨b, rfl, hbf, hbb⟩ := hrel
    by_cases hlt : b < f + 1
    · have hl : (b : Int) < (f : Int) + 1 := by omega
      obtain ⟨c, hc⟩ : ∃ c, f = b + c := ⟨f - b, by omega⟩
      have HE := Lib.hid (HM.out b hlt)
      rw [show f + 1 - 1 - b = c by omega] at HE
      have hne : (bits BinOp.and IntKind.u64 ((k : Int) / 2 ^ b) 1 != bits BinOp.and IntKind.u64 ((l : Int) / 2 ^ c) 1) = false := by
        rw [and_one k b (by omega), and_one l c (by omega), HE.out]; simp
      go_wp2
      go_quiet (fail)
      go_wp2
      go_roundw
      case rel => exact ⟨b + 1, by go_num, by omega, hbb.trans ⟨rfl, rfl, rfl, Nat.le_refl _, fun _ _ => rfl⟩⟩
      case measure => simp [intOf] <;> omega
    · have hl : ¬ (b : Int) < (f : Int) + 1 := by omega
      go_wp2
      go_quiet (first | (go_at_call 10; exact Calls.quiet_of_same ((HL2.out _).mono (fun e w' h => ⟨h.1, h.2.symm⟩))))
      go_wp2
      go_ret
      exact ⟨rfl, hbb.trans ⟨rfl, rfl, rfl, Nat.le_refl _, fun _ _ => rfl⟩⟩
theorem turns_any (n i : Nat) (hn : n < 4294967296) (hi : i < 4294967296) (w : World) :
    Calls Try.prog 5 #[.int .u32 (n : Int), .int .u32 (i : Int)] w fun e w' => e = .returned (.bool true) ∧ Below w.heap.size w w' := by
  obtain ⟨m, hm⟩ : ∃ m, m = 1 + n % 65536 := ⟨_, rfl⟩
  have hm1 : 1 + (n : Int) % 65536 = (m : Int) := by omega
  have hmb : 1 ≤ m ∧ m ≤ 65536 := by omega
  have hdV : depthV (m : Int) = (dep m : Int) := by rw [depthV, if_neg (by omega)]; rfl
  have HD := fun w => depth_any (m : Int) (by omega) w
  rw [hdV] at HD
  have HS := dep_spec m hmb.2
  have hd16 := dep_le m hmb.2
  generalize dep m = d at *
  cases d with
  | zero =>
    have hm1' : m = 1 := by have := HS.1; simp at this; omega
    subst hm1'
    exact turns_zero n i hn hi (by omega) w (Lib.hid (works_any w)) (Lib.hid HD)
  | succ f =>
    obtain ⟨p, hp⟩ : ∃ p, p = 2 ^ f := ⟨_, rfl⟩
    have hp16 : p ≤ 32768 := by rw [hp]; exact Nat.pow_le_pow_right (n := 2) (j := 15) (by decide) (by omega)
    have hp0 : 0 < p := by rw [hp]; exact Nat.pow_pos (by decide)
    have hmp : m ≤ 2 * p := by rw [hp]; have := HS.1; rw [Nat.pow_succ] at this; omega
    have hpm : p < m := by rw [hp]; exact HS.2 f (by omega)
    have hc1 : ((2 : Int) ^ (f + 1)) = ((2 * p : Nat) : Int) := by rw [hp, Int.pow_succ]; simp [Int.mul_comm]
    have hc2 : ((2 : Int) ^ f) = (p : Int) := by rw [hp]; simp
    have wr : ∀ z : Nat, z ≤ 65536 → wrap64 (z : Int) = (z : Int) := by
      intro z hz
      unfold wrap64
      omega
    have h2p : 2 * p = 2 ^ (f + 1) := by rw [hp, Nat.pow_succ, Nat.mul_comm]
    have hst : ∀ x, x < 2 * p → turnB x (((f + 1 : Nat)) : Int) = turn (f + 1) 0 x := fun x hx => if_pos (by simp [standsB, ← h2p, hx]; omega)
    obtain ⟨D, hD⟩ : ∃ D, D = 2 * p := ⟨_, rfl⟩
    have hkD : i % D < D := Nat.mod_lt _ (by omega)
    have hlD : turn (f + 1) 0 (i % D) < D := by rw [hD, h2p]; exact turn_lt _ _
    have hk2D : (i % D + 1) % D < D := Nat.mod_lt _ (by omega)
    have hll : turn (f + 1) 0 (turn (f + 1) 0 (i % D)) = i % D := turn_turn (by rw [← h2p, ← hD]; exact hkD)
    refine turns_succ n i m f D p (i % D) (turn (f + 1) 0 (i % D)) ((i % D + 1) % D) (turn (f + 1) 0 ((i % D + 1) % D)) hn hi hm1 (by omega) ?_ ?_ ?_ (by omega) hpm (by omega) ?_ hkD hlD ?_ (Lib.hid fun b hb => mirror_bit (f + 1) _ b hb) ?_ w (Lib.hid (works_any w)) (Lib.hid HD) ?_ ?_ ?_
    · rw [hc1, ← hD]; exact wr D (by omega)
    · rw [hc2]; exact wr p (by omega)
    · rw [hc1, ← hD, IntKind.wrap_u64]; omega
    · exact (Int.natCast_emod _ _).symm
    · rw [hD]; exact int_mod _ p
    · rw [top_bit, top_bit]; exact next_odd p _ _ (by rw [hD])
    · refine Lib.hid fun w => ?_
      have := leaf_any (i % D) (by omega) ((f + 1 : Nat) : Int) w
      rw [hst _ (by omega)] at this; exact this
    · refine Lib.hid fun w => ?_
      have := element_any (turn (f + 1) 0 (i % D)) (by omega) ((f + 1 : Nat) : Int) w
      rw [hst _ (by omega), hll] at this; exact this
    · refine Lib.hid fun w => ?_
      have := leaf_any ((i % D + 1) % D) (by omega) ((f + 1 : Nat) : Int) w
      rw [hst _ (by omega)] at this; exact this
end Go.Proofs.Ytcobflhnphikaaa
