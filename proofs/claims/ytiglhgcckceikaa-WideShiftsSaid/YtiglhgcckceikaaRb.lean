/- Bits of limbs, as the document's answer takes them. -/
import Derived.Test.YtiglhgcckceikaaRa
namespace Go.Proofs.Ytiglhgcckceikaa
open Go.RowKit

theorem limb_nat (x i : Nat) : d (x : Int) i = ((x / 2 ^ (64 * i) % 18446744073709551616 : Nat) : Int) := by
  rw [d, pw_two, show ((2 : Int) ^ (64 * i)) = ((2 ^ (64 * i) : Nat) : Int) by rw [Int.natCast_pow]; rfl]
  rfl
theorem and_one (a : Nat) (h : a < 18446744073709551616) : bits .and .u64 (a : Int) 1 = ((a % 2 : Nat) : Int) := by
  have e : bits .and .u64 (a : Int) 1 = IntKind.u64.wrap ((BitVec.ofInt 64 (a : Int) &&& BitVec.ofInt 64 1).toNat : Int) := rfl
  rw [e, BitVec.ofInt_natCast, BitVec.toNat_and, BitVec.toNat_ofNat, Nat.mod_eq_of_lt (by omega), show (BitVec.ofInt 64 1).toNat = 1 by decide, Nat.and_one_is_mod, wrapU64]
  omega
theorem bit_limb (x i j : Nat) (hj : j < 64) : (bits .and .u64 (d (x : Int) i / 2 ^ j) 1 == 1) = x.testBit (64 * i + j) := by
  have e : d (x : Int) i / 2 ^ j = ((x / 2 ^ (64 * i) % 18446744073709551616 / 2 ^ j : Nat) : Int) := by
    rw [limb_nat, show ((2 : Int) ^ j) = ((2 ^ j : Nat) : Int) by rw [Int.natCast_pow]; rfl]
    rfl
  have hlt : x / 2 ^ (64 * i) % 18446744073709551616 / 2 ^ j < 18446744073709551616 := Nat.lt_of_le_of_lt (Nat.div_le_self _ _) (Nat.mod_lt _ (by decide))
  rw [e, and_one _ hlt]
  have h2 : x.testBit (64 * i + j) = (x / 2 ^ (64 * i) % 2 ^ 64).testBit j := by
    rw [Nat.testBit_mod_two_pow, decide_eq_true hj, Bool.true_and, Nat.testBit_div_two_pow, Nat.add_comm j]
  rw [h2, Nat.testBit_eq_decide_div_mod_eq, show (2 : Nat) ^ 64 = 18446744073709551616 by decide]
  generalize x / 2 ^ (64 * i) % 18446744073709551616 / 2 ^ j % 2 = r
  rw [Bool.eq_iff_iff, beq_iff_eq, decide_eq_true_eq]
  omega

set_option maxRecDepth 100000 in
set_option maxHeartbeats 1000000 in
theorem bitsO_any (b off m cap x : Nat) (w : World) (hb : b < w.heap.size) (hc : ∀ i, i < m → w.cell? ⟨b, off + i, none⟩ = some (.int .u64 (d (x : Int) i))) (hm : m ≤ 8) :
    Calls Try.prog 8 #[.slice (some ⟨b, off, none⟩) m cap] w fun e w' => ∃ ao cap', e = .returned (.slice ao (64 * m) cap') ∧ 64 * m ≤ cap' ∧ Bs ao x (64 * m) w' ∧ Below w.heap.size w w' := by
  have HC := Lib.hid hc
  clear hc
  go_enter Try.func8, Try.ntmps8
  go_wp2
  go_loopw [3, 4] (fun v i wr => ∃ k : Nat, k ≤ m ∧ i = .int .i64 (k : Int) ∧ wr.ownsRow w.heap.size 4 1 v (64 * k) (bitsV x (64 * k)) ∧ Below w.heap.size w wr)
    (fun _ i _ => m - (intOf i).toNat)
  case atStart => exact ⟨0, by omega, rfl, World.ownsRow_nil _ _ _ _, Below.refl _ _⟩
  case round =>
    obtain ⟨k, hk, rfl, hown, hbe⟩ := hrel
    by_cases hlt : k < m
    · have k1 : (k : Int) < (m : Int) := by omega
      go_wp2
      generalize wr = wx at *
      go_loopw [3, 5] (fun v i wr => ∃ j : Nat, j ≤ 64 ∧ i = .int .i64 (j : Int) ∧ wr.ownsRow w.heap.size 4 1 v (64 * k + j) (bitsV x (64 * k + j)) ∧ Below w.heap.size w wr)
        (fun _ i _ => 64 - (intOf i).toNat)
      case atStart => exact ⟨0, by omega, rfl, hown, hbe⟩
      case round =>
        clear hown hbe
        obtain ⟨j, hj, rfl, hown, hbe⟩ := hrel
        have hcell := (hbe.cell (p := ⟨b, off + k, none⟩) hb).trans (HC.out k hlt)
        by_cases hj2 : j < 64
        · have j1 : (j : Int) < 64 := by omega
          have j0 : (0 : Int) ≤ (j : Int) := by omega
          have HB := Lib.hid (bit_limb x k j hj2)
          have hz := hbe.size
          go_wp2_with (at_builtin; refine append_bit rfl _ _ rfl rfl rfl hown HB.out (by omega) hbe hz ?_)
          intro v' w1 hown1 hb1 hz1
          clear hown hbe hz hcell
          go_wp2
          go_roundw
          case rel => exact ⟨j + 1, by omega, by go_num, hown1, hb1⟩
          case measure => simp [intOf]; omega
        · have ej : j = 64 := by omega
          have j1 : ¬ (j : Int) < 64 := by omega
          rw [ej] at hown
          go_wp2
          go_roundw
          case rel => exact ⟨k + 1, by omega, by go_num, by rw [show 64 * (k + 1) = 64 * k + 64 by omega]; exact hown, hbe⟩
          case measure => simp [intOf]; omega
    · have ek : k = m := by omega
      have k1 : ¬ (k : Int) < (m : Int) := by omega
      subst ek
      obtain ⟨ao, cap', rfl, h1, h2⟩ := Bs.of_own hown
      have H2 := Lib.hid h2
      clear h2 hown
      go_wp2
      go_ret
      exact ⟨_, _, rfl, h1, H2.out, hbe⟩
theorem bits_any (b m cap x : Nat) (w : World) (hb : b < w.heap.size) (hc : ∀ i, i < m → w.cell? ⟨b, i, none⟩ = some (.int .u64 (d (x : Int) i))) (hm : m ≤ 8) :
    Calls Try.prog 8 #[.slice (some ⟨b, 0, none⟩) m cap] w fun e w' => ∃ ao cap', e = .returned (.slice ao (64 * m) cap') ∧ 64 * m ≤ cap' ∧ Bs ao x (64 * m) w' ∧ Below w.heap.size w w' :=
  bitsO_any b 0 m cap x w hb (fun i hi => by rw [Nat.zero_add]; exact hc i hi) hm
end Go.Proofs.Ytiglhgcckceikaa
