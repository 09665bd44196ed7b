/- Bits moved up and down, as the document's answer moves them. -/
import Derived.Test.YtiglhgcckceikaaRa
import Derived.IntWalk
namespace Go.Proofs.Ytiglhgcckceikaa
open Go.RowKit

set_option maxRecDepth 100000 in
set_option maxHeartbeats 1000000 in
theorem shift_fn (ao : Option Addr) (cap x n : Nat) (s : Int) (Y N : Nat) (w : World) (hx : x < 2 ^ n) (hB : Bs ao x n w) (hn : n ≤ 5000) (hs : -5000 ≤ s ∧ s ≤ 5000) (hN : ∀ k : Nat, k < N ↔ (k : Int) < (n : Int) + s)
    (hY : ∀ k, k < N → tb x ((k : Int) - s) = Y.testBit k) :
    Calls Try.prog 31 #[.slice ao n cap, .int .i64 s] w fun e w' => ∃ ao' cap', e = .returned (.slice ao' N cap') ∧ N ≤ cap' ∧ Bs ao' Y N w' ∧ Below w.heap.size w w' := by
  have HB := Lib.hid hB
  have HX := Lib.hid hx
  have HY := Lib.hid hY
  have HN := Lib.hid hN
  clear hB hx hY hN
  have w1 : IntKind.i64.wrap ((n : Int) + s) = (n : Int) + s := IntWalk.i64_in _ (by omega)
  go_enter Try.func31, Try.ntmps31
  go_wp2
  go_loopw [5, 6] (fun v i wr => ∃ k : Nat, k ≤ N ∧ i = .int .i64 (k : Int) ∧ wr.ownsRow w.heap.size 4 1 v k (bitsV Y k) ∧ Below w.heap.size w wr)
    (fun _ i _ => N - (intOf i).toNat)
  case atStart => exact ⟨0, by omega, rfl, World.ownsRow_nil _ _ _ _, Below.refl _ _⟩
  case round =>
    obtain ⟨k, hk, rfl, hown, hbe⟩ := hrel
    have hz := hbe.size
    by_cases hlt : k < N
    · have k1 : (k : Int) < (n : Int) + s := (HN.out k).1 hlt
      have w2 : IntKind.i64.wrap ((k : Int) - s) = (k : Int) - s := IntWalk.i64_in _ (by omega)
      have HB1 := Lib.hid (HB.out.below hbe (Nat.le_refl _))
      have HY1 := Lib.hid (HY.out k hlt)
      have HO := Lib.hid hown
      have hk2 : k ≤ 100000 := by omega
      clear hown
      go_wp2_with (first
        | (at_builtin; refine append_bit rfl _ _ rfl rfl rfl HO.out HY1.out hk2 hbe hz ?_)
        | (go_at_call 36; refine (bit_any _ _ x n _ _ HX.out HB1.out).mono ?_; rintro e wb ⟨rfl, rfl⟩))
      intro v' wa hown1 hb1 hz1
      clear HO hbe hz HB1
      go_wp2
      go_roundw
      case rel => exact ⟨k + 1, by omega, by go_num, hown1, hb1⟩
      case measure => simp [intOf]; omega
    · have ek : k = N := by omega
      have k1 : ¬ (k : Int) < (n : Int) + s := fun c => hlt ((HN.out k).2 c)
      subst ek
      obtain ⟨ao', cap', rfl, h1, h2⟩ := Bs.of_own hown
      have H2 := Lib.hid h2
      clear h2 hown
      go_wp2
      go_ret
      exact ⟨_, _, rfl, h1, H2.out, hbe⟩

theorem shift_up (ao : Option Addr) (cap x n K : Nat) (w : World) (hx : x < 2 ^ n) (hB : Bs ao x n w) (hn : n ≤ 5000) (hK : K ≤ 5000) :
    Calls Try.prog 31 #[.slice ao n cap, .int .i64 (K : Int)] w fun e w' => ∃ ao' cap', e = .returned (.slice ao' (n + K) cap') ∧ n + K ≤ cap' ∧ Bs ao' (x * 2 ^ K) (n + K) w' ∧ Below w.heap.size w w' := by
  refine shift_fn ao cap x n K (x * 2 ^ K) (n + K) w hx hB hn (by omega) (fun k => by omega) ?_
  intro k hk
  rw [Nat.testBit_mul_two_pow]
  by_cases h : K ≤ k
  · rw [show (k : Int) - (K : Int) = ((k - K : Nat) : Int) by omega, tb_nat]; simp [h]
  · rw [tb_neg _ _ (by omega)]; simp [h]
theorem shift_down (ao : Option Addr) (cap x n K : Nat) (w : World) (hx : x < 2 ^ n) (hB : Bs ao x n w) (hn : n ≤ 5000) (hK : K ≤ 5000) :
    Calls Try.prog 31 #[.slice ao n cap, .int .i64 (-(K : Int))] w fun e w' => ∃ ao' cap', e = .returned (.slice ao' (n - K) cap') ∧ n - K ≤ cap' ∧ Bs ao' (x / 2 ^ K) (n - K) w' ∧ Below w.heap.size w w' := by
  refine shift_fn ao cap x n (-(K : Int)) (x / 2 ^ K) (n - K) w hx hB hn (by omega) (fun k => by omega) ?_
  intro k hk
  rw [Nat.testBit_div_two_pow, show (k : Int) - -(K : Int) = ((k + K : Nat) : Int) by omega, tb_nat]
end Go.Proofs.Ytiglhgcckceikaa
