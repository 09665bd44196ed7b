/- Sums of bits, as the document's answer makes them. -/
import Derived.Test.YtiglhgcckceikaaRa
import Derived.IntWalk
namespace Go.Proofs.Ytiglhgcckceikaa
open Go.RowKit

/-- what is carried into bit k -/
def cyb (x y k : Nat) : Bool := decide (2 ^ k ≤ x % 2 ^ k + y % 2 ^ k)
theorem add_step (x y k : Nat) (bx b2 c : Bool) (hx : x.testBit k = bx) (hy : y.testBit k = b2) (hc : cyb x y k = c) :
    (x + y).testBit k = ((bx != b2) != c) ∧ cyb x y (k + 1) = ((bx && b2) || (bx && c) || (b2 && c)) := by
  have hp := Nat.two_pow_pos k
  have h1 : (x + y) % 2 ^ (k + 1) = (x % 2 ^ (k + 1) + y % 2 ^ (k + 1)) % 2 ^ (k + 1) := Nat.add_mod ..
  have h2 : (x + y) % 2 ^ k = (x % 2 ^ k + y % 2 ^ k) % 2 ^ k := Nat.add_mod ..
  have hs := mod_succ (x + y) k
  have ha := Nat.mod_lt x hp
  have hb := Nat.mod_lt y hp
  unfold cyb at hc ⊢
  rw [mod_succ x k, mod_succ y k, hx, hy] at h1 ⊢
  rw [h1] at hs
  obtain ⟨bs, hbs⟩ : ∃ bs, (x + y).testBit k = bs := ⟨_, rfl⟩
  rw [hbs] at hs ⊢
  rw [Nat.pow_succ] at hs h1 ⊢
  rw [h2] at hs
  generalize x % 2 ^ k = a at *
  generalize y % 2 ^ k = b at *
  generalize 2 ^ k = P at *
  clear h1 h2 hbs hx hy
  have hm : ∀ s M : Nat, M ≤ s → s < M + M → s % M = s - M := fun s M h1 h2 => by rw [Nat.mod_eq_sub_mod h1, Nat.mod_eq_of_lt (by omega)]
  have e : (a + b) % P = if c then a + b - P else a + b := by
    cases c
    · rw [if_neg (by decide)]; exact Nat.mod_eq_of_lt (by have := of_decide_eq_false hc; omega)
    · rw [if_pos rfl]; exact hm _ _ (of_decide_eq_true hc) (by omega)
  rw [e] at hs
  have hc' : c = true ↔ P ≤ a + b := by rw [← hc]; exact decide_eq_true_iff
  clear hc e
  have key : ∀ s : Nat, s < P * 2 + P * 2 → s % (P * 2) = if P * 2 ≤ s then s - P * 2 else s := fun s h => by
    by_cases h1 : P * 2 ≤ s
    · rw [if_pos h1]; exact hm _ _ h1 h
    · rw [if_neg h1]; exact Nat.mod_eq_of_lt (by omega)
  cases bx <;> cases b2 <;> cases c <;> cases bs <;> simp at hs hc' ⊢ <;> (try rw [key _ (by omega)] at hs) <;> (try split at hs) <;> omega
theorem cyb_zero (x y : Nat) : cyb x y 0 = false := by
  rw [cyb, Nat.pow_zero, Nat.mod_one, Nat.mod_one]; rfl
theorem cyb_end (x y n m k : Nat) (hx : x < 2 ^ n) (hy : y < 2 ^ m) (hn : n ≤ k) (hm : m ≤ k) (hc : cyb x y k = false) : x + y < 2 ^ k := by
  have h1 := Nat.pow_le_pow_right (n := 2) (by decide) hn
  have h2 := Nat.pow_le_pow_right (n := 2) (by decide) hm
  have := of_decide_eq_false hc
  rw [Nat.mod_eq_of_lt (by omega), Nat.mod_eq_of_lt (by omega)] at this
  omega
theorem cyb_over (x y n m k : Nat) (hx : x < 2 ^ n) (hy : y < 2 ^ m) (hn : n < k) (hm : m < k) : cyb x y k = false := by
  have h1 := Nat.pow_le_pow_right (n := 2) (by decide) (show n + 1 ≤ k from hn)
  have h2 := Nat.pow_le_pow_right (n := 2) (by decide) (show m + 1 ≤ k from hm)
  rw [Nat.pow_succ] at h1 h2
  rw [cyb, Nat.mod_eq_of_lt (by omega), Nat.mod_eq_of_lt (by omega)]
  exact decide_eq_false (by omega)

set_option maxRecDepth 100000 in
set_option maxHeartbeats 2000000 in
theorem radd_any (ao a2 : Option Addr) (cap cap2 x n y m : Nat) (w : World) (hx : x < 2 ^ n) (hB : Bs ao x n w) (hy : y < 2 ^ m) (hB2 : Bs a2 y m w) (hn : n ≤ 5000) (hm : m ≤ 5000) :
    Calls Try.prog 11 #[.slice ao n cap, .slice a2 m cap2] w fun e w' => ∃ a3 N cap3, e = .returned (.slice a3 N cap3) ∧ N ≤ max n m + 1 ∧ x + y < 2 ^ N ∧ Bs a3 (x + y) N w' ∧ Below w.heap.size w w' := by
  have HB := Lib.hid hB
  have HX := Lib.hid hx
  have HB2 := Lib.hid hB2
  have HY := Lib.hid hy
  clear hB hx hB2 hy
  obtain ⟨M, hM⟩ : ∃ M, max n m = M := ⟨_, rfl⟩
  have HM := Lib.hid hM
  have hMi : max (n : Int) (m : Int) = (M : Int) := by omega
  clear hM
  go_enter Try.func11, Try.ntmps11
  go_wp2
  go_loopw [5, 6, 7] (fun v c i wr => ∃ k : Nat, k ≤ M + 1 ∧ i = .int .i64 (k : Int) ∧ c = .bool (cyb x y k) ∧ wr.ownsRow w.heap.size 4 1 v k (bitsV (x + y) k) ∧ Below w.heap.size w wr)
    (fun _ _ i _ => M + 1 - (intOf i).toNat)
  case atStart => exact ⟨0, by omega, rfl, by rw [cyb_zero], World.ownsRow_nil _ _ _ _, Below.refl _ _⟩
  case round =>
    obtain ⟨k, hk, rfl, rfl, hown, hbe⟩ := hrel
    have hz := hbe.size
    have HO := Lib.hid hown
    clear hown
    obtain ⟨c, hc⟩ : ∃ c, cyb x y k = c := ⟨_, rfl⟩
    rw [hc]
    have HC := Lib.hid hc
    clear hc
    by_cases hgo : k < M ∨ c = true
    · have hkM : k ≤ M := by
        rcases hgo with h | h
        · omega
        · by_cases h1 : k ≤ M
          · exact h1
          · have := cyb_over x y n m k HX.out HY.out (by have := HM.out; omega) (by have := HM.out; omega)
            rw [HC.out, h] at this; cases this
      obtain ⟨bx, hbx⟩ : ∃ bx, x.testBit k = bx := ⟨_, rfl⟩
      obtain ⟨b2, hb2⟩ : ∃ b2, y.testBit k = b2 := ⟨_, rfl⟩
      have HS := Lib.hid (add_step x y k bx b2 c hbx hb2 HC.out)
      have HB1 := Lib.hid (HB.out.below hbe (Nat.le_refl _))
      have HB3 := Lib.hid (HB2.out.below hbe (Nat.le_refl _))
      have HT1 := Lib.hid (bit_any ao cap x n k wr HX.out HB1.out)
      have HT2 := Lib.hid (bit_any a2 cap2 y m k wr HY.out HB3.out)
      rw [tb_nat, hbx] at HT1
      rw [tb_nat, hb2] at HT2
      clear hbx hb2 HB1 HB3
      have hk2 : k ≤ 100000 := by have := HM.out; omega
      by_cases hkm : k < M
      · have k1 : (k : Int) < (M : Int) := by omega
        clear hgo
        cases bx <;> cases b2 <;> cases c
        all_goals
          go_wp2_with (first
            | (go_at_call 36; with_reducible refine (HT1.out).mono ?_; rintro e wb ⟨rfl, rfl⟩)
            | (go_at_call 36; with_reducible refine (HT2.out).mono ?_; rintro e wb ⟨rfl, rfl⟩)
            | (at_builtin; refine append_bit rfl _ _ rfl rfl rfl HO.out HS.out.1.symm hk2 hbe hz ?_))
          intro v' wa hown1 hb1 hz1
          clear HO hbe hz HT1 HT2
          go_wp2
          go_roundw
          case rel => exact ⟨k + 1, by omega, by go_num, by rw [HS.out.2]; rfl, hown1, hb1⟩
          case measure => simp [intOf] <;> omega
      · have k1 : ¬ (k : Int) < (M : Int) := by omega
        have hct : c = true := hgo.resolve_left hkm
        subst hct
        clear hgo
        cases bx <;> cases b2
        all_goals
          go_wp2_with (first
            | (go_at_call 36; with_reducible refine (HT1.out).mono ?_; rintro e wb ⟨rfl, rfl⟩)
            | (go_at_call 36; with_reducible refine (HT2.out).mono ?_; rintro e wb ⟨rfl, rfl⟩)
            | (at_builtin; refine append_bit rfl _ _ rfl rfl rfl HO.out HS.out.1.symm hk2 hbe hz ?_))
          intro v' wa hown1 hb1 hz1
          clear HO hbe hz HT1 HT2
          go_wp2
          go_roundw
          case rel => exact ⟨k + 1, by omega, by go_num, by rw [HS.out.2]; rfl, hown1, hb1⟩
          case measure => simp [intOf] <;> omega
    · have hkm : ¬ k < M := fun h => hgo (.inl h)
      have k1 : ¬ (k : Int) < (M : Int) := by omega
      have hct : c = false := by
        cases c
        · rfl
        · exact absurd (.inr rfl) hgo
      subst hct
      clear hgo
      have hmx := HM.out
      have HE := Lib.hid (cyb_end x y n m k HX.out HY.out (by omega) (by omega) HC.out)
      obtain ⟨a3, cap3, rfl, _, h2⟩ := Bs.of_own HO.out
      have H2 := Lib.hid h2
      clear h2 hmx
      go_wp2
      go_ret
      exact ⟨_, k, ⟨_, rfl⟩, by have := HM.out; omega, HE.out, H2.out, hbe⟩
end Go.Proofs.Ytiglhgcckceikaa
