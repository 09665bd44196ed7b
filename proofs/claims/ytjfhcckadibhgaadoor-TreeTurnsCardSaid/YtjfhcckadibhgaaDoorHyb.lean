/- The document's own depths, turned bits, elements. -/
import Derived.Test.YtjfhcckadibhgaaDoorHya
import Derived.Lib.ItoaNum
namespace Go.Proofs.YtjfhcckadibhgaaDoor
open Go.RowKit

theorem turn_go (d j o k : Nat) (h : j < d) : turn (d - j) o k = turn (d - (j + 1)) (2 * o + k % 2) (k / 2) := by
  obtain ⟨m, hm⟩ : ∃ m, d - j = m + 1 := ⟨d - j - 1, by omega⟩
  rw [hm, turn, show d - (j + 1) = m by omega]
set_option maxRecDepth 100000 in
set_option maxHeartbeats 1000000 in
theorem refTurned_any (k : Nat) (d : Int) (w : World) : Calls Tryd.prog 62 #[.int .u64 (k : Int), .int .i64 d] w fun e w' => e = .returned (.int .u64 (turnB k d : Int)) ∧ w = w' := by
  by_cases h0 : d < 0
  · have hT : turnB k d = 0 := if_neg (by simp [standsB]; omega)
    rw [hT]
    go_enter Tryd.func62, Tryd.ntmps62
    go_wp2
    go_ret
    exact ⟨rfl, rfl⟩
  · by_cases h1 : 16 < d
    · have hT : turnB k d = 0 := if_neg (by simp [standsB]; omega)
      rw [hT]
      go_enter Tryd.func62, Tryd.ntmps62
      go_wp2
      go_ret
      exact ⟨rfl, rfl⟩
    · obtain ⟨n, rfl⟩ : ∃ n : Nat, d = (n : Int) := ⟨d.toNat, by omega⟩
      have hn : n ≤ 16 := by omega
      have hp : 2 ^ n ≤ 2 ^ 16 := Nat.pow_le_pow_right (by decide) hn
      have hc : ((2 : Int) ^ n) = ((2 ^ n : Nat) : Int) := by simp
      have hw : IntKind.u64.wrap ((2 : Int) ^ n) = (2 : Int) ^ n := by
        rw [IntKind.wrap_u64, hc]
        generalize 2 ^ n = p at hp ⊢
        omega
      by_cases hkn : k < 2 ^ n
      · have hT : turnB k (n : Int) = turn n 0 k := if_pos (by simp [standsB, hkn]; omega)
        have hge : ¬ ((2 : Int) ^ n ≤ (k : Int)) := by rw [hc]; omega
        have hk16 : k < 65536 := Nat.lt_of_lt_of_le hkn hp
        rw [hT]
        clear hT hc hp
        go_enter Tryd.func62, Tryd.ntmps62
        go_wp2
        clear hw hge
        go_loopw [0, 5, 6] (fun vk vo vj wr => ∃ (kk o j : Nat), vk = .int .u64 (kk : Int) ∧ vo = .int .u64 (o : Int) ∧ vj = .int .i64 (j : Int) ∧ j ≤ n ∧ o < 2 ^ j ∧ kk < 65536 ∧ Hid (turn (n - j) o kk = turn n 0 k) ∧ w = wr) (fun _ _ vj _ => n - (intOf vj).toNat)
        case atStart => exact ⟨k, 0, 0, rfl, rfl, rfl, Nat.zero_le _, by simp, hk16, Lib.hid rfl, rfl⟩
        case round =>
          obtain ⟨kk, o, j, rfl, rfl, rfl, hj, ho, hkk, HT, rfl⟩ := hrel
          have hp : 2 ^ j ≤ 2 ^ 16 := Nat.pow_le_pow_right (by decide) (by omega)
          have HO := Lib.hid ho
          have ho16 : o < 65536 := Nat.lt_of_lt_of_le ho hp
          clear ho hp
          by_cases hlt : j < n
          · have hl : (j : Int) < (n : Int) := by omega
            have hw1 : IntKind.u64.wrap (2 * (o : Int)) = 2 * (o : Int) := by rw [IntKind.wrap_u64]; omega
            have hw2 : IntKind.u64.wrap (2 * (o : Int) + (kk : Int) % 2) = ((2 * o + kk % 2 : Nat) : Int) := by rw [IntKind.wrap_u64]; omega
            have hq : IntKind.u64.wrap ((kk : Int).tdiv 2) = ((kk / 2 : Nat) : Int) := by rw [IntKind.wrap_u64, Int.tdiv_eq_ediv_of_nonneg (by omega)]; omega
            have hlt2 : kk / 2 < 65536 := by omega
            have HN := Lib.hid (turn_go n j o kk hlt)
            have hb : 2 * o + kk % 2 < 2 ^ (j + 1) := by have := HO.out; rw [Nat.pow_succ]; omega
            go_wp2
            go_roundw
            case rel => exact ⟨kk / 2, 2 * o + kk % 2, j + 1, rfl, rfl, by go_num, hlt, hb, hlt2, Lib.hid (HN.out.symm.trans HT.out), trivial⟩
            case measure => simp [intOf] <;> omega
          · have hl : ¬ (j : Int) < (n : Int) := by omega
            have HE := Lib.hid (show o = turn n 0 k by have := HT.out; rw [show n - j = 0 by omega, turn] at this; exact this)
            go_wp2
            go_ret
            exact ⟨by rw [← HE.out]; rfl, rfl⟩
      · have hT : turnB k (n : Int) = 0 := if_neg (by simp [standsB, hkn])
        have hge : (2 : Int) ^ n ≤ (k : Int) := by rw [hc]; omega
        rw [hT]
        clear hT hc hp
        go_enter Tryd.func62, Tryd.ntmps62
        go_wp2
        go_ret
        exact ⟨rfl, rfl⟩
theorem refElement_any (k : Nat) (d : Int) (w : World) : Calls Tryd.prog 43 #[.int .u64 (k : Int), .int .i64 d] w fun e w' => e = .returned (.int .u64 (turnB k d : Int)) ∧ w = w' := by
  have HC := Lib.hid (refTurned_any k d w)
  go_enter Tryd.func43, Tryd.ntmps43
  go_wp2_with (go_at_call 62; refine HC.out.mono ?_; rintro e w' ⟨rfl, rfl⟩)
  go_ret
  exact ⟨rfl, rfl⟩
/-- the depth is the least of those that hold them -/
theorem dep_spec (n : Nat) (hn : n ≤ 65536) : n ≤ 2 ^ dep n ∧ ∀ j, j < dep n → 2 ^ j < n := by
  unfold dep
  by_cases h : n ≤ 1
  · have e : max n 1 - 1 = 0 := by omega
    rw [e, show Lib.bitLen 0 = 0 from rfl]
    exact ⟨by simpa using h, fun j hj => by omega⟩
  · obtain ⟨x, hx⟩ : ∃ x, n = x + 1 := ⟨n - 1, by omega⟩
    have e : max n 1 - 1 = x := by omega
    rw [e]
    obtain ⟨g1, g2, g3⟩ := Lib.bitLenAux_bounds 64 x (by omega) (by omega)
    have g1 : 1 ≤ Lib.bitLen x := g1
    have g2 : 2 ^ (Lib.bitLen x - 1) ≤ x := g2
    have g3 : x < 2 ^ Lib.bitLen x := g3
    refine ⟨by omega, fun j hj => ?_⟩
    have : 2 ^ j ≤ 2 ^ (Lib.bitLen x - 1) := Nat.pow_le_pow_right (by decide) (by omega)
    omega
theorem dep_le (n : Nat) (hn : n ≤ 65536) : dep n ≤ 16 := by
  rcases Nat.lt_or_ge 16 (dep n) with h | h
  · have := (dep_spec n hn).2 16 h
    omega
  · exact h
set_option maxRecDepth 100000 in
set_option maxHeartbeats 1000000 in
theorem refDepth_any (n : Int) (w : World) : Calls Tryd.prog 30 #[.int .i64 n] w fun e w' => e = .returned (.int .i64 (depthV n)) ∧ w = w' := by
  by_cases h1 : n < 0
  · have hd : depthV n = -1 := if_pos (.inl h1)
    rw [hd]
    clear hd
    go_enter Tryd.func30, Tryd.ntmps30
    go_wp2
    go_ret
    exact ⟨rfl, rfl⟩
  · by_cases h2 : 65536 < n
    · have hd : depthV n = -1 := if_pos (.inr h2)
      rw [hd]
      clear hd
      go_enter Tryd.func30, Tryd.ntmps30
      go_wp2
      go_ret
      exact ⟨rfl, rfl⟩
    · obtain ⟨m, rfl⟩ : ∃ m : Nat, n = (m : Int) := ⟨n.toNat, by omega⟩
      have hd : depthV (m : Int) = (dep m : Int) := by rw [depthV, if_neg (by omega)]; rfl
      have HS := Lib.hid (dep_spec m (by omega))
      have hle := dep_le m (by omega)
      rw [hd]
      clear hd
      generalize dep m = D at *
      go_enter Tryd.func30, Tryd.ntmps30
      go_wp2
      go_loopw [3] (fun v wr => ∃ j : Nat, v = .int .i64 (j : Int) ∧ j ≤ D ∧ w = wr) (fun v _ => D - (intOf v).toNat)
      case atStart => exact ⟨0, rfl, Nat.zero_le _, rfl⟩
      case round =>
        obtain ⟨j, rfl, hj, rfl⟩ := hrel
        have hp : 2 ^ j ≤ 2 ^ 16 := Nat.pow_le_pow_right (by decide) (by omega)
        have hc : ((2 : Int) ^ j) = ((2 ^ j : Nat) : Int) := by simp
        have hw : IntKind.i64.wrap ((2 : Int) ^ j) = (2 : Int) ^ j := by
          rw [hc]
          generalize 2 ^ j = p at hp ⊢
          have e : (p : Int) % 2 ^ 64 = (p : Int) := by omega
          simp only [IntKind.wrap, IntKind.bits, IntKind.signed, e]
          rw [if_neg (by simp; omega)]
        by_cases hlt : j < D
        · have hl : (2 : Int) ^ j < (m : Int) := by have := HS.out.2 j hlt; rw [hc]; omega
          clear hc hp
          go_wp2
          go_roundw
          case rel => exact ⟨j + 1, by go_num, hlt, trivial⟩
          case measure => simp [intOf] <;> omega
        · have hjd : j = D := by omega
          subst hjd
          have hl : ¬ (2 : Int) ^ j < (m : Int) := by have := HS.out.1; rw [hc]; omega
          clear hc hp
          go_wp2
          go_ret
          exact ⟨rfl, rfl⟩
end Go.Proofs.YtjfhcckadibhgaaDoor
