/- Div64, by the program. -/
import Derived.Test.YtiglhgcckceikaaWq
import Derived.Test.YtiglhgcckceikaaWn
namespace Go.Proofs.Ytiglhgcckceikaa
open Go.RowKit

theorem lz64_any (x : Int) (s : Nat) (w : World) (h0 : 0 ≤ x) (h1 : x < 18446744073709551616) (hs : blN x.toNat + s = 64) :
    Calls Try.prog 52 #[.int .u64 x] w fun e w' => e = .returned (.int .i64 (s : Int)) ∧ w = w' := by
  have h := Try.bits_LeadingZeros64 x w h0 (by omega)
  rw [bitLen_blN x.toNat (by omega), show 64 - ((blN x.toNat : Nat) : Int) = (s : Int) by omega] at h
  exact h.mono fun _ _ h => ⟨h.1, h.2.symm⟩

set_option maxRecDepth 100000 in
set_option maxHeartbeats 1000000 in
theorem div64_zero (lo y : Int) (w : World) (hl : Limb lo) (hy : Limb y) (hp : 0 < y) :
    Calls Try.prog 46 #[.int .u64 0, .int .u64 lo, .int .u64 y] w fun e w' => e = .returned (.tuple #[.int .u64 (lo / y), .int .u64 (lo % y)]) ∧ Below w.heap.size w w' := by
  obtain ⟨l0, l1⟩ := hl
  obtain ⟨y0, y1⟩ := hy
  have e1 : (y == 0) = false := by simpa using Int.ne_of_gt hp
  have e2 : decide (y ≤ 0) = false := decide_eq_false (by omega)
  go_enter Try.func46, Try.ntmps46
  go_wp2
  go_quiet (fail)
  go_wp2
  go_ret2
  exact ⟨rfl, Below_drewN' (Below.refl _ _) _⟩

theorem and_low (x : Int) (h0 : 0 ≤ x) (h1 : x < 18446744073709551616) : bits .and .u64 x 4294967295 = x % 4294967296 := by
  obtain ⟨n, rfl⟩ := Int.eq_ofNat_of_zero_le h0
  have e : bits .and .u64 (n : Int) 4294967295 = IntKind.u64.wrap ((BitVec.ofInt 64 (n : Int) &&& BitVec.ofInt 64 4294967295).toNat : Int) := rfl
  have e2 : (BitVec.ofInt 64 4294967295).toNat = 2 ^ 32 - 1 := by decide
  rw [e, BitVec.ofInt_natCast, BitVec.toNat_and, e2, BitVec.toNat_ofNat, Nat.mod_eq_of_lt (by omega), Nat.and_two_pow_sub_one_eq_mod, wrapU64]
  omega

set_option maxRecDepth 100000 in
set_option maxHeartbeats 4000000 in
theorem div64_fn (hi lo y U X Y H l a b qr rr : Int) (s : Nat) (w : World) (hh : 0 < hi ∧ hi < y) (hlo : Limb lo) (hy : Limb y) (hs : blN y.toNat + s = 64) (hs2 : s < 64)
    (E1 : IntKind.u64.wrap (y * 2 ^ s) = Y) (E2 : Y / 4294967296 = H) (E3 : bits .and .u64 Y 4294967295 = l) (E4 : bits .or .u64 (IntKind.u64.wrap (hi * 2 ^ s)) (lo / 2 ^ (64 - s)) = U)
    (E5 : IntKind.u64.wrap (lo * 2 ^ s) = X) (E6 : X / 4294967296 = a) (E7 : bits .and .u64 X 4294967295 = b) (hY : Y = H * 4294967296 + l) (hH : 2147483648 ≤ H ∧ H < 4294967296) (hl : 0 ≤ l ∧ l < 4294967296)
    (hU : 0 ≤ U ∧ U < Y) (ha : 0 ≤ a ∧ a < 4294967296) (hbb : 0 ≤ b ∧ b < 4294967296)
    (HF : qr = digQ U a Y * 4294967296 + digQ (digR U a Y) b Y ∧ rr = digR (digR U a Y) b Y / 2 ^ s) :
    Calls Try.prog 46 #[.int .u64 hi, .int .u64 lo, .int .u64 y] w fun e w' => e = .returned (.tuple #[.int .u64 qr, .int .u64 rr]) ∧ Below w.heap.size w w' := by
  obtain ⟨l0, l1⟩ := hlo
  obtain ⟨y0, y1⟩ := hy
  obtain ⟨h0, h1⟩ := hh
  have e1 : (y == 0) = false := by simpa using (show ¬ y = 0 by omega)
  have e2 : decide (y ≤ hi) = false := decide_eq_false (by omega)
  have e3 : (hi == 0) = false := by simpa using (show ¬ hi = 0 by omega)
  have hy0 : 0 < Y := by omega
  have hY2 : Y < 18446744073709551616 := by omega
  have HD := Lib.hid (Dig.start U a Y H l hY hH hl hU ha)
  have HYY := Lib.hid hY
  have HFH := Lib.hid HF
  clear HF
  have HB := Lib.hid hbb
  have HA := Lib.hid ha
  have HU := Lib.hid hU
  have HH := Lib.hid hH
  have HL := Lib.hid hl
  obtain ⟨bb0, bb1⟩ := hbb
  obtain ⟨H0, H1⟩ := hH
  obtain ⟨hl0, hl1⟩ := hl
  obtain ⟨U0, U1⟩ := hU
  obtain ⟨a0, a1⟩ := ha
  have z1 : U.tdiv H = U / H := Int.tdiv_eq_ediv_of_nonneg U0
  obtain ⟨q, hq⟩ : ∃ q, U / H = q := ⟨_, rfl⟩
  rw [hq] at HD z1
  have q0 := HD.out.q0
  have qi := HD.out.hi
  have z2 : IntKind.u64.wrap q = q := by rw [wrapU64]; omega
  obtain ⟨p, hp⟩ : ∃ p, q * H = p := ⟨_, rfl⟩
  rw [hp] at HD
  have hsum := HD.out.sum
  have hrr := HD.out.hr
  rw [hp] at hsum
  have hp0 : 0 ≤ p := by rw [← hp]; exact Int.mul_nonneg q0 (by omega)
  have z3 : IntKind.u64.wrap p = p := by rw [wrapU64]; omega
  have z4 : IntKind.u64.wrap (U - p) = U - p := by rw [wrapU64]; omega
  have HS := Lib.hid hs
  clear hs hY hsum
  have zH : (H == 0) = false := by simpa using (show ¬ H = 0 by omega)
  go_enter Try.func46, Try.ntmps46
  go_wp2_with (go_at_call 52; refine (lz64_any y s _ y0 y1 HS.out).mono ?_; rintro e w1 ⟨rfl, rfl⟩)
  clear E1 E2 E3 E4 E5 E6 E7 z1 hq z2 hp z3 z4
  go_loop [15, 16] (fun qv rv => ∃ q r : Int, qv = .int .u64 q ∧ rv = .int .u64 r ∧ 0 ≤ q ∧ q ≤ 4294967297 ∧ 0 ≤ r ∧ r < 4294967296 ∧ Hid (Dig U a Y H l q r)) (fun qv _ => (intOf qv).toNat)
  case atStart => exact ⟨_, _, rfl, rfl, HD.out.q0, HD.out.hi, HD.out.hr.1, HD.out.hr.2, HD⟩
  case round =>
    obtain ⟨q, r, rfl, rfl, q0, q1, r0, r1, HD2⟩ := hrel
    have hpr := HD2.out.prod
    obtain ⟨t, ht⟩ : ∃ t, q * l = t := ⟨_, rfl⟩
    rw [ht] at hpr
    obtain ⟨t0, t1⟩ := hpr
    have F1 : IntKind.u64.wrap t = t := by rw [wrapU64]; omega
    have HT := Lib.hid ht
    have hlt := HD2.out.less
    have hnx := HD2.out.next
    have hov := HD2.out.over
    have hfi := HD2.out.fits
    rw [ht] at hlt hnx hov hfi
    have L1 := Lib.hid hlt
    have L2 := Lib.hid hnx
    have L3 := Lib.hid hov
    have L4 := Lib.hid hfi
    clear hlt hnx hov hfi
    by_cases hc : 4294967296 ≤ q ∨ 4294967296 * r + a < t
    · obtain ⟨_, hq1⟩ := L1.out hc
      by_cases hc2 : r + H < 4294967296
      · have HN := Lib.hid (L2.out hc hc2)
        by_cases hc3 : 4294967296 ≤ q
        · have x1 : decide (4294967296 ≤ q) = true := decide_eq_true hc3
          have x2 : decide (4294967296 ≤ r + H) = false := decide_eq_false (by omega)
          clear hc
          go_wp2
          go_round
          case rel => exact ⟨q - 1, r + H, rfl, rfl, by omega, by omega, by omega, by omega, HN⟩
          case measure => simp [intOf] <;> omega
        · have x1 : decide (4294967296 ≤ q) = false := decide_eq_false hc3
          have x2 : decide (4294967296 ≤ r + H) = false := decide_eq_false (by omega)
          have x3 : 4294967296 * r + a < t := by omega
          clear hc
          go_wp2
          go_round
          case rel => exact ⟨q - 1, r + H, rfl, rfl, by omega, by omega, by omega, by omega, HN⟩
          case measure => simp [intOf] <;> omega
      · have HQ0 := L3.out hc hc2
        by_cases hc3 : 4294967296 ≤ q
        · have x1 : decide (4294967296 ≤ q) = true := decide_eq_true hc3
          have x2 : decide (4294967296 ≤ r + H) = true := decide_eq_true (by omega)
          clear hc
          obtain ⟨Q, hQ⟩ : ∃ Q, q - 1 = Q := ⟨_, rfl⟩
          rw [hQ] at HQ0
          have HQ1 := Lib.hid HQ0
          obtain ⟨k1, k2⟩ : 0 ≤ Q ∧ Q < 4294967296 := by rw [HQ0]; exact digQ_bounds U a Y HU.out HA.out hy0
          obtain ⟨g1, G1⟩ : ∃ g, IntKind.u64.wrap (U * 4294967296) = g := ⟨_, rfl⟩
          obtain ⟨g2, G2⟩ : ∃ g, IntKind.u64.wrap (g1 + a) = g := ⟨_, rfl⟩
          obtain ⟨g3, G3⟩ : ∃ g, IntKind.u64.wrap (Q * Y) = g := ⟨_, rfl⟩
          have hd0 := digR_bounds U a Y hy0
          have G4 : IntKind.u64.wrap (g2 - g3) = digR U a Y := by
            rw [← dig_wrap U a Y hy0 hY2, ← HQ0, ← G2, ← G3, ← G1, wrapU64, wrapU64, wrapU64, wrapU64]
            generalize Q * Y = m
            omega
          have HE := Lib.hid (Dig.start (digR U a Y) b Y H l HYY.out HH.out HL.out hd0 HB.out)
          obtain ⟨R1, hR1⟩ : ∃ r, digR U a Y = r := ⟨_, rfl⟩
          rw [hR1] at G4 hd0 HE
          have HR1 := Lib.hid (And.intro hR1 hd0)
          obtain ⟨d0, d1⟩ := hd0
          have y1 : R1.tdiv H = R1 / H := Int.tdiv_eq_ediv_of_nonneg d0
          obtain ⟨v, hv⟩ : ∃ v, R1 / H = v := ⟨_, rfl⟩
          rw [hv] at HE y1
          have v0 := HE.out.q0
          have vi := HE.out.hi
          have y2 : IntKind.u64.wrap v = v := by rw [wrapU64]; omega
          obtain ⟨vp, hvp⟩ : ∃ p, v * H = p := ⟨_, rfl⟩
          rw [hvp] at HE
          have hrr := HE.out.hr
          have hvp0 : 0 ≤ vp := by rw [← hvp]; exact Int.mul_nonneg v0 (by omega)
          have y3 : IntKind.u64.wrap vp = vp := by rw [wrapU64]; omega
          have y4 : IntKind.u64.wrap (R1 - vp) = R1 - vp := by rw [wrapU64]; omega
          clear HQ0 hR1 F1 L1 L2 L3 L4 HT HD2
          go_wp2
          clear G1 G2 G3 G4 y1 hv y2 hvp y3 y4
          go_loop [18, 16] (fun qv rv => ∃ q r : Int, qv = .int .u64 q ∧ rv = .int .u64 r ∧ 0 ≤ q ∧ q ≤ 4294967297 ∧ 0 ≤ r ∧ r < 4294967296 ∧ Hid (Dig R1 b Y H l q r)) (fun qv _ => (intOf qv).toNat)
          case atStart => exact ⟨_, _, rfl, rfl, HE.out.q0, HE.out.hi, HE.out.hr.1, HE.out.hr.2, HE⟩
          case round =>
            obtain ⟨q, r, rfl, rfl, q0, q1, r0, r1, HD2⟩ := hrel
            have hpr := HD2.out.prod
            obtain ⟨t, ht⟩ : ∃ t, q * l = t := ⟨_, rfl⟩
            rw [ht] at hpr
            obtain ⟨t0, t1⟩ := hpr
            have F1 : IntKind.u64.wrap t = t := by rw [wrapU64]; omega
            have HT := Lib.hid ht
            have hlt := HD2.out.less
            have hnx := HD2.out.next
            have hov := HD2.out.over
            have hfi := HD2.out.fits
            rw [ht] at hlt hnx hov hfi
            have L1 := Lib.hid hlt
            have L2 := Lib.hid hnx
            have L3 := Lib.hid hov
            have L4 := Lib.hid hfi
            clear hlt hnx hov hfi
            by_cases hc : 4294967296 ≤ q ∨ 4294967296 * r + b < t
            · obtain ⟨_, hq1⟩ := L1.out hc
              by_cases hc2 : r + H < 4294967296
              · have HN := Lib.hid (L2.out hc hc2)
                by_cases hc3 : 4294967296 ≤ q
                · have x1 : decide (4294967296 ≤ q) = true := decide_eq_true hc3
                  have x2 : decide (4294967296 ≤ r + H) = false := decide_eq_false (by omega)
                  clear hc
                  go_wp2
                  go_round
                  case rel => exact ⟨q - 1, r + H, rfl, rfl, by omega, by omega, by omega, by omega, HN⟩
                  case measure => simp [intOf] <;> omega
                · have x1 : decide (4294967296 ≤ q) = false := decide_eq_false hc3
                  have x2 : decide (4294967296 ≤ r + H) = false := decide_eq_false (by omega)
                  have x3 : 4294967296 * r + b < t := by omega
                  clear hc
                  go_wp2
                  go_round
                  case rel => exact ⟨q - 1, r + H, rfl, rfl, by omega, by omega, by omega, by omega, HN⟩
                  case measure => simp [intOf] <;> omega
              · have HQ0 := L3.out hc hc2
                by_cases hc3 : 4294967296 ≤ q
                · have x1 : decide (4294967296 ≤ q) = true := decide_eq_true hc3
                  have x2 : decide (4294967296 ≤ r + H) = true := decide_eq_true (by omega)
                  clear hc
                  obtain ⟨Q, hQ⟩ : ∃ Q, q - 1 = Q := ⟨_, rfl⟩
                  rw [hQ] at HQ0
                  have HQ2 := Lib.hid HQ0
                  obtain ⟨k1, k2⟩ : 0 ≤ Q ∧ Q < 4294967296 := by rw [HQ0]; exact digQ_bounds R1 b Y HR1.out.2 HB.out hy0
                  obtain ⟨g5, G5⟩ : ∃ g, IntKind.u64.wrap (R1 * 4294967296) = g := ⟨_, rfl⟩
                  obtain ⟨g6, G6⟩ : ∃ g, IntKind.u64.wrap (g5 + b) = g := ⟨_, rfl⟩
                  obtain ⟨g7, G7⟩ : ∃ g, IntKind.u64.wrap (Q * Y) = g := ⟨_, rfl⟩
                  have hd0 := digR_bounds R1 b Y hy0
                  have G8 : IntKind.u64.wrap (g6 - g7) = digR R1 b Y := by
                    rw [← dig_wrap R1 b Y hy0 hY2, ← HQ0, ← G6, ← G7, ← G5, wrapU64, wrapU64, wrapU64, wrapU64]
                    generalize Q * Y = m
                    omega
                  obtain ⟨R2, hR2⟩ : ∃ r, digR R1 b Y = r := ⟨_, rfl⟩
                  rw [hR2] at G8 hd0
                  obtain ⟨d0, d1⟩ := hd0
                  have HR2 := Lib.hid hR2
                  clear HQ0 hR2
                  go_wp2
                  go_ret2
                  exact ⟨by rw [HFH.out.1, HFH.out.2, HR1.out.1, ← HQ1.out, ← HQ2.out, HR2.out]; rfl, Below.refl _ _⟩

                · have x1 : decide (4294967296 ≤ q) = false := decide_eq_false hc3
                  have x2 : decide (4294967296 ≤ r + H) = true := decide_eq_true (by omega)
                  have x3 : 4294967296 * r + b < t := by omega
                  clear hc
                  obtain ⟨Q, hQ⟩ : ∃ Q, q - 1 = Q := ⟨_, rfl⟩
                  rw [hQ] at HQ0
                  have HQ2 := Lib.hid HQ0
                  obtain ⟨k1, k2⟩ : 0 ≤ Q ∧ Q < 4294967296 := by rw [HQ0]; exact digQ_bounds R1 b Y HR1.out.2 HB.out hy0
                  obtain ⟨g5, G5⟩ : ∃ g, IntKind.u64.wrap (R1 * 4294967296) = g := ⟨_, rfl⟩
                  obtain ⟨g6, G6⟩ : ∃ g, IntKind.u64.wrap (g5 + b) = g := ⟨_, rfl⟩
                  obtain ⟨g7, G7⟩ : ∃ g, IntKind.u64.wrap (Q * Y) = g := ⟨_, rfl⟩
                  have hd0 := digR_bounds R1 b Y hy0
                  have G8 : IntKind.u64.wrap (g6 - g7) = digR R1 b Y := by
                    rw [← dig_wrap R1 b Y hy0 hY2, ← HQ0, ← G6, ← G7, ← G5, wrapU64, wrapU64, wrapU64, wrapU64]
                    generalize Q * Y = m
                    omega
                  obtain ⟨R2, hR2⟩ : ∃ r, digR R1 b Y = r := ⟨_, rfl⟩
                  rw [hR2] at G8 hd0
                  obtain ⟨d0, d1⟩ := hd0
                  have HR2 := Lib.hid hR2
                  clear HQ0 hR2
                  go_wp2
                  go_ret2
                  exact ⟨by rw [HFH.out.1, HFH.out.2, HR1.out.1, ← HQ1.out, ← HQ2.out, HR2.out]; rfl, Below.refl _ _⟩

            · have HQ0 := L4.out (by omega)
              have x1 : decide (4294967296 ≤ q) = false := decide_eq_false (by omega)
              have x3 : ¬ 4294967296 * r + b < t := by omega
              clear hc
              have HQ2 := Lib.hid HQ0
              obtain ⟨k1, k2⟩ : 0 ≤ q ∧ q < 4294967296 := by rw [HQ0]; exact digQ_bounds R1 b Y HR1.out.2 HB.out hy0
              obtain ⟨g5, G5⟩ : ∃ g, IntKind.u64.wrap (R1 * 4294967296) = g := ⟨_, rfl⟩
              obtain ⟨g6, G6⟩ : ∃ g, IntKind.u64.wrap (g5 + b) = g := ⟨_, rfl⟩
              obtain ⟨g7, G7⟩ : ∃ g, IntKind.u64.wrap (q * Y) = g := ⟨_, rfl⟩
              have hd0 := digR_bounds R1 b Y hy0
              have G8 : IntKind.u64.wrap (g6 - g7) = digR R1 b Y := by
                rw [← dig_wrap R1 b Y hy0 hY2, ← HQ0, ← G6, ← G7, ← G5, wrapU64, wrapU64, wrapU64, wrapU64]
                generalize q * Y = m
                omega
              obtain ⟨R2, hR2⟩ : ∃ r, digR R1 b Y = r := ⟨_, rfl⟩
              rw [hR2] at G8 hd0
              obtain ⟨d0, d1⟩ := hd0
              have HR2 := Lib.hid hR2
              clear HQ0 hR2
              go_wp2
              go_ret2
              exact ⟨by rw [HFH.out.1, HFH.out.2, HR1.out.1, ← HQ1.out, ← HQ2.out, HR2.out]; rfl, Below.refl _ _⟩

        · have x1 : decide (4294967296 ≤ q) = false := decide_eq_false hc3
          have x2 : decide (4294967296 ≤ r + H) = true := decide_eq_true (by omega)
          have x3 : 4294967296 * r + a < t := by omega
          clear hc
          obtain ⟨Q, hQ⟩ : ∃ Q, q - 1 = Q := ⟨_, rfl⟩
          rw [hQ] at HQ0
          have HQ1 := Lib.hid HQ0
          obtain ⟨k1, k2⟩ : 0 ≤ Q ∧ Q < 4294967296 := by rw [HQ0]; exact digQ_bounds U a Y HU.out HA.out hy0
          obtain ⟨g1, G1⟩ : ∃ g, IntKind.u64.wrap (U * 4294967296) = g := ⟨_, rfl⟩
          obtain ⟨g2, G2⟩ : ∃ g, IntKind.u64.wrap (g1 + a) = g := ⟨_, rfl⟩
          obtain ⟨g3, G3⟩ : ∃ g, IntKind.u64.wrap (Q * Y) = g := ⟨_, rfl⟩
          have hd0 := digR_bounds U a Y hy0
          have G4 : IntKind.u64.wrap (g2 - g3) = digR U a Y := by
            rw [← dig_wrap U a Y hy0 hY2, ← HQ0, ← G2, ← G3, ← G1, wrapU64, wrapU64, wrapU64, wrapU64]
            generalize Q * Y = m
            omega
          have HE := Lib.hid (Dig.start (digR U a Y) b Y H l HYY.out HH.out HL.out hd0 HB.out)
          obtain ⟨R1, hR1⟩ : ∃ r, digR U a Y = r := ⟨_, rfl⟩
          rw [hR1] at G4 hd0 HE
          have HR1 := Lib.hid (And.intro hR1 hd0)
          obtain ⟨d0, d1⟩ := hd0
          have y1 : R1.tdiv H = R1 / H := Int.tdiv_eq_ediv_of_nonneg d0
          obtain ⟨v, hv⟩ : ∃ v, R1 / H = v := ⟨_, rfl⟩
          rw [hv] at HE y1
          have v0 := HE.out.q0
          have vi := HE.out.hi
          have y2 : IntKind.u64.wrap v = v := by rw [wrapU64]; omega
          obtain ⟨vp, hvp⟩ : ∃ p, v * H = p := ⟨_, rfl⟩
          rw [hvp] at HE
          have hrr := HE.out.hr
          have hvp0 : 0 ≤ vp := by rw [← hvp]; exact Int.mul_nonneg v0 (by omega)
          have y3 : IntKind.u64.wrap vp = vp := by rw [wrapU64]; omega
          have y4 : IntKind.u64.wrap (R1 - vp) = R1 - vp := by rw [wrapU64]; omega
          clear HQ0 hR1 F1 L1 L2 L3 L4 HT HD2
          go_wp2
          clear G1 G2 G3 G4 y1 hv y2 hvp y3 y4
          go_loop [18, 16] (fun qv rv => ∃ q r : Int, qv = .int .u64 q ∧ rv = .int .u64 r ∧ 0 ≤ q ∧ q ≤ 4294967297 ∧ 0 ≤ r ∧ r < 4294967296 ∧ Hid (Dig R1 b Y H l q r)) (fun qv _ => (intOf qv).toNat)
          case atStart => exact ⟨_, _, rfl, rfl, HE.out.q0, HE.out.hi, HE.out.hr.1, HE.out.hr.2, HE⟩
          case round =>
            obtain ⟨q, r, rfl, rfl, q0, q1, r0, r1, HD2⟩ := hrel
            have hpr := HD2.out.prod
            obtain ⟨t, ht⟩ : ∃ t, q * l = t := ⟨_, rfl⟩
            rw [ht] at hpr
            obtain ⟨t0, t1⟩ := hpr
            have F1 : IntKind.u64.wrap t = t := by rw [wrapU64]; omega
            have HT := Lib.hid ht
            have hlt := HD2.out.less
            have hnx := HD2.out.next
            have hov := HD2.out.over
            have hfi := HD2.out.fits
            rw [ht] at hlt hnx hov hfi
            have L1 := Lib.hid hlt
            have L2 := Lib.hid hnx
            have L3 := Lib.hid hov
            have L4 := Lib.hid hfi
            clear hlt hnx hov hfi
            by_cases hc : 4294967296 ≤ q ∨ 4294967296 * r + b < t
            · obtain ⟨_, hq1⟩ := L1.out hc
              by_cases hc2 : r + H < 4294967296
              · have HN := Lib.hid (L2.out hc hc2)
                by_cases hc3 : 4294967296 ≤ q
                · have x1 : decide (4294967296 ≤ q) = true := decide_eq_true hc3
                  have x2 : decide (4294967296 ≤ r + H) = false := decide_eq_false (by omega)
                  clear hc
                  go_wp2
                  go_round
                  case rel => exact ⟨q - 1, r + H, rfl, rfl, by omega, by omega, by omega, by omega, HN⟩
                  case measure => simp [intOf] <;> omega
                · have x1 : decide (4294967296 ≤ q) = false := decide_eq_false hc3
                  have x2 : decide (4294967296 ≤ r + H) = false := decide_eq_false (by omega)
                  have x3 : 4294967296 * r + b < t := by omega
                  clear hc
                  go_wp2
                  go_round
                  case rel => exact ⟨q - 1, r + H, rfl, rfl, by omega, by omega, by omega, by omega, HN⟩
                  case measure => simp [intOf] <;> omega
              · have HQ0 := L3.out hc hc2
                by_cases hc3 : 4294967296 ≤ q
                · have x1 : decide (4294967296 ≤ q) = true := decide_eq_true hc3
                  have x2 : decide (4294967296 ≤ r + H) = true := decide_eq_true (by omega)
                  clear hc
                  obtain ⟨Q, hQ⟩ : ∃ Q, q - 1 = Q := ⟨_, rfl⟩
                  rw [hQ] at HQ0
                  have HQ2 := Lib.hid HQ0
                  obtain ⟨k1, k2⟩ : 0 ≤ Q ∧ Q < 4294967296 := by rw [HQ0]; exact digQ_bounds R1 b Y HR1.out.2 HB.out hy0
                  obtain ⟨g5, G5⟩ : ∃ g, IntKind.u64.wrap (R1 * 4294967296) = g := ⟨_, rfl⟩
                  obtain ⟨g6, G6⟩ : ∃ g, IntKind.u64.wrap (g5 + b) = g := ⟨_, rfl⟩
                  obtain ⟨g7, G7⟩ : ∃ g, IntKind.u64.wrap (Q * Y) = g := ⟨_, rfl⟩
                  have hd0 := digR_bounds R1 b Y hy0
                  have G8 : IntKind.u64.wrap (g6 - g7) = digR R1 b Y := by
                    rw [← dig_wrap R1 b Y hy0 hY2, ← HQ0, ← G6, ← G7, ← G5, wrapU64, wrapU64, wrapU64, wrapU64]
                    generalize Q * Y = m
                    omega
                  obtain ⟨R2, hR2⟩ : ∃ r, digR R1 b Y = r := ⟨_, rfl⟩
                  rw [hR2] at G8 hd0
                  obtain ⟨d0, d1⟩ := hd0
                  have HR2 := Lib.hid hR2
                  clear HQ0 hR2
                  go_wp2
                  go_ret2
                  exact ⟨by rw [HFH.out.1, HFH.out.2, HR1.out.1, ← HQ1.out, ← HQ2.out, HR2.out]; rfl, Below.refl _ _⟩

                · have x1 : decide (4294967296 ≤ q) = false := decide_eq_false hc3
                  have x2 : decide (4294967296 ≤ r + H) = true := decide_eq_true (by omega)
                  have x3 : 4294967296 * r + b < t := by omega
                  clear hc
                  obtain ⟨Q, hQ⟩ : ∃ Q, q - 1 = Q := ⟨_, rfl⟩
                  rw [hQ] at HQ0
                  have HQ2 := Lib.hid HQ0
                  obtain ⟨k1, k2⟩ : 0 ≤ Q ∧ Q < 4294967296 := by rw [HQ0]; exact digQ_bounds R1 b Y HR1.out.2 HB.out hy0
                  obtain ⟨g5, G5⟩ : ∃ g, IntKind.u64.wrap (R1 * 4294967296) = g := ⟨_, rfl⟩
                  obtain ⟨g6, G6⟩ : ∃ g, IntKind.u64.wrap (g5 + b) = g := ⟨_, rfl⟩
                  obtain ⟨g7, G7⟩ : ∃ g, IntKind.u64.wrap (Q * Y) = g := ⟨_, rfl⟩
                  have hd0 := digR_bounds R1 b Y hy0
                  have G8 : IntKind.u64.wrap (g6 - g7) = digR R1 b Y := by
                    rw [← dig_wrap R1 b Y hy0 hY2, ← HQ0, ← G6, ← G7, ← G5, wrapU64, wrapU64, wrapU64, wrapU64]
                    generalize Q * Y = m
                    omega
                  obtain ⟨R2, hR2⟩ : ∃ r, digR R1 b Y = r := ⟨_, rfl⟩
                  rw [hR2] at G8 hd0
                  obtain ⟨d0, d1⟩ := hd0
                  have HR2 := Lib.hid hR2
                  clear HQ0 hR2
                  go_wp2
                  go_ret2
                  exact ⟨by rw [HFH.out.1, HFH.out.2, HR1.out.1, ← HQ1.out, ← HQ2.out, HR2.out]; rfl, Below.refl _ _⟩

            · have HQ0 := L4.out (by omega)
              have x1 : decide (4294967296 ≤ q) = false := decide_eq_false (by omega)
              have x3 : ¬ 4294967296 * r + b < t := by omega
              clear hc
              have HQ2 := Lib.hid HQ0
              obtain ⟨k1, k2⟩ : 0 ≤ q ∧ q < 4294967296 := by rw [HQ0]; exact digQ_bounds R1 b Y HR1.out.2 HB.out hy0
              obtain ⟨g5, G5⟩ : ∃ g, IntKind.u64.wrap (R1 * 4294967296) = g := ⟨_, rfl⟩
              obtain ⟨g6, G6⟩ : ∃ g, IntKind.u64.wrap (g5 + b) = g := ⟨_, rfl⟩
              obtain ⟨g7, G7⟩ : ∃ g, IntKind.u64.wrap (q * Y) = g := ⟨_, rfl⟩
              have hd0 := digR_bounds R1 b Y hy0
              have G8 : IntKind.u64.wrap (g6 - g7) = digR R1 b Y := by
                rw [← dig_wrap R1 b Y hy0 hY2, ← HQ0, ← G6, ← G7, ← G5, wrapU64, wrapU64, wrapU64, wrapU64]
                generalize q * Y = m
                omega
              obtain ⟨R2, hR2⟩ : ∃ r, digR R1 b Y = r := ⟨_, rfl⟩
              rw [hR2] at G8 hd0
              obtain ⟨d0, d1⟩ := hd0
              have HR2 := Lib.hid hR2
              clear HQ0 hR2
              go_wp2
              go_ret2
              exact ⟨by rw [HFH.out.1, HFH.out.2, HR1.out.1, ← HQ1.out, ← HQ2.out, HR2.out]; rfl, Below.refl _ _⟩

    · have HQ0 := L4.out (by omega)
      have x1 : decide (4294967296 ≤ q) = false := decide_eq_false (by omega)
      have x3 : ¬ 4294967296 * r + a < t := by omega
      clear hc
      have HQ1 := Lib.hid HQ0
      obtain ⟨k1, k2⟩ : 0 ≤ q ∧ q < 4294967296 := by rw [HQ0]; exact digQ_bounds U a Y HU.out HA.out hy0
      obtain ⟨g1, G1⟩ : ∃ g, IntKind.u64.wrap (U * 4294967296) = g := ⟨_, rfl⟩
      obtain ⟨g2, G2⟩ : ∃ g, IntKind.u64.wrap (g1 + a) = g := ⟨_, rfl⟩
      obtain ⟨g3, G3⟩ : ∃ g, IntKind.u64.wrap (q * Y) = g := ⟨_, rfl⟩
      have hd0 := digR_bounds U a Y hy0
      have G4 : IntKind.u64.wrap (g2 - g3) = digR U a Y := by
        rw [← dig_wrap U a Y hy0 hY2, ← HQ0, ← G2, ← G3, ← G1, wrapU64, wrapU64, wrapU64, wrapU64]
        generalize q * Y = m
        omega
      have HE := Lib.hid (Dig.start (digR U a Y) b Y H l HYY.out HH.out HL.out hd0 HB.out)
      obtain ⟨R1, hR1⟩ : ∃ r, digR U a Y = r := ⟨_, rfl⟩
      rw [hR1] at G4 hd0 HE
      have HR1 := Lib.hid (And.intro hR1 hd0)
      obtain ⟨d0, d1⟩ := hd0
      have y1 : R1.tdiv H = R1 / H := Int.tdiv_eq_ediv_of_nonneg d0
      obtain ⟨v, hv⟩ : ∃ v, R1 / H = v := ⟨_, rfl⟩
      rw [hv] at HE y1
      have v0 := HE.out.q0
      have vi := HE.out.hi
      have y2 : IntKind.u64.wrap v = v := by rw [wrapU64]; omega
      obtain ⟨vp, hvp⟩ : ∃ p, v * H = p := ⟨_, rfl⟩
      rw [hvp] at HE
      have hrr := HE.out.hr
      have hvp0 : 0 ≤ vp := by rw [← hvp]; exact Int.mul_nonneg v0 (by omega)
      have y3 : IntKind.u64.wrap vp = vp := by rw [wrapU64]; omega
      have y4 : IntKind.u64.wrap (R1 - vp) = R1 - vp := by rw [wrapU64]; omega
      clear HQ0 hR1 F1 L1 L2 L3 L4 HT HD2
      go_wp2
      clear G1 G2 G3 G4 y1 hv y2 hvp y3 y4
      go_loop [18, 16] (fun qv rv => ∃ q r : Int, qv = .int .u64 q ∧ rv = .int .u64 r ∧ 0 ≤ q ∧ q ≤ 4294967297 ∧ 0 ≤ r ∧ r < 4294967296 ∧ Hid (Dig R1 b Y H l q r)) (fun qv _ => (intOf qv).toNat)
      case atStart => exact ⟨_, _, rfl, rfl, HE.out.q0, HE.out.hi, HE.out.hr.1, HE.out.hr.2, HE⟩
      case round =>
        obtain ⟨q, r, rfl, rfl, q0, q1, r0, r1, HD2⟩ := hrel
        have hpr := HD2.out.prod
        obtain ⟨t, ht⟩ : ∃ t, q * l = t := ⟨_, rfl⟩
        rw [ht] at hpr
        obtain ⟨t0, t1⟩ := hpr
        have F1 : IntKind.u64.wrap t = t := by rw [wrapU64]; omega
        have HT := Lib.hid ht
        have hlt := HD2.out.less
        have hnx := HD2.out.next
        have hov := HD2.out.over
        have hfi := HD2.out.fits
        rw [ht] at hlt hnx hov hfi
        have L1 := Lib.hid hlt
        have L2 := Lib.hid hnx
        have L3 := Lib.hid hov
        have L4 := Lib.hid hfi
        clear hlt hnx hov hfi
        by_cases hc : 4294967296 ≤ q ∨ 4294967296 * r + b < t
        · obtain ⟨_, hq1⟩ := L1.out hc
          by_cases hc2 : r + H < 4294967296
          · have HN := Lib.hid (L2.out hc hc2)
            by_cases hc3 : 4294967296 ≤ q
            · have x1 : decide (4294967296 ≤ q) = true := decide_eq_true hc3
              have x2 : decide (4294967296 ≤ r + H) = false := decide_eq_false (by omega)
              clear hc
              go_wp2
              go_round
              case rel => exact ⟨q - 1, r + H, rfl, rfl, by omega, by omega, by omega, by omega, HN⟩
              case measure => simp [intOf] <;> omega
            · have x1 : decide (4294967296 ≤ q) = false := decide_eq_false hc3
              have x2 : decide (4294967296 ≤ r + H) = false := decide_eq_false (by omega)
              have x3 : 4294967296 * r + b < t := by omega
              clear hc
              go_wp2
              go_round
              case rel => exact ⟨q - 1, r + H, rfl, rfl, by omega, by omega, by omega, by omega, HN⟩
              case measure => simp [intOf] <;> omega
          · have HQ0 := L3.out hc hc2
            by_cases hc3 : 4294967296 ≤ q
            · have x1 : decide (4294967296 ≤ q) = true := decide_eq_true hc3
              have x2 : decide (4294967296 ≤ r + H) = true := decide_eq_true (by omega)
              clear hc
              obtain ⟨Q, hQ⟩ : ∃ Q, q - 1 = Q := ⟨_, rfl⟩
              rw [hQ] at HQ0
              have HQ2 := Lib.hid HQ0
              obtain ⟨k1, k2⟩ : 0 ≤ Q ∧ Q < 4294967296 := by rw [HQ0]; exact digQ_bounds R1 b Y HR1.out.2 HB.out hy0
              obtain ⟨g5, G5⟩ : ∃ g, IntKind.u64.wrap (R1 * 4294967296) = g := ⟨_, rfl⟩
              obtain ⟨g6, G6⟩ : ∃ g, IntKind.u64.wrap (g5 + b) = g := ⟨_, rfl⟩
              obtain ⟨g7, G7⟩ : ∃ g, IntKind.u64.wrap (Q * Y) = g := ⟨_, rfl⟩
              have hd0 := digR_bounds R1 b Y hy0
              have G8 : IntKind.u64.wrap (g6 - g7) = digR R1 b Y := by
                rw [← dig_wrap R1 b Y hy0 hY2, ← HQ0, ← G6, ← G7, ← G5, wrapU64, wrapU64, wrapU64, wrapU64]
                generalize Q * Y = m
                omega
              obtain ⟨R2, hR2⟩ : ∃ r, digR R1 b Y = r := ⟨_, rfl⟩
              rw [hR2] at G8 hd0
              obtain ⟨d0, d1⟩ := hd0
              have HR2 := Lib.hid hR2
              clear HQ0 hR2
              go_wp2
              go_ret2
              exact ⟨by rw [HFH.out.1, HFH.out.2, HR1.out.1, ← HQ1.out, ← HQ2.out, HR2.out]; rfl, Below.refl _ _⟩

            · have x1 : decide (4294967296 ≤ q) = false := decide_eq_false hc3
              have x2 : decide (4294967296 ≤ r + H) = true := decide_eq_true (by omega)
              have x3 : 4294967296 * r + b < t := by omega
              clear hc
              obtain ⟨Q, hQ⟩ : ∃ Q, q - 1 = Q := ⟨_, rfl⟩
              rw [hQ] at HQ0
              have HQ2 := Lib.hid HQ0
              obtain ⟨k1, k2⟩ : 0 ≤ Q ∧ Q < 4294967296 := by rw [HQ0]; exact digQ_bounds R1 b Y HR1.out.2 HB.out hy0
              obtain ⟨g5, G5⟩ : ∃ g, IntKind.u64.wrap (R1 * 4294967296) = g := ⟨_, rfl⟩
              obtain ⟨g6, G6⟩ : ∃ g, IntKind.u64.wrap (g5 + b) = g := ⟨_, rfl⟩
              obtain ⟨g7, G7⟩ : ∃ g, IntKind.u64.wrap (Q * Y) = g := ⟨_, rfl⟩
              have hd0 := digR_bounds R1 b Y hy0
              have G8 : IntKind.u64.wrap (g6 - g7) = digR R1 b Y := by
                rw [← dig_wrap R1 b Y hy0 hY2, ← HQ0, ← G6, ← G7, ← G5, wrapU64, wrapU64, wrapU64, wrapU64]
                generalize Q * Y = m
                omega
              obtain ⟨R2, hR2⟩ : ∃ r, digR R1 b Y = r := ⟨_, rfl⟩
              rw [hR2] at G8 hd0
              obtain ⟨d0, d1⟩ := hd0
              have HR2 := Lib.hid hR2
              clear HQ0 hR2
              go_wp2
              go_ret2
              exact ⟨by rw [HFH.out.1, HFH.out.2, HR1.out.1, ← HQ1.out, ← HQ2.out, HR2.out]; rfl, Below.refl _ _⟩

        · have HQ0 := L4.out (by omega)
          have x1 : decide (4294967296 ≤ q) = false := decide_eq_false (by omega)
          have x3 : ¬ 4294967296 * r + b < t := by omega
          clear hc
          have HQ2 := Lib.hid HQ0
          obtain ⟨k1, k2⟩ : 0 ≤ q ∧ q < 4294967296 := by rw [HQ0]; exact digQ_bounds R1 b Y HR1.out.2 HB.out hy0
          obtain ⟨g5, G5⟩ : ∃ g, IntKind.u64.wrap (R1 * 4294967296) = g := ⟨_, rfl⟩
          obtain ⟨g6, G6⟩ : ∃ g, IntKind.u64.wrap (g5 + b) = g := ⟨_, rfl⟩
          obtain ⟨g7, G7⟩ : ∃ g, IntKind.u64.wrap (q * Y) = g := ⟨_, rfl⟩
          have hd0 := digR_bounds R1 b Y hy0
          have G8 : IntKind.u64.wrap (g6 - g7) = digR R1 b Y := by
            rw [← dig_wrap R1 b Y hy0 hY2, ← HQ0, ← G6, ← G7, ← G5, wrapU64, wrapU64, wrapU64, wrapU64]
            generalize q * Y = m
            omega
          obtain ⟨R2, hR2⟩ : ∃ r, digR R1 b Y = r := ⟨_, rfl⟩
          rw [hR2] at G8 hd0
          obtain ⟨d0, d1⟩ := hd0
          have HR2 := Lib.hid hR2
          clear HQ0 hR2
          go_wp2
          go_ret2
          exact ⟨by rw [HFH.out.1, HFH.out.2, HR1.out.1, ← HQ1.out, ← HQ2.out, HR2.out]; rfl, Below.refl _ _⟩

end Go.Proofs.Ytiglhgcckceikaa
