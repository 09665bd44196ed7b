/- Moving up and down: plain arithmetic of limbs. -/
import Derived.Test.YtiglhgcckceikaaWe
namespace Go.Proofs.Ytiglhgcckceikaa
open Go.RowKit

theorem wrapU64 (n : Int) : IntKind.u64.wrap n = n % 18446744073709551616 := by simp [IntKind.wrap, IntKind.bits, IntKind.signed]
theorem or_add (a b : Nat) (p : Nat) (q : Nat) (ha : a = 2 ^ p * q) (hb : b < 2 ^ p) (hs : a + b < 18446744073709551616) :
    bits .or .u64 (a : Int) (b : Int) = (a : Int) + b := by
  have e : bits .or .u64 (a : Int) (b : Int) = IntKind.u64.wrap ((BitVec.ofInt 64 (a : Int) ||| BitVec.ofInt 64 (b : Int)).toNat : Int) := rfl
  have h : a ||| b = a + b := by rw [ha]; exact (Nat.two_pow_add_eq_or_of_lt hb q).symm
  rw [e, BitVec.ofInt_natCast, BitVec.ofInt_natCast, BitVec.toNat_or, BitVec.toNat_ofNat, BitVec.toNat_ofNat, Nat.mod_eq_of_lt (by omega), Nat.mod_eq_of_lt (by omega), h, wrapU64]
  omega
theorem or_addI (a b p : Int) (k : Nat) (q : Int) (hp : p = 2 ^ k) (hq : 0 ≤ q) (ha : a = p * q) (hb : 0 ≤ b ∧ b < p) (hs : a + b < 18446744073709551616) : bits .or .u64 a b = a + b := by
  have hp0 : 0 < p := by omega
  have ha0 : 0 ≤ a := by rw [ha]; exact Int.mul_nonneg (by omega) hq
  obtain ⟨a, rfl⟩ := Int.eq_ofNat_of_zero_le ha0
  obtain ⟨b, rfl⟩ := Int.eq_ofNat_of_zero_le hb.1
  obtain ⟨q, rfl⟩ := Int.eq_ofNat_of_zero_le hq
  have e : (2 : Int) ^ k = ((2 ^ k : Nat) : Int) := by rw [Int.natCast_pow]; rfl
  rw [hp, e] at ha hb
  refine or_add a b k q ?_ (by omega) (by omega)
  have := ha
  rw [← Int.natCast_mul] at this
  omega
theorem p64 (p : Nat) (h : p ≤ 64) : (2 : Int) ^ p * 2 ^ (64 - p) = 18446744073709551616 := by
  rw [← Int.pow_add, show p + (64 - p) = 64 by omega]; rfl
theorem p2_pos (p : Nat) : 0 < (2 : Int) ^ p := Int.pow_pos (by decide)
theorem pw_two (k : Nat) : pw k = 2 ^ (64 * k) := by rw [pw, show (18446744073709551616 : Int) = 2 ^ 64 by rfl, ← Int.pow_mul]

/-- up: limbs below are noughts -/
theorem d_up_lo (x : Int) (n i : Nat) (h : i < n / 64) : d (x * 2 ^ n) i = 0 := by
  obtain ⟨m, hm⟩ : ∃ m, n = 64 * (i + 1) + m := ⟨n - 64 * (i + 1), by omega⟩
  have e : x * 2 ^ n = pw i * (18446744073709551616 * (x * 2 ^ m)) := by
    rw [hm, Int.pow_add, ← pw_two, pw_succ]
    simp only [Int.mul_assoc, Int.mul_comm]
  rw [d, e, Int.mul_ediv_cancel_left _ (Int.ne_of_gt (pw_pos i)), Int.mul_emod_right]
theorem up_div (x : Int) (n L i : Nat) (hL : n / 64 = L) (h : L ≤ i) : x * 2 ^ n / pw i = x * 2 ^ (n % 64) / pw (i - L) := by
  have e : x * 2 ^ n = pw L * (x * 2 ^ (n % 64)) := by
    have : n = 64 * L + n % 64 := by omega
    conv => lhs; rw [this, Int.pow_add, ← pw_two]
    rw [Int.mul_left_comm]
  obtain ⟨j, rfl⟩ : ∃ j, i = L + j := ⟨i - L, by omega⟩
  rw [e, pw_add, Int.mul_ediv_mul_of_pos _ _ (pw_pos L), Nat.add_sub_cancel_left]
theorem d_up_at (x : Int) (n L i : Nat) (hL : n / 64 = L) (h : L ≤ i) : d (x * 2 ^ n) i = d (x * 2 ^ (n % 64)) (i - L) := by
  rw [d, up_div x n L i hL h, d]
theorem d_up_0 (x : Int) (p : Nat) : d (x * 2 ^ p) 0 = d x 0 * 2 ^ p % 18446744073709551616 := by
  rw [d, d, div_zero', div_zero']
  conv => rhs; rw [Int.mul_emod, Int.emod_emod_of_dvd _ (Int.dvd_refl _), ← Int.mul_emod]
/-- a limb that is moved up: what comes of itself, and of the one below -/
theorem up_parts (x : Int) (p j : Nat) (hp : p < 64) : x * 2 ^ p / pw (j + 1) = 2 ^ p * (x / pw (j + 1)) + d x j / 2 ^ (64 - p) := by
  have h2 := p2_pos p
  have hj := pw_pos j
  have e1 : x = x % pw j + pw j * (x / pw j) := (Int.emod_add_mul_ediv _ _).symm
  have h0 := Int.emod_nonneg x (Int.ne_of_gt hj)
  have h1 := Int.emod_lt_of_pos x hj
  have e2 := div_step x j
  -- by the first j limbs
  have e3 : x * 2 ^ p / pw j = x % pw j * 2 ^ p / pw j + 2 ^ p * (x / pw j) := by
    have : x * 2 ^ p = x % pw j * 2 ^ p + pw j * (2 ^ p * (x / pw j)) := by
      conv => lhs; rw [e1, Int.add_mul, Int.mul_assoc (pw j), Int.mul_comm (x / pw j)]
    rw [this, Int.add_mul_ediv_left _ _ (Int.ne_of_gt hj)]
  have r0 : 0 ≤ x % pw j * 2 ^ p / pw j := Int.ediv_nonneg (Int.mul_nonneg h0 (Int.le_of_lt h2)) (Int.le_of_lt hj)
  have r1 : x % pw j * 2 ^ p / pw j < 2 ^ p := Int.ediv_lt_of_lt_mul hj (by
    rw [Int.mul_comm (2 ^ p)]
    exact Int.mul_lt_mul_of_pos_right h1 h2)
  rw [pw_succ, ← Int.ediv_ediv_of_nonneg (Int.le_of_lt hj), e3]
  generalize x % pw j * 2 ^ p / pw j = r at r0 r1
  rw [e2, Int.mul_add, ← p64 p (by omega)]
  have hq := p2_pos (64 - p)
  have e4 : r + (2 ^ p * d x j + 2 ^ p * (2 ^ p * 2 ^ (64 - p) * (x / pw (j + 1)))) = (r + 2 ^ p * d x j) + (2 ^ p * 2 ^ (64 - p)) * (2 ^ p * (x / pw (j + 1))) := by
    rw [Int.add_assoc]; congr 2
    simp only [Int.mul_left_comm]
  rw [e4, Int.add_mul_ediv_left _ _ (Int.ne_of_gt (Int.mul_pos h2 hq)), Int.add_comm, ← Int.ediv_ediv_of_nonneg (Int.le_of_lt h2), Int.add_mul_ediv_left _ _ (Int.ne_of_gt h2), Int.ediv_eq_zero_of_lt r0 r1, Int.zero_add]
  congr 2
  rw [p64 p (by omega), pw_succ]
/-- so the limb is a sum of a multiple of the power, and of what is below it -/
theorem up_limb (x : Int) (p j : Nat) (hp : p < 64) :
    bits .or .u64 (d x (j + 1) * 2 ^ p % 18446744073709551616) (d x j / 2 ^ (64 - p)) = d (x * 2 ^ p) (j + 1) := by
  have h2 := p2_pos p
  have hq := p2_pos (64 - p)
  have h64 := p64 p (by omega)
  have hlo := d_lo x j
  have hhi := d_hi x j
  have l0 : 0 ≤ d x j / 2 ^ (64 - p) := Int.ediv_nonneg hlo (Int.le_of_lt hq)
  have l1 : d x j / 2 ^ (64 - p) < 2 ^ p := Int.ediv_lt_of_lt_mul hq (by rw [h64]; exact hhi)
  have em : d x (j + 1) * 2 ^ p % 18446744073709551616 = 2 ^ p * (d x (j + 1) % 2 ^ (64 - p)) := by
    rw [← h64, Int.mul_comm (d x (j + 1)), Int.mul_emod_mul_of_pos _ _ h2]
  have m0 := Int.emod_nonneg (d x (j + 1)) (Int.ne_of_gt hq)
  have m1 := Int.emod_lt_of_pos (d x (j + 1)) hq
  have hsum : 2 ^ p * (d x (j + 1) % 2 ^ (64 - p)) + d x j / 2 ^ (64 - p) < 18446744073709551616 := by
    have : (2 : Int) ^ p * (d x (j + 1) % 2 ^ (64 - p) + 1) ≤ 2 ^ p * 2 ^ (64 - p) := Int.mul_le_mul_of_nonneg_left (by omega) (Int.le_of_lt h2)
    rw [h64, Int.mul_add, Int.mul_one] at this
    omega
  have hs0 : 0 ≤ 2 ^ p * (d x (j + 1) % 2 ^ (64 - p)) := Int.mul_nonneg (Int.le_of_lt h2) m0
  rw [or_addI _ _ (2 ^ p) p (d x (j + 1) % 2 ^ (64 - p)) rfl m0 em ⟨l0, l1⟩ (by rw [em]; exact hsum), em]
  show _ = x * 2 ^ p / pw (j + 1) % 18446744073709551616
  rw [up_parts x p j hp]
  have e5 : 2 ^ p * (x / pw (j + 1)) + d x j / 2 ^ (64 - p) = (2 ^ p * (d x (j + 1) % 2 ^ (64 - p)) + d x j / 2 ^ (64 - p)) + 18446744073709551616 * (x / pw (j + 1) / 2 ^ (64 - p)) := by
    have a1 := Int.emod_add_mul_ediv (x / pw (j + 1)) (2 ^ (64 - p))
    have a2 : d x (j + 1) % 2 ^ (64 - p) = x / pw (j + 1) % 2 ^ (64 - p) := by
      rw [d, ← h64, Int.emod_emod_of_dvd _ (Int.dvd_mul_left _ _)]
    rw [a2]
    conv => lhs; rw [← a1]
    rw [← h64, Int.mul_add, Int.mul_assoc]
    omega
  rw [e5, Int.add_mul_emod_self_left, Int.emod_eq_of_lt (by omega) hsum]

theorem down_div (x : Int) (n L j : Nat) (hL : n / 64 = L) : x / 2 ^ n / pw j = x / pw (j + L) / 2 ^ (n % 64) := by
  have e : (2 : Int) ^ n = pw L * 2 ^ (n % 64) := by
    have : n = 64 * L + n % 64 := by omega
    conv => lhs; rw [this, Int.pow_add, ← pw_two]
  rw [e, Int.ediv_ediv_of_nonneg (Int.mul_nonneg (Int.le_of_lt (pw_pos L)) (Int.le_of_lt (p2_pos _))), Int.ediv_ediv_of_nonneg (Int.le_of_lt (pw_pos _)), pw_add]
  congr 1
  rw [Int.mul_comm (pw L), Int.mul_assoc, Int.mul_comm (2 ^ _), Int.mul_comm (pw L)]
theorem or_low (x : Int) (p m : Nat) (hp : p < 64) :
    bits .or .u64 (d x m / 2 ^ p) (d x (m + 1) * 2 ^ (64 - p) % 18446744073709551616) = x / pw m / 2 ^ p % 18446744073709551616 := by
  have h2 := p2_pos p
  have hq := p2_pos (64 - p)
  have h64 := p64 p (by omega)
  have hlo := d_lo x m
  have hhi := d_hi x m
  have l0 : 0 ≤ d x m / 2 ^ p := Int.ediv_nonneg hlo (Int.le_of_lt h2)
  have l1 : d x m / 2 ^ p < 2 ^ (64 - p) := Int.ediv_lt_of_lt_mul h2 (by rw [Int.mul_comm, h64]; exact hhi)
  have em : d x (m + 1) * 2 ^ (64 - p) % 18446744073709551616 = 2 ^ (64 - p) * (d x (m + 1) % 2 ^ p) := by
    rw [← h64, Int.mul_comm (d x (m + 1)), Int.mul_comm (2 ^ p), Int.mul_emod_mul_of_pos _ _ hq]
  have m0 := Int.emod_nonneg (d x (m + 1)) (Int.ne_of_gt h2)
  have m1 := Int.emod_lt_of_pos (d x (m + 1)) h2
  have hsum : 2 ^ (64 - p) * (d x (m + 1) % 2 ^ p) + d x m / 2 ^ p < 18446744073709551616 := by
    have : (2 : Int) ^ (64 - p) * (d x (m + 1) % 2 ^ p + 1) ≤ 2 ^ (64 - p) * 2 ^ p := Int.mul_le_mul_of_nonneg_left (by omega) (Int.le_of_lt hq)
    rw [Int.mul_comm _ (2 ^ p), h64, Int.mul_add, Int.mul_one] at this
    omega
  have hs0 : 0 ≤ 2 ^ (64 - p) * (d x (m + 1) % 2 ^ p) := Int.mul_nonneg (Int.le_of_lt hq) m0
  have hcomm : ∀ a b : Int, bits .or .u64 a b = bits .or .u64 b a := by
    intro a b
    show IntKind.u64.wrap ((BitVec.ofInt 64 a ||| BitVec.ofInt 64 b).toNat : Int) = IntKind.u64.wrap ((BitVec.ofInt 64 b ||| BitVec.ofInt 64 a).toNat : Int)
    rw [BitVec.or_comm]
  rw [hcomm, or_addI _ _ (2 ^ (64 - p)) (64 - p) (d x (m + 1) % 2 ^ p) rfl m0 em ⟨l0, l1⟩ (by rw [em]; exact hsum), em]
  have e5 : x / pw m / 2 ^ p = (2 ^ (64 - p) * (d x (m + 1) % 2 ^ p) + d x m / 2 ^ p) + 18446744073709551616 * (x / pw (m + 1) / 2 ^ p) := by
    have a1 := Int.emod_add_mul_ediv (x / pw (m + 1)) (2 ^ p)
    have a2 : d x (m + 1) % 2 ^ p = x / pw (m + 1) % 2 ^ p := by
      rw [d, ← h64, Int.emod_emod_of_dvd _ (Int.dvd_mul_right _ _)]
    rw [a2, div_step x m]
    have a3 : d x m + 18446744073709551616 * (x / pw (m + 1)) = d x m + 2 ^ p * (2 ^ (64 - p) * (x / pw (m + 1))) := by rw [← Int.mul_assoc, h64]
    rw [a3, Int.add_mul_ediv_left _ _ (Int.ne_of_gt h2)]
    conv => lhs; rw [← a1]
    rw [← h64, Int.mul_add, Int.mul_assoc, Int.mul_left_comm (2 ^ (64 - p)) (2 ^ p)]
    omega
  rw [e5, Int.add_mul_emod_self_left, Int.emod_eq_of_lt (by omega) hsum]
/-- down: a limb is what is left of one, and what comes of the one above -/
theorem d_down (x : Int) (n L j : Nat) (hL : n / 64 = L) : d (x / 2 ^ n) j = bits .or .u64 (d x (j + L) / 2 ^ (n % 64)) (d x (j + L + 1) * 2 ^ (64 - n % 64) % 18446744073709551616) := by
  rw [or_low x (n % 64) (j + L) (by omega), d, down_div x n L j hL]
theorem d_down_top (x : Int) (n L j : Nat) (hL : n / 64 = L) (hx : x / pw (j + L + 1) = 0) : d (x / 2 ^ n) j = d x (j + L) / 2 ^ (n % 64) := by
  have h1 := div_step x (j + L)
  rw [hx, Int.mul_zero, Int.add_zero] at h1
  have h2 := p2_pos (n % 64)
  have h3 : d x (j + L) / 2 ^ (n % 64) ≤ d x (j + L) := Int.ediv_le_self _ (d_lo x (j + L))
  have h4 : 0 ≤ d x (j + L) / 2 ^ (n % 64) := Int.ediv_nonneg (d_lo x _) (Int.le_of_lt h2)
  have h5 := d_hi x (j + L)
  show x / 2 ^ n / pw j % 18446744073709551616 = _
  rw [down_div x n L j hL, h1, Int.emod_eq_of_lt h4 (by omega)]
theorem d_down_over (x : Int) (n L j : Nat) (hL : n / 64 = L) (hx : x / pw (j + L) = 0) : d (x / 2 ^ n) j = 0 := by
  show x / 2 ^ n / pw j % 18446744073709551616 = _
  rw [down_div x n L j hL, hx]; simp
theorem div_above (n m : Nat) (x : Int) (h : In n x) (hm : n ≤ m) : x / pw m = 0 := by
  obtain ⟨r, rfl⟩ : ∃ r, m = n + r := ⟨m - n, by omega⟩
  rw [pw_add, ← Int.ediv_ediv_of_nonneg (Int.le_of_lt (pw_pos n)), div_zero n x h, Int.zero_ediv]

/-- a number moved up, and down -/
def upI (x : Int) (n : Nat) : Int := x * 2 ^ n
def dnI (x : Int) (n : Nat) : Int := x / 2 ^ n
/-- three blocks: the argument, the result, what is laid -/
structure L3 (N : Nat) (T : TypeId) (A R : Array Value) (n : Nat) (w : World) : Prop where
  ha : w.heap[N]? = some (.cells A T (0, 0))
  ho : ∃ Z : Array Value, Z.size = n ∧ w.heap[N + 1]? = some (.cells Z T (0, 0))
  hr : w.heap[N + 1 + 1]? = some (.cells R T (0, 0))
theorem L3.start (w : World) (T : TypeId) (A Z R : Array Value) (n : Nat) (hZ : Z.size = n) : L3 w.heap.size T A R n (((w.alloc (.cells A T)).alloc (.cells Z T)).alloc (.cells R T)) := by
  refine ⟨arow_alloc _ (arow_alloc _ (heap_alloc_new w _)), ⟨Z, hZ, arow_alloc _ ?_⟩, ?_⟩
  · have := heap_alloc_new (w.alloc (.cells A T)) (.cells Z T)
    rwa [World.size_alloc] at this
  · have := heap_alloc_new ((w.alloc (.cells A T)).alloc (.cells Z T)) (.cells R T)
    rwa [World.size_alloc, World.size_alloc] at this
theorem L3.store {N : Nat} {T : TypeId} {A R : Array Value} {n : Nat} {w : World} (h : L3 N T A R n w) (k : Nat) (v : Value) : L3 N T A (R.setIfInBounds k v) n (w.setCell ⟨N + 1 + 1, k, none⟩ v) := by
  obtain ⟨ha, ⟨Z, hZ, ho⟩, hr⟩ := h
  exact ⟨arow_far _ (by omega) ha, ⟨Z, hZ, arow_far _ (by omega) ho⟩, arow_set _ hr⟩
theorem L3.drew {N : Nat} {T : TypeId} {A R : Array Value} {n : Nat} {w : World} (h : L3 N T A R n w) : L3 N T A R n w.drew := ⟨h.ha, h.ho, h.hr⟩
theorem L3.out {N : Nat} {T : TypeId} {A R : Array Value} {n : Nat} {w : World} (h : L3 N T A R n w) (i : Nat) (hi : i < n) : (∃ z, w.cell? ⟨N + 1, i, none⟩ = some z) ∧ w.frozen? ⟨N + 1, i, none⟩ = false := by
  obtain ⟨Z, hZ, ho⟩ := h.ho
  exact ⟨⟨Z[i], by rw [arow_cell ho]; simp [hZ, hi]⟩, arow_free ho i⟩
theorem zero4 (k : Nat) (h : k < 4) : (#[.int .u64 0, .int .u64 0, .int .u64 0, .int .u64 0] : Array Value)[k]? = some (.int .u64 0) := row4 (fun _ => 0) k h
theorem zero8 (k : Nat) (h : k < 8) : (#[.int .u64 0, .int .u64 0, .int .u64 0, .int .u64 0, .int .u64 0, .int .u64 0, .int .u64 0, .int .u64 0] : Array Value)[k]? = some (.int .u64 0) := row8 (fun _ => 0) k h
theorem up_start (x : Int) (n L : Nat) (R : Array Value) (m : Nat) (hL : n / 64 = L) (hz : ∀ k < m, R[k]? = some (.int .u64 0)) : Upto (upI x n) (min (L + 0) m) R := by
  intro j hj
  rw [hz j (by omega), upI, d_up_lo x n j (by omega)]
theorem up_first (x : Int) (n L : Nat) (hL : n / 64 = L) : d x 0 * 2 ^ (n % 64) % 18446744073709551616 = d (upI x n) L := by
  rw [upI, d_up_at x n L L hL (Nat.le_refl _), Nat.sub_self, d_up_0]
theorem up_other (x : Int) (n L q : Nat) (hL : n / 64 = L) : bits .or .u64 (d x (q + 1) * 2 ^ (n % 64) % 18446744073709551616) (d x q / 2 ^ (64 - n % 64)) = d (upI x n) (L + (q + 1)) := by
  rw [upI, d_up_at x n L _ hL (by omega), Nat.add_sub_cancel_left, up_limb x (n % 64) q (by omega)]
theorem Upto.min_next {z : Int} {k n : Nat} {R : Array Value} {v : Value} (h : Upto z (min k n) R) (hR : R.size = n) (hk : k < n) (hv : v = .int .u64 (d z k)) : Upto z (min (k + 1) n) (R.setIfInBounds k v) := by
  rw [hv, show min (k + 1) n = k + 1 by omega]
  rw [show min k n = k by omega] at h
  exact h.next hR hk
theorem set_twice (R : Array Value) (k : Nat) (a b : Value) : (R.setIfInBounds k a).setIfInBounds k b = R.setIfInBounds k b := by
  apply Array.toList_inj.1
  rw [Array.toList_setIfInBounds, Array.toList_setIfInBounds, Array.toList_setIfInBounds, List.set_set]

/-- the lowest j limbs are laid, noughts above -/
def Low (z : Int) (j n : Nat) (R : Array Value) : Prop := ∀ i, i < n → R[i]? = some (.int .u64 (if i < j then d z i else 0))
theorem Low.start {z : Int} {n : Nat} {R : Array Value} (h : ∀ k < n, R[k]? = some (.int .u64 0)) : Low z 0 n R := by
  intro i hi
  rw [h i hi, if_neg (by omega)]
theorem Low.next {z : Int} {j n : Nat} {R : Array Value} {v : Value} (h : Low z j n R) (hR : R.size = n) (hj : j < n) (hv : v = .int .u64 (d z j)) : Low z (j + 1) n (R.setIfInBounds j v) := by
  intro i hi
  by_cases e : i = j
  · subst e; rw [Array.getElem?_setIfInBounds_self_of_lt (by omega), hv, if_pos (by omega)]
  · rw [Array.getElem?_setIfInBounds_ne (by omega), h i hi]
    by_cases h1 : i < j
    · rw [if_pos h1, if_pos (by omega)]
    · rw [if_neg h1, if_neg (by omega)]
theorem Low.done {x : Int} {k L j n : Nat} {R : Array Value} (h : Low (dnI x k) j n R) (hx : In n x) (hL : k / 64 = L) (hd : n ≤ L + j) : Upto (dnI x k) n R := by
  intro i hi
  rw [h i hi]
  by_cases h1 : i < j
  · rw [if_pos h1]
  · rw [if_neg h1, dnI, d_down_over x k L i hL (div_above n (i + L) x hx (by omega))]
theorem down_top (x : Int) (n L j m : Nat) (hx : In m x) (hL : n / 64 = L) (h : m ≤ L + j + 1) : d x (L + j) / 2 ^ (n % 64) = d (dnI x n) j := by
  rw [dnI, d_down_top x n L j hL (div_above m _ x hx (by omega)), Nat.add_comm j L]
theorem down_other (x : Int) (n L j : Nat) (hL : n / 64 = L) : bits .or .u64 (d x (L + j) / 2 ^ (n % 64)) (d x (L + j + 1) * 2 ^ (64 - n % 64) % 18446744073709551616) = d (dnI x n) j := by
  rw [dnI, d_down x n L j hL, Nat.add_comm j L]
end Go.Proofs.Ytiglhgcckceikaa
