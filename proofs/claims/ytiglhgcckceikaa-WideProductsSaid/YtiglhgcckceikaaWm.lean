/- Numbers of limbs: plain arithmetic on whole numbers in base two to the sixty-fourth. -/
import Derived.Test.YtiglhgcckceikaaProg
import Derived.WalkKit
namespace Go.Proofs.Ytiglhgcckceikaa

/-- a power of the base -/
def pw (k : Nat) : Int := 18446744073709551616 ^ k
/-- limb number i of a number -/
def d (z : Int) (i : Nat) : Int := z / pw i % 18446744073709551616
/-- the number that some limbs say -/
def sm (f : Nat → Int) : Nat → Int
  | 0 => 0
  | k + 1 => sm f k + pw k * f k

theorem pw_pos (k : Nat) : 0 < pw k := Int.pow_pos (by decide)
theorem pw_succ (k : Nat) : pw (k + 1) = pw k * 18446744073709551616 := by unfold pw; rw [Int.pow_succ]
theorem pw_add (j k : Nat) : pw (j + k) = pw j * pw k := by unfold pw; rw [Int.pow_add]
theorem d_lo (z : Int) (i : Nat) : 0 ≤ d z i := Int.emod_nonneg _ (by decide)
theorem d_hi (z : Int) (i : Nat) : d z i < 18446744073709551616 := Int.emod_lt_of_pos _ (by decide)

/-- the carry behind k limbs -/
def cy (f : Nat → Int) (k : Nat) : Int := sm f k / pw k
theorem cy_zero (f : Nat → Int) : cy f 0 = 0 := by simp [cy, sm]
theorem cy_succ (f : Nat → Int) (k : Nat) : cy f (k + 1) = (f k + cy f k) / 18446744073709551616 := by
  rw [cy, cy, sm, pw_succ, ← Int.ediv_ediv_of_nonneg (Int.le_of_lt (pw_pos k)), Int.add_mul_ediv_left _ _ (Int.ne_of_gt (pw_pos k)), Int.add_comm]
theorem sm_more (f : Nat → Int) (k : Nat) : ∀ m, ∃ r, sm f (k + m) = sm f k + pw k * r
  | 0 => ⟨0, by simp⟩
  | m + 1 => by
    obtain ⟨r, hr⟩ := sm_more f k m
    exact ⟨r + pw m * f (k + m), by rw [← Nat.add_assoc, sm, hr, pw_add, Int.mul_add, Int.mul_assoc, Int.add_assoc]⟩
theorem d_sm (f : Nat → Int) (k n : Nat) (h : k < n) : d (sm f n) k = (f k + cy f k) % 18446744073709551616 := by
  obtain ⟨m, rfl⟩ : ∃ m, n = k + 1 + m := ⟨n - k - 1, by omega⟩
  obtain ⟨r, hr⟩ := sm_more f (k + 1) m
  rw [d, hr, sm, pw_succ, Int.add_assoc, Int.mul_assoc, ← Int.mul_add, Int.add_mul_ediv_left _ _ (Int.ne_of_gt (pw_pos k)), ← cy, ← Int.add_assoc, Int.add_mul_emod_self_left, Int.add_comm]
theorem sm_mono (a : Nat → Int) (n : Nat) (h : ∀ i < n, 0 ≤ a i ∧ a i < 18446744073709551616) : ∀ k, k ≤ n → 0 ≤ sm a k ∧ sm a k < pw k
  | 0, _ => by simp [sm, pw]
  | k + 1, hk => by
    obtain ⟨h1, h2⟩ := sm_mono a n h k (by omega)
    obtain ⟨h3, h4⟩ := h k (by omega)
    have hp := pw_pos k
    rw [sm, pw_succ]
    have h5 : 0 ≤ pw k * a k := Int.mul_nonneg (by omega) h3
    have h6 : pw k * (a k + 1) ≤ pw k * 18446744073709551616 := Int.mul_le_mul_of_nonneg_left (by omega) (by omega)
    rw [Int.mul_add] at h6
    omega
theorem sm_add (a b : Nat → Int) : ∀ k, sm (fun i => a i + b i) k = sm a k + sm b k
  | 0 => by simp [sm]
  | k + 1 => by rw [sm, sm, sm, sm_add a b k, Int.mul_add]; omega
theorem sm_sub (a b : Nat → Int) : ∀ k, sm (fun i => a i - b i) k = sm a k - sm b k
  | 0 => by simp [sm]
  | k + 1 => by rw [sm, sm, sm, sm_sub a b k, Int.mul_sub]; omega
theorem cy_add (a b : Nat → Int) (n : Nat) (ha : ∀ i < n, 0 ≤ a i ∧ a i < 18446744073709551616) (hb : ∀ i < n, 0 ≤ b i ∧ b i < 18446744073709551616) (k : Nat) (hk : k ≤ n) :
    0 ≤ cy (fun i => a i + b i) k ∧ cy (fun i => a i + b i) k ≤ 1 := by
  obtain ⟨a1, a2⟩ := sm_mono a n ha k hk
  obtain ⟨b1, b2⟩ := sm_mono b n hb k hk
  have hp := pw_pos k
  rw [cy, sm_add]
  refine ⟨Int.ediv_nonneg (by omega) (by omega), ?_⟩
  have : (sm a k + sm b k) / pw k < 2 := Int.ediv_lt_of_lt_mul hp (by omega)
  omega
theorem cy_sub (a b : Nat → Int) (n : Nat) (ha : ∀ i < n, 0 ≤ a i ∧ a i < 18446744073709551616) (hb : ∀ i < n, 0 ≤ b i ∧ b i < 18446744073709551616) (k : Nat) (hk : k ≤ n) :
    -1 ≤ cy (fun i => a i - b i) k ∧ cy (fun i => a i - b i) k ≤ 0 := by
  obtain ⟨a1, a2⟩ := sm_mono a n ha k hk
  obtain ⟨b1, b2⟩ := sm_mono b n hb k hk
  have hp := pw_pos k
  rw [cy, sm_sub]
  refine ⟨Int.le_ediv_of_mul_le hp (by omega), ?_⟩
  have : (sm a k - sm b k) / pw k < 1 := Int.ediv_lt_of_lt_mul hp (by omega)
  omega
/-- a number's limbs say the number, as far as they go -/
theorem sm_d (z : Int) : ∀ k, sm (d z) k = z % pw k
  | 0 => by simp [sm, pw, Int.emod_one]
  | k + 1 => by
    have hp := pw_pos k
    rw [sm, sm_d z k, d, pw_succ]
    have h1 := Int.emod_add_mul_ediv z (pw k)
    have h2 := Int.emod_add_mul_ediv (z / pw k) 18446744073709551616
    have h3 : z = (z % pw k + pw k * (z / pw k % 18446744073709551616)) + (pw k * 18446744073709551616) * (z / pw k / 18446744073709551616) := by
      rw [Int.mul_assoc, Int.add_assoc, ← Int.mul_add, h2, h1]
    have h4 := Int.emod_nonneg z (Int.ne_of_gt hp)
    have h5 := Int.emod_lt_of_pos z hp
    have h6 := d_lo z k
    have h7 := d_hi z k
    unfold d at h6 h7
    generalize z / pw k % 18446744073709551616 = q at *
    generalize z / pw k / 18446744073709551616 = t at *
    generalize z % pw k = r at *
    have h8 : 0 ≤ pw k * q := Int.mul_nonneg (by omega) h6
    have h9 : pw k * (q + 1) ≤ pw k * 18446744073709551616 := Int.mul_le_mul_of_nonneg_left (by omega) (by omega)
    rw [Int.mul_add] at h9
    rw [h3, Int.add_mul_emod_self_left, Int.emod_eq_of_lt (by omega) (by omega)]
theorem d_of_sm (a : Nat → Int) (n : Nat) (h : ∀ i < n, 0 ≤ a i ∧ a i < 18446744073709551616) (k : Nat) (hk : k < n) : d (sm a n) k = a k := by
  rw [d_sm a k n hk]
  obtain ⟨h1, h2⟩ := sm_mono a n h k (by omega)
  rw [cy, Int.ediv_eq_zero_of_lt h1 h2, Int.add_zero, Int.emod_eq_of_lt (h k hk).1 (h k hk).2]
theorem d_mod (z : Int) (n i : Nat) (h : i < n) : d (z % pw n) i = d z i := by
  rw [← sm_d z n, d_of_sm (d z) n (fun i _ => ⟨d_lo z i, d_hi z i⟩) i h]
end Go.Proofs.Ytiglhgcckceikaa
