/- A guessed digit of a quotient, by the program: it is not too small. -/
import Derived.Test.YtiglhgcckceikaaWs2
import Derived.Test.YtiglhgcckceikaaWg4
import Derived.Test.YtiglhgcckceikaaWg8
import Derived.Deep.RegionWith
namespace Go.Proofs.Ytiglhgcckceikaa
open Go.RowKit

/-- room ahead of a number of four limbs -/
theorem room_bounds (b : Int) (s : Nat) (hb : In 4 b) (h0 : 0 < b) (hs : blN b.toNat + s = 256) : 57896044618658097711785492504343953926634992332820282019728792003956564819968 ≤ b * 2 ^ s ∧ In 4 (upI b s) ∧ s < 256 := by
  obtain ⟨n, rfl⟩ := Int.eq_ofNat_of_zero_le (Int.le_of_lt h0)
  rw [Int.toNat_natCast] at hs
  obtain ⟨b1, b2, b3⟩ := blN_bounds n (by omega)
  have e : (2 : Int) ^ s = ((2 ^ s : Nat) : Int) := by rw [Int.natCast_pow]; rfl
  have h2 := Nat.mul_le_mul_right (2 ^ s) b2
  rw [← Nat.pow_add, show blN n - 1 + s = 255 by omega] at h2
  have h3 := Nat.mul_lt_mul_of_pos_right b3 (Nat.two_pow_pos s)
  rw [← Nat.pow_add, hs] at h3
  have e4 : pw 4 = 115792089237316195423570985008687907853269984665640564039457584007913129639936 := by rfl
  unfold upI In
  rw [e, ← Int.natCast_mul, e4]
  refine ⟨by omega, ⟨by omega, by omega⟩, by omega⟩
/-- the quotient by the highest limbs is not below the quotient -/
theorem guess_ge (a b : Int) (ha : 0 ≤ a) (hb : 0 < b / pw 3) (hb0 : 0 < b) : a / b ≤ a / pw 3 / (b / pw 3) := by
  have hp := pw_pos 3
  have h1 := Int.ediv_mul_le b (Int.ne_of_gt hp)
  have h0 : 0 ≤ a / b := Int.ediv_nonneg ha (Int.le_of_lt hb0)
  refine Int.le_ediv_of_mul_le hb (Int.le_ediv_of_mul_le hp ?_)
  have h2 : a / b * (b / pw 3 * pw 3) ≤ a / b * b := Int.mul_le_mul_of_nonneg_left h1 h0
  have h3 := Int.ediv_mul_le a (Int.ne_of_gt hb0)
  rw [Int.mul_assoc]
  omega
/-- the guess -/
def gs (a b : Int) : Int := if d b 3 ≤ d a 4 then 18446744073709551615 else (d a 4 * 18446744073709551616 + d a 3) / d b 3
theorem top_b (b : Int) (h : In 4 b) : b / pw 3 = d b 3 := by
  have := div_step b 3
  rw [div_zero 4 b h, Int.mul_zero, Int.add_zero] at this
  exact this
theorem top_a (a : Int) (h : In 5 a) : a / pw 3 = d a 4 * 18446744073709551616 + d a 3 := by
  have h3 := div_step a 3
  have h4 := div_step a 4
  rw [div_zero 5 a h, Int.mul_zero, Int.add_zero] at h4
  rw [h3, h4]; omega
theorem upI_div (a b : Int) (s : Nat) : upI a s / upI b s = a / b := Int.mul_ediv_mul_of_pos_left _ _ (p2_pos s)
theorem gs_ok (a b : Int) (s : Nat) (ha : 0 ≤ a) (hb : In 4 b) (h0 : 0 < b) (hab : a < b * 18446744073709551616) (hs : blN b.toNat + s = 256) :
    a / b ≤ gs (upI a s) (upI b s) ∧ Limb (gs (upI a s) (upI b s)) ∧ (d (upI b s) 3 ≤ d (upI a s) 4 ∨ d (upI a s) 4 < d (upI b s) 3) ∧ In 5 (upI a s) := by
  obtain ⟨r1, r2, r3⟩ := room_bounds b s hb h0 hs
  have h2 := p2_pos s
  have ha1 : 0 ≤ upI a s := Int.mul_nonneg ha (Int.le_of_lt h2)
  have ha2 : In 5 (upI a s) := by
    refine ⟨ha1, ?_⟩
    have h3 : upI a s < upI b s * 18446744073709551616 := by
      unfold upI
      have : a * 2 ^ s < b * 18446744073709551616 * 2 ^ s := Int.mul_lt_mul_of_pos_right hab h2
      rw [Int.mul_assoc, Int.mul_comm 18446744073709551616, ← Int.mul_assoc] at this
      exact this
    have h4 := r2.2
    rw [pw_succ]
    omega
  have hq : a / b < 18446744073709551616 := Int.ediv_lt_of_lt_mul h0 (by rw [Int.mul_comm]; exact hab)
  have hB : 0 < upI b s / pw 3 := by
    have e3 : pw 3 = 6277101735386680763835789423207666416102355444464034512896 := by rfl
    have : (1 : Int) ≤ upI b s / pw 3 := Int.le_ediv_of_mul_le (pw_pos 3) (by rw [e3]; unfold upI; omega)
    omega
  have hb1 : 0 < upI b s := by unfold upI; omega
  have hg := guess_ge (upI a s) (upI b s) ha1 hB hb1
  rw [upI_div, top_b _ r2, top_a _ ha2] at hg
  rw [top_b _ r2] at hB
  have l0 := d_lo (upI a s) 4
  have l1 := d_lo (upI a s) 3
  have l2 := d_hi (upI a s) 3
  unfold gs
  by_cases c : d (upI b s) 3 ≤ d (upI a s) 4
  · rw [if_pos c]
    exact ⟨by omega, ⟨by decide, by decide⟩, .inl c, ha2⟩
  · rw [if_neg c]
    refine ⟨hg, ⟨Int.ediv_nonneg (by omega) (by omega), ?_⟩, .inr (by omega), ha2⟩
    refine Int.ediv_lt_of_lt_mul hB ?_
    have : (d (upI a s) 4 + 1) * 18446744073709551616 ≤ d (upI b s) 3 * 18446744073709551616 := Int.mul_le_mul_of_nonneg_right (by omega) (by decide)
    rw [Int.mul_comm 18446744073709551616]
    omega
theorem out8 {w : World} {N : Nat} {T : TypeId} {R : Array Value} (h : w.heap[N]? = some (.cells R T (0, 0))) (hR : R.size = 8) (i : Nat) (hi : i < 8) : (∃ z, w.cell? ⟨N, i, none⟩ = some z) ∧ w.frozen? ⟨N, i, none⟩ = false :=
  ⟨⟨R[i], by rw [arow_cell h]; simp [hR, hi]⟩, arow_free h i⟩
/-- a block that is laid whole: what it is then, and what others are -/
theorem set4 {w : World} {N : Nat} {T : TypeId} {a b c e v0 v1 v2 v3 : Value} (h : w.heap[N]? = some (.cells #[a, b, c, e] T (0, 0))) :
    ((((w.setCell ⟨N, 0, none⟩ v0).setCell ⟨N, 1, none⟩ v1).setCell ⟨N, 2, none⟩ v2).setCell ⟨N, 3, none⟩ v3).heap[N]? = some (.cells #[v0, v1, v2, v3] T (0, 0)) :=
  arow_set v3 (arow_set v2 (arow_set v1 (arow_set v0 h)))
theorem set8 {w : World} {N : Nat} {T : TypeId} {a0 a1 a2 a3 a4 a5 a6 a7 v0 v1 v2 v3 v4 v5 v6 v7 : Value} (h : w.heap[N]? = some (.cells #[a0, a1, a2, a3, a4, a5, a6, a7] T (0, 0))) :
    ((((((((w.setCell ⟨N, 0, none⟩ v0).setCell ⟨N, 1, none⟩ v1).setCell ⟨N, 2, none⟩ v2).setCell ⟨N, 3, none⟩ v3).setCell ⟨N, 4, none⟩ v4).setCell ⟨N, 5, none⟩ v5).setCell ⟨N, 6, none⟩ v6).setCell ⟨N, 7, none⟩ v7).heap[N]? = some (.cells #[v0, v1, v2, v3, v4, v5, v6, v7] T (0, 0)) := by
  have h2 := arow_set (k := 7) v7 (arow_set (k := 6) v6 (arow_set (k := 5) v5 (arow_set (k := 4) v4 (arow_set (k := 3) v3 (arow_set (k := 2) v2 (arow_set (k := 1) v1 (arow_set (k := 0) v0 h)))))))
  simp only [List.setIfInBounds_toArray, List.set_cons_zero, List.set_cons_succ] at h2
  exact h2
theorem far8 {w : World} {b c : Nat} {o : Option Obj} {v0 v1 v2 v3 v4 v5 v6 v7 : Value} (hne : c ≠ b) (h : w.heap[b]? = o) :
    ((((((((w.setCell ⟨c, 0, none⟩ v0).setCell ⟨c, 1, none⟩ v1).setCell ⟨c, 2, none⟩ v2).setCell ⟨c, 3, none⟩ v3).setCell ⟨c, 4, none⟩ v4).setCell ⟨c, 5, none⟩ v5).setCell ⟨c, 6, none⟩ v6).setCell ⟨c, 7, none⟩ v7).heap[b]? = o :=
  arow_far _ hne (arow_far _ hne (arow_far _ hne (arow_far _ hne (arow_far _ hne (arow_far _ hne (arow_far _ hne (arow_far _ hne h)))))))
theorem below_set4 {B : Nat} {a w : World} {N : Nat} {v0 v1 v2 v3 : Value} (h : Below B a w) (hN : B ≤ N) : Below B a ((((w.setCell ⟨N, 0, none⟩ v0).setCell ⟨N, 1, none⟩ v1).setCell ⟨N, 2, none⟩ v2).setCell ⟨N, 3, none⟩ v3) :=
  (((h.setCell hN _).setCell hN _).setCell hN _).setCell hN _
theorem below_set8 {B : Nat} {a w : World} {N : Nat} {v0 v1 v2 v3 v4 v5 v6 v7 : Value} (h : Below B a w) (hN : B ≤ N) :
    Below B a ((((((((w.setCell ⟨N, 0, none⟩ v0).setCell ⟨N, 1, none⟩ v1).setCell ⟨N, 2, none⟩ v2).setCell ⟨N, 3, none⟩ v3).setCell ⟨N, 4, none⟩ v4).setCell ⟨N, 5, none⟩ v5).setCell ⟨N, 6, none⟩ v6).setCell ⟨N, 7, none⟩ v7) :=
  (((((((h.setCell hN _).setCell hN _).setCell hN _).setCell hN _).setCell hN _).setCell hN _).setCell hN _).setCell hN _
end Go.Proofs.Ytiglhgcckceikaa
