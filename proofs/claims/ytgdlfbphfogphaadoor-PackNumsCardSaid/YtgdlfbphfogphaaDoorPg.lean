/- No thing's bytes begin another one's. -/
import Derived.Test.YtgdlfbphfogphaaDoorPf
namespace Go.Proofs.YtgdlfbphfogphaaDoor
open Go.RowKit

/-- may it be laid? -/
def okP (s : Int) (n : Nat) (L : List UInt8) : Prop := if s = 0 then True else if s = 1 ∨ s = 2 then L.length < 65536 else n < 65536
def mP (s : Int) (n : Nat) (L : List UInt8) : Nat := if s = 1 ∨ s = 2 then L.length else n
def bodyP (s : Int) (L : List UInt8) : List UInt8 := if s = 1 ∨ s = 2 then L else []
theorem laidP_ok (s : Int) (n : Nat) (L : List UInt8) : (laidP s n L).2 = 0 ↔ okP s n L := by
  unfold laidP okP
  by_cases h0 : s = 0
  · rw [if_pos h0, if_pos h0]; simp
  · rw [if_neg h0, if_neg h0]
    by_cases h1 : s = 1 ∨ s = 2
    · rw [if_pos h1, if_pos h1]
      by_cases h2 : 65536 ≤ L.length
      · rw [if_pos h2]; exact ⟨(fun c => by cases c), (fun c => by omega)⟩
      · rw [if_neg h2]; exact ⟨fun _ => by omega, fun _ => rfl⟩
    · rw [if_neg h1, if_neg h1]
      by_cases h2 : 9223372036854775808 ≤ n
      · rw [if_pos h2]; exact ⟨(fun c => by cases c), (fun c => by omega)⟩
      · rw [if_neg h2]
        by_cases h3 : 65536 ≤ n
        · rw [if_pos h3]; exact ⟨(fun c => by cases c), (fun c => by omega)⟩
        · rw [if_neg h3]; exact ⟨fun _ => by omega, fun _ => rfl⟩
theorem laidP_row (s : Int) (n : Nat) (L : List UInt8) (hs : Sorts s) (h : okP s n L) :
    (laidP s n L).1 = UInt8.ofNat (tR s (mP s n L)) :: (be (mP s n L) (kR s (mP s n L)) ++ bodyP s L) := by
  unfold okP at h
  unfold laidP mP bodyP
  by_cases h0 : s = 0
  · subst h0
    rw [if_pos rfl, if_neg (by decide), if_neg (by decide), List.append_nil]
    exact numP_row n
  · rw [if_neg h0] at h ⊢
    by_cases h1 : s = 1 ∨ s = 2
    · rw [if_pos h1] at h
      rw [if_pos h1, if_pos h1, if_pos h1, if_neg (by omega)]
      show headP s L.length ++ L = _
      rw [headP_row s L.length hs h0]
      rfl
    · rw [if_neg h1] at h
      rw [if_neg h1, if_neg h1, if_neg h1, if_neg (by omega), if_neg (by omega), List.append_nil]
      exact headP_row s n hs h0
theorem mP_in (s : Int) (n : Nat) (L : List UInt8) (hn : n < 18446744073709551616) (h : okP s n L) : kR s (mP s n L) = 0 ∨ mP s n L < 256 ^ kR s (mP s n L) := by
  refine row_in s _ (fun h0 => ?_) (fun h0 => ?_)
  · subst h0; exact hn
  · unfold okP at h
    rw [if_neg h0] at h
    unfold mP
    by_cases h1 : s = 1 ∨ s = 2
    · rw [if_pos h1] at h ⊢; exact h
    · rw [if_neg h1] at h ⊢; exact h
/-- what is laid of a thing is the beginning of what is laid of another one only if they are alike -/
theorem laidP_apart (s s2 : Int) (n n2 : Nat) (L L2 : List UInt8) (hs : Sorts s) (hs2 : Sorts s2) (h : okP s n L) (h2 : okP s2 n2 L2) (hn : n < 18446744073709551616) (hn2 : n2 < 18446744073709551616)
    (hp : (laidP s n L).1 <+: (laidP s2 n2 L2).1) : s = s2 ∧ if s = 1 ∨ s = 2 then L = L2 else n = n2 := by
  have i1 := mP_in s n L hn h
  have i2 := mP_in s2 n2 L2 hn2 h2
  rw [laidP_row s n L hs h, laidP_row s2 n2 L2 hs2 h2, List.cons_prefix_cons] at hp
  obtain ⟨ht, hp⟩ := hp
  have ht2 : tR s (mP s n L) = tR s2 (mP s2 n2 L2) := by
    have := congrArg UInt8.toNat ht
    rwa [UInt8.toNat_ofNat', UInt8.toNat_ofNat', Nat.mod_eq_of_lt (row_ok s _ hs).2.2.2, Nat.mod_eq_of_lt (row_ok s2 _ hs2).2.2.2] at this
  obtain ⟨e1, e2, e3⟩ := row_inj s s2 _ _ hs hs2 ht2
  rw [← e2] at hp i2
  obtain ⟨r, hr⟩ := hp
  rw [List.append_assoc] at hr
  obtain ⟨q1, q2⟩ := List.append_inj hr (by rw [be_length, be_length])
  have hm : mP s n L = mP s2 n2 L2 := by
    rcases i1 with i1 | i1
    · exact e3 i1
    · rcases i2 with i2 | i2
      · exact e3 i2
      · exact be_inj i1 i2 q1
  subst e1
  refine ⟨rfl, ?_⟩
  unfold mP at hm
  unfold bodyP at q2
  by_cases h1 : s = 1 ∨ s = 2
  · rw [if_pos h1] at q2 hm ⊢
    rw [if_pos h1] at q2 hm
    have hl := congrArg List.length q2
    rw [List.length_append] at hl
    have : r = [] := List.eq_nil_of_length_eq_zero (by omega)
    rw [this, List.append_nil] at q2
    exact q2
  · rw [if_neg h1] at hm ⊢
    rw [if_neg h1] at hm
    exact hm
/-- and alike ones are laid alike -/
theorem laidP_alike (s : Int) (n n2 : Nat) (L L2 : List UInt8) (h : if s = 1 ∨ s = 2 then L = L2 else n = n2) : laidP s n L = laidP s n2 L2 := by
  by_cases h1 : s = 1 ∨ s = 2
  · rw [if_pos h1] at h
    subst h
    unfold laidP
    have h0 : s ≠ 0 := by omega
    rw [if_neg h0, if_neg h0, if_pos h1, if_pos h1]
  · rw [if_neg h1] at h
    subst h
    unfold laidP
    rw [if_neg h1, if_neg h1]
theorem laidP_some (s : Int) (n : Nat) (L : List UInt8) (hs : Sorts s) (h : okP s n L) : (laidP s n L).1 ≠ [] := by
  rw [laidP_row s n L hs h]; exact List.cons_ne_nil _ _
end Go.Proofs.YtgdlfbphfogphaaDoor
