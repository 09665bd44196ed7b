/- Where nothing is needed; the depth; the reference's. -/
import Derived.Test.YtcobflhnphikaaaHo
namespace Go.Proofs.Ytcobflhnphikaaa
open Go.RowKit Go.Sort

theorem needs_none (ao : Option Addr) (cap : Nat) (L : List Nat) (d : Int) (w : World) (hN : Nums ao L w) (hn : L.length ≤ 100000) (hs : L = [] ∨ ∃ x ∈ L, standsB x d = false) :
    Calls Try.prog 19 #[.slice ao L.length cap, .int .i64 d] w fun e w' => e = .returned (.slice none 0 0) ∧ Below w.heap.size w w' := by
  obtain ⟨w1, hw1⟩ : ∃ w1, w.alloc (.cells #[.int .i64 d] 3) = w1 := ⟨_, rfl⟩
  have hN1 : Nums ao L w1 := by rw [← hw1]; exact hN.grown (World.grownBy_alloc _ _ none) (fun _ _ _ => by simp)
  have hc1 : w1.cell? ⟨w.heap.size, 0, none⟩ = some (.int .i64 d) := by rw [← hw1]; simp
  have HB := Lib.hid (show Below w.heap.size w w1 by rw [← hw1]; exact (Below.refl _ _).alloc (Nat.le_refl _) _)
  have HC := Lib.hid (contains_any ao cap L w.heap.size d w1 hN1 hn hc1)
  have hany : L = [] ∨ (L.any fun x => !standsB x d) = true := by
    rcases hs with h | ⟨x, hx, h⟩
    · exact .inl h
    · exact .inr (List.any_eq_true.2 ⟨x, hx, by simp [h]⟩)
  generalize (L.any fun x => !standsB x d) = y at *
  clear hN hN1 hs
  by_cases h0 : L = []
  · subst h0
    have hl0 : ((([] : List Nat).length : Int) == 0) = true := by simp
    go_enter Try.func19, Try.ntmps19
    go_wp2
    go_ret
    exact ⟨rfl, HB.out⟩
  · have hl0 : ((L.length : Int) == 0) = false := by rw [beq_eq_false_iff_ne]; have := List.length_pos_iff.2 h0; omega
    have hy : y = true := by rcases hany with h | h; exact absurd h h0; exact h
    subst hy
    clear hany
    go_enter Try.func19, Try.ntmps19
    go_wp2_with (go_at_call 27; refine HC.out.mono ?_; rintro e w2 ⟨rfl, rfl⟩)
    go_ret
    exact ⟨rfl, HB.out⟩

/-- the depth of a list of n -/
def dep (n : Nat) : Nat := Lib.bitLen (max n 1 - 1)
def depthV (n : Int) : Int := if n < 0 ∨ 65536 < n then -1 else (dep n.toNat : Int)
theorem depth_any (n : Int) (hn : -9223372036854775808 ≤ n ∧ n ≤ 9223372036854775807) (w : World) : Calls Try.prog 8 #[.int .i64 n] w fun e w' => e = .returned (.int .i64 (depthV n)) ∧ w = w' := by
  by_cases h1 : n < 0
  · have hd : depthV n = -1 := if_pos (.inl h1)
    rw [hd]
    clear hd
    go_enter Try.func8, Try.ntmps8
    go_wp2
    go_ret
    exact ⟨rfl, rfl⟩
  · by_cases h2 : 65536 < n
    · have hd : depthV n = -1 := if_pos (.inr h2)
      rw [hd]
      clear hd
      go_enter Try.func8, Try.ntmps8
      go_wp2
      go_ret
      exact ⟨rfl, rfl⟩
    · obtain ⟨m, rfl⟩ : ∃ m : Nat, n = (m : Int) := ⟨n.toNat, by omega⟩
      have hd : depthV (m : Int) = (dep m : Int) := by rw [depthV, if_neg (by omega)]; rfl
      obtain ⟨x, hx⟩ : ∃ x, max m 1 - 1 = x := ⟨_, rfl⟩
      have HC := Lib.hid (len_any x (by omega) w)
      rw [hd, dep, hx]
      have hmax : max (m : Int) 1 - 1 = (x : Int) := by omega
      clear hd hx
      generalize Lib.bitLen x = y at *
      go_enter Try.func8, Try.ntmps8
      go_wp2_with (go_at_call 22; refine HC.out.mono ?_; rintro e w2 ⟨rfl, rfl⟩)
      go_ret
      exact ⟨rfl, rfl⟩
end Go.Proofs.Ytcobflhnphikaaa
