/- No digest, no signature. -/
import Derived.Test.YtpbbpkflljcklaaDoorJXa
import Derived.Test.YtpbbpkflljcklaaDoorJ5
namespace Go.Proofs.YtpbbpkflljcklaaDoor
open Go.RowKit

theorem wisno_any (x : (List UInt8)) (w : World) (_ : x.length ≤ 1000000000) : Calls Tryd.prog 22 #[.string ⟨x.toArray⟩] w fun e w' => e = .returned (.bool (decide (x.length ≠ 32))) ∧ w = w' := by
  have HE := Lib.hid (show decide (x.length ≠ 32) = ((x.length : Int) != 32) by
    by_cases h : x.length = 32
    · simp [h]
    · have : (x.length : Int) ≠ 32 := by omega
      simp [h, this])
  go_enter Tryd.func22, Tryd.ntmps22
  go_wp2
  go_ret
  exact ⟨by rw [HE.out]; rfl, rfl⟩
def wall32 (L : List (List UInt8)) : Bool := decide (∀ x ∈ L, x.length = 32)
set_option maxRecDepth 100000 in
set_option maxHeartbeats 1000000 in
theorem windex_any (ao : Option Addr) (cap : Nat) (L : List (List UInt8)) (w : World) (hN : Strs ao L w) (hn : L.length ≤ 100000) (hl : ∀ i (h : i < L.length), L[i].length ≤ 1000000000) :
    Calls Tryd.prog 60 #[.slice ao L.length cap, .func (.func 22) #[] #[]] w fun e w' => ∃ r : Int, e = .returned (.int .i64 r) ∧ (0 ≤ r ↔ ∃ x ∈ L, x.length ≠ 32) ∧ w = w' := by
  have HN := Lib.hid hN
  have HL := Lib.hid hl
  have n1 : (L.length : Int) ≤ 100000 := by omega
  clear hN hl
  go_enter Tryd.func60, Tryd.ntmps60
  go_wp2
  go_loopw [5, 8] (fun _ i wr => ∃ k : Nat, k ≤ L.length ∧ i = .int .i64 (k : Int) ∧ Hid (∀ x ∈ L.take k, x.length = 32) ∧ w = wr) (fun _ i _ => (L.length : Int).toNat - (intOf i).toNat)
  case atStart => exact ⟨0, Nat.zero_le _, rfl, Lib.hid (by simp), rfl⟩
  case round =>
    obtain ⟨k, hk, rfl, HA, rfl⟩ := hrel
    by_cases hke : k = L.length
    · have hl : ¬ (k : Int) < (L.length : Int) := by omega
      have HE := Lib.hid (show ¬ ∃ x ∈ L, x.length ≠ 32 by
        rintro ⟨x, hx, hs⟩
        exact hs (HA.out x (by rw [hke, List.take_length]; exact hx)))
      clear hk hke
      go_wp2
      go_ret
      exact ⟨-1, rfl, ⟨fun h => absurd h (by decide), fun h => absurd h HE.out⟩, rfl⟩
    · have hkl : k < L.length := by omega
      have hl : (k : Int) < (L.length : Int) := by omega
      have i0 : (0 : Int) ≤ (k : Int) := by omega
      obtain ⟨bb, off, rfl, hcx⟩ := HN.out.cell k hkl
      have hxl := HL.out k hkl
      obtain ⟨x, hx⟩ : ∃ x, L[k] = x := ⟨_, rfl⟩
      rw [hx] at hcx hxl
      have HP := Lib.hid (wisno_any x w hxl)
      have HM := Lib.hid (show x ∈ L by rw [← hx]; exact List.getElem_mem hkl)
      have HT := Lib.hid (show L.take k ++ [x] = L.take (k + 1) by rw [← hx, List.take_append_getElem hkl])
      clear hx hke hxl
      by_cases hs : x.length = 32
      · rw [decide_eq_false (fun h => h hs)] at HP
        have HS := Lib.hid hs
        clear hs
        go_wp2_with (go_at_call 22; refine HP.out.mono ?_; rintro e w' ⟨rfl, rfl⟩)
        go_roundw
        case rel =>
          refine ⟨k + 1, hkl, by go_num, Lib.hid ?_, trivial⟩
          rw [← HT.out]
          intro y hy
          rcases List.mem_append.1 hy with h | h
          · exact HA.out y h
          · simp at h; subst h; exact HS.out
        case measure => simp [intOf] <;> omega
      · rw [decide_eq_true hs] at HP
        have HS := Lib.hid hs
        clear hs
        go_wp2_with (go_at_call 22; refine HP.out.mono ?_; rintro e w' ⟨rfl, rfl⟩)
        go_ret
        exact ⟨_, rfl, ⟨fun _ => ⟨x, HM.out, HS.out⟩, fun _ => i0⟩, rfl⟩
theorem wcontains_any (ao : Option Addr) (cap : Nat) (L : List (List UInt8)) (w : World) (hN : Strs ao L w) (hn : L.length ≤ 100000) (hl : ∀ i (h : i < L.length), L[i].length ≤ 1000000000) :
    Calls Tryd.prog 45 #[.slice ao L.length cap, .func (.func 22) #[] #[]] w fun e w' => e = .returned (.bool (!wall32 L)) ∧ w = w' := by
  have HC := Lib.hid (windex_any ao cap L w hN hn hl)
  have HE := Lib.hid (show ∀ r : Int, (0 ≤ r ↔ ∃ x ∈ L, x.length ≠ 32) → decide (r ≥ 0) = !wall32 L from fun r hr => by
    rw [Bool.eq_iff_iff, wall32]
    simp [hr])
  generalize (!wall32 L) = y at *
  clear hN hl
  go_enter Tryd.func45, Tryd.ntmps45
  go_wp2_with (go_at_call 60; refine HC.out.mono ?_; rintro e w1 ⟨r, rfl, hr, rfl⟩; have HR := Lib.hid hr; clear hr)
  go_ret
  exact ⟨by rw [← HE.out _ HR.out]; rfl, rfl⟩
theorem wall_isSig {g : List (List UInt8)} (h : g.length = 67) : isSig g = wall32 g := by
  rw [Bool.eq_iff_iff, isSig, wall32]
  simp [h]
theorem wnosig_any (ao : Option Addr) (cap : Nat) (L : List (List UInt8)) (w : World) (hN : Strs ao L w) (hn : L.length ≤ 100000) (hl : ∀ i (h : i < L.length), L[i].length ≤ 1000000000) :
    Calls Tryd.prog 31 #[.slice ao L.length cap] w fun e w' => e = .returned (.bool (!isSig L)) ∧ w = w' := by
  have HC := Lib.hid (wcontains_any ao cap L w hN hn hl)
  by_cases h : L.length = 67
  · rw [wall_isSig h]
    have hi : (L.length : Int) = 67 := by omega
    generalize (!wall32 L) = y at *
    clear hN hl h
    go_enter Tryd.func31, Tryd.ntmps31
    go_wp2_with (go_at_call 45; refine HC.out.mono ?_; rintro e w1 ⟨rfl, rfl⟩)
    go_ret
    exact ⟨rfl, rfl⟩
  · have HE := Lib.hid (show isSig L = false by rw [isSig, Bool.and_eq_false_iff]; exact .inl (by simpa using h))
    have hi : ¬ (L.length : Int) = 67 := by omega
    rw [HE.out]
    clear hN hl h
    go_enter Tryd.func31, Tryd.ntmps31
    go_wp2
    go_ret
    exact ⟨rfl, rfl⟩
end Go.Proofs.YtpbbpkflljcklaaDoor
