/- Is there a leaf that does not stand? -/
import Derived.Test.YtcobflhnphikaaaHm
namespace Go.Proofs.Ytcobflhnphikaaa
open Go.RowKit Go.Sort

theorem lacksf_any (k : Nat) (b3 : Nat) (d : Int) (w : World) (hc : w.cell? ⟨b3, 0, none⟩ = some (.int .i64 d)) : Calls Try.prog 25 #[.int .u64 (k : Int), .pointer (some ⟨b3, 0, none⟩)] w fun e w' => e = .returned (.bool (!standsB k d)) ∧ w = w' := by
  have HC := Lib.hid (stands_any k d w)
  generalize standsB k d = s at *
  go_enter Try.func25, Try.ntmps25
  go_wp2_with (go_at_call 26; refine HC.out.mono ?_; rintro e w' ⟨rfl, rfl⟩)
  go_ret
  exact ⟨rfl, rfl⟩
set_option maxRecDepth 100000 in
set_option maxHeartbeats 1000000 in
theorem index_any (ao : Option Addr) (cap : Nat) (L : List Nat) (b3 : Nat) (d : Int) (w : World) (hN : Nums ao L w) (hn : L.length ≤ 100000) (hc : w.cell? ⟨b3, 0, none⟩ = some (.int .i64 d)) :
    Calls Try.prog 35 #[.slice ao L.length cap, .func (.func 25) #[] #[.pointer (some ⟨b3, 0, none⟩)]] w fun e w' => ∃ r : Int, e = .returned (.int .i64 r) ∧ (0 ≤ r ↔ ∃ x ∈ L, standsB x d = false) ∧ w = w' := by
  have HN := Lib.hid hN
  have HC := Lib.hid hc
  have n1 : (L.length : Int) ≤ 100000 := by omega
  clear hN hc
  go_enter Try.func35, Try.ntmps35
  go_wp2
  go_loopw [8] (fun i wr => ∃ k : Nat, k ≤ L.length ∧ i = .int .i64 (k : Int) ∧ Hid (∀ x ∈ L.take k, standsB x d = true) ∧ w = wr) (fun i _ => (L.length : Int).toNat - (intOf i).toNat)
  case atStart => exact ⟨0, Nat.zero_le _, rfl, Lib.hid (by simp), rfl⟩
  case round =>
    obtain ⟨k, hk, rfl, HA, rfl⟩ := hrel
    by_cases hke : k = L.length
    · have hl : ¬ (k : Int) < (L.length : Int) := by omega
      have HE := Lib.hid (show ¬ ∃ x ∈ L, standsB x d = false by
        rintro ⟨x, hx, hs⟩
        have := HA.out x (by rw [hke, List.take_length]; exact hx)
        rw [hs] at this; cases this)
      clear hk hke
      go_wp2
      go_ret
      exact ⟨-1, rfl, ⟨fun h => absurd h (by decide), fun h => absurd h HE.out⟩, rfl⟩
    · have hkl : k < L.length := by omega
      have hl : (k : Int) < (L.length : Int) := by omega
      have i0 : (0 : Int) ≤ (k : Int) := by omega
      obtain ⟨x, hx⟩ : ∃ x, L[k] = x := ⟨_, rfl⟩
      have HX := Lib.hid hx
      rcases HN.out with h0 | ⟨bb, off, rfl, hbb, hcell⟩
      · subst h0; simp at hkl
      · have hcx : w.cell? ⟨bb, off + k, none⟩ = some (.int .u64 (x : Int)) := by rw [← hx]; exact hcell k hkl
        have HP := Lib.hid (lacksf_any x b3 d w HC.out)
        have HM := Lib.hid (show x ∈ L by rw [← hx]; exact List.getElem_mem hkl)
        clear hx hcell hke
        cases hs : standsB x d with
        | true =>
          rw [hs] at HP
          have HS := Lib.hid hs
          clear hs
          go_wp2_with (go_at_call 25; refine HP.out.mono ?_; rintro e w' ⟨rfl, rfl⟩)
          go_roundw
          case rel =>
            refine ⟨k + 1, hkl, by go_num, Lib.hid ?_, trivial⟩
            rw [← List.take_append_getElem hkl]
            intro y hy
            rcases List.mem_append.1 hy with h | h
            · exact HA.out y h
            · simp at h; subst h; rw [HX.out]; exact HS.out
          case measure => simp [intOf] <;> omega
        | false =>
          rw [hs] at HP
          have HS := Lib.hid hs
          clear hs
          go_wp2_with (go_at_call 25; refine HP.out.mono ?_; rintro e w' ⟨rfl, rfl⟩)
          go_ret
          exact ⟨_, rfl, ⟨fun _ => ⟨x, HM.out, HS.out⟩, fun _ => i0⟩, rfl⟩
theorem contains_any (ao : Option Addr) (cap : Nat) (L : List Nat) (b3 : Nat) (d : Int) (w : World) (hN : Nums ao L w) (hn : L.length ≤ 100000) (hc : w.cell? ⟨b3, 0, none⟩ = some (.int .i64 d)) :
    Calls Try.prog 27 #[.slice ao L.length cap, .func (.func 25) #[] #[.pointer (some ⟨b3, 0, none⟩)]] w fun e w' => e = .returned (.bool (L.any fun x => !standsB x d)) ∧ w = w' := by
  have HC := Lib.hid (index_any ao cap L b3 d w hN hn hc)
  have he : ∀ r : Int, (0 ≤ r ↔ ∃ x ∈ L, standsB x d = false) → decide (r ≥ 0) = L.any fun x => !standsB x d := by
    intro r hr
    rw [Bool.eq_iff_iff]
    simp [hr]
  have HE := Lib.hid he
  generalize (L.any fun x => !standsB x d) = y at *
  clear he hN hc
  go_enter Try.func27, Try.ntmps27
  go_wp2_with (go_at_call 35; refine HC.out.mono ?_; rintro e w1 ⟨r, rfl, hr, rfl⟩; have HR := Lib.hid hr; clear hr)
  go_ret
  exact ⟨by rw [← HE.out _ HR.out]; rfl, rfl⟩
theorem levels_any (ao : Option Addr) (n cap : Nat) (d : Int) (w : World) : Calls Try.prog 28 #[.slice ao n cap, .int .i64 d] w fun e w' => e = .returned (.func (.func 36) #[] #[.pointer (some ⟨w.heap.size, 0, none⟩), .pointer (some ⟨w.heap.size + 1, 0, none⟩)]) ∧ w' = (w.alloc (.cells #[.slice ao n cap] 28)).alloc (.cells #[.int .i64 d] 3) := by
  go_enter Try.func28, Try.ntmps28
  go_wp2
  go_ret
  exact ⟨by simp, rfl⟩
end Go.Proofs.Ytcobflhnphikaaa
