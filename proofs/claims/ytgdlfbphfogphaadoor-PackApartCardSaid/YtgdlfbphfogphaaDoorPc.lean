/- What is laid, as the reference answers it; the text of a thing. -/
import Derived.Test.YtgdlfbphfogphaaDoorPb
namespace Go.Proofs.YtgdlfbphfogphaaDoor
open Go.RowKit

/-- what a call lays, and the error -/
def laidP (s : Int) (n : Nat) (L : List UInt8) : List UInt8 × Int :=
  if s = 0 then (numP n, 0)
  else if s = 1 ∨ s = 2 then (if 65536 ≤ L.length then ([], 3) else (headP s L.length ++ L, 0))
  else if 9223372036854775808 ≤ n then ([], 2) else if 65536 ≤ n then ([], 3) else (headP s n, 0)

set_option maxRecDepth 100000 in
set_option maxHeartbeats 4000000 in
theorem pLaid_any (s : Int) (n : Nat) (L : List UInt8) (w : World) (hn : n < 18446744073709551616) (hL : L.length < 100000000) :
    Calls Tryd.prog 10 #[.int .i64 s, .int .u64 (n : Int), .string ⟨L.toArray⟩] w fun e w' => e = .returned (.tuple #[.string ⟨(laidP s n L).1.toArray⟩, .int .i64 (laidP s n L).2]) ∧ Below w.heap.size w w' := by
  by_cases s0 : s = 0
  · have HE := Lib.hid (show laidP s n L = (numP n, 0) by rw [laidP, if_pos s0])
    rw [HE.out]
    have HN := Lib.hid (fun w => pnum_any n w hn)
    subst s0
    go_enter Tryd.func10, Tryd.ntmps10
    go_wp2_with (go_at_call 26; refine (HN.out _).mono ?_; rintro e w1 ⟨rfl, hb⟩)
    refine bodyPost_ret (v := .tuple #[.string ⟨(numP n).toArray⟩, .int .i64 0]) (by simp [results, Tryd.results10, go_sem, *]) rfl ⟨rfl, hb⟩
  · by_cases s1 : s = 1 ∨ s = 2
    · by_cases hl : 65536 ≤ L.length
      · have HE := Lib.hid (show laidP s n L = ([], 3) by rw [laidP, if_neg s0, if_pos s1, if_pos hl])
        rw [HE.out]
        have l1 : (65536 : Int) ≤ (L.length : Int) := by omega
        rcases s1 with rfl | rfl
        all_goals
          go_enter Tryd.func10, Tryd.ntmps10
          go_wp2
          refine bodyPost_ret (v := .tuple #[.string ⟨#[]⟩, .int .i64 3]) (by simp [results, Tryd.results10, go_sem, *]) rfl ⟨rfl, Below.refl _ _⟩
      · have HE := Lib.hid (show laidP s n L = (headP s L.length ++ L, 0) by rw [laidP, if_neg s0, if_pos s1, if_neg hl])
        rw [HE.out]
        have l1 : ¬ (65536 : Int) ≤ (L.length : Int) := by omega
        have l2 : IntKind.u64.wrap (L.length : Int) = (L.length : Int) := by simp [IntKind.wrap, IntKind.bits, IntKind.signed]; omega
        have HH := Lib.hid (fun w => phead_any s L.length w (by omega))
        have hcat := run_cat (headP s L.length) L (by have := headP_len s L.length; omega)
        obtain ⟨H, hH⟩ : ∃ H, headP s L.length = H := ⟨_, rfl⟩
        rw [hH] at HH hcat ⊢
        clear hH
        rcases s1 with rfl | rfl
        all_goals
          go_enter Tryd.func10, Tryd.ntmps10
          go_wp2_with (go_at_call 27; refine (HH.out _).mono ?_; rintro e w1 ⟨rfl, hb⟩)
          refine bodyPost_ret (v := .tuple #[.string ⟨(H ++ L).toArray⟩, .int .i64 0]) (by simp [results, Tryd.results10, go_sem, *]) rfl ⟨rfl, hb⟩
    · have z0 : (s == 0) = false := beq_eq_false_iff_ne.2 s0
      have z1 : (s == 1) = false := beq_eq_false_iff_ne.2 (fun c => s1 (.inl c))
      have z2 : (s == 2) = false := beq_eq_false_iff_ne.2 (fun c => s1 (.inr c))
      by_cases hb : 9223372036854775808 ≤ n
      · have HE := Lib.hid (show laidP s n L = ([], 2) by rw [laidP, if_neg s0, if_neg s1, if_pos hb])
        rw [HE.out]
        have l1 : IntKind.i64.wrap (n : Int) = (n : Int) - 18446744073709551616 := by simp [IntKind.wrap, IntKind.bits, IntKind.signed]; omega
        have l2 : (n : Int) - 18446744073709551616 < 0 := by omega
        clear s0 s1 hb hn
        go_enter Tryd.func10, Tryd.ntmps10
        go_wp2
        refine bodyPost_ret (v := .tuple #[.string ⟨#[]⟩, .int .i64 2]) (by simp [results, Tryd.results10, go_sem, *]) rfl ⟨rfl, Below.refl _ _⟩
      · have l1 : IntKind.i64.wrap (n : Int) = (n : Int) := IntWalk.i64_in _ (by omega)
        have l2 : ¬ (n : Int) < 0 := by omega
        by_cases hl : 65536 ≤ n
        · have HE := Lib.hid (show laidP s n L = ([], 3) by rw [laidP, if_neg s0, if_neg s1, if_neg hb, if_pos hl])
          rw [HE.out]
          have l3 : (65536 : Int) ≤ (n : Int) := by omega
          clear s0 s1 hb hn hl
          go_enter Tryd.func10, Tryd.ntmps10
          go_wp2
          refine bodyPost_ret (v := .tuple #[.string ⟨#[]⟩, .int .i64 3]) (by simp [results, Tryd.results10, go_sem, *]) rfl ⟨rfl, Below.refl _ _⟩
        · have HE := Lib.hid (show laidP s n L = (headP s n, 0) by rw [laidP, if_neg s0, if_neg s1, if_neg hb, if_neg hl])
          rw [HE.out]
          have l3 : ¬ (65536 : Int) ≤ (n : Int) := by omega
          have HH := Lib.hid (fun w => phead_any s n w (by omega))
          clear s0 s1 hb hn hl
          go_enter Tryd.func10, Tryd.ntmps10
          go_wp2_with (go_at_call 27; refine (HH.out _).mono ?_; rintro e w1 ⟨rfl, hb⟩)
          refine bodyPost_ret (v := .tuple #[.string ⟨(headP s n).toArray⟩, .int .i64 0]) (by simp [results, Tryd.results10, go_sem, *]) rfl ⟨rfl, hb⟩
end Go.Proofs.YtgdlfbphfogphaaDoor
