/- Sorting by a heap: the whole. -/
import Derived.Test.YtcobflhnphikaaaIb
namespace Go.Proofs.Ytcobflhnphikaaa
open Go.RowKit Go.Sort

theorem siftDown_perm {hi first root n : Nat} {d : Array Nat} (h : d.size = n) : (siftDown ltN hi first root d).size = n := by
  induction root, d using siftDown.induct (lt := ltN) (hi := hi) (first := first) with
  | case1 root d h1 => rw [siftDown, dif_pos h1]; exact h
  | case2 root d h1 h2 h3 => rw [siftDown, dif_neg h1, if_pos h2, if_pos h3]; exact h
  | case3 root d h1 h2 h3 h4 ih => rw [siftDown, dif_neg h1, if_pos h2, if_neg h3, dif_pos h4]; exact ih (by rw [swp_size]; exact h)
  | case4 root d h1 h2 h3 h4 => rw [siftDown, dif_neg h1, if_pos h2, if_neg h3, dif_neg h4]; exact h
  | case5 root d h1 h2 h3 => rw [siftDown, dif_neg h1, if_neg h2, if_pos h3]; exact h
  | case6 root d h1 h2 h3 ih => rw [siftDown, dif_neg h1, if_neg h2, if_neg h3]; exact ih (by rw [swp_size]; exact h)
set_option maxRecDepth 100000 in
set_option maxHeartbeats 2000000 in
theorem heap_any (w0 : World) (b n cap : Nat) (c0 : Array Value) (hn : n ≤ 100000) (lo hi : Nat) (d : Array Nat) (w : World) (hR : Rw w0 b c0 n d w) (hlo : lo < hi) (hh : hi ≤ n) :
    Calls Try.prog 44 #[.slice (some ⟨b, 0, none⟩) n cap, .int .i64 (lo : Int), .int .i64 (hi : Int)] w fun e w' => e = .returned (.tuple #[]) ∧ Rw w0 b c0 n (heapSort ltN d lo hi) w' := by
  obtain ⟨h, hh'⟩ : ∃ h, h = hi - lo := ⟨_, rfl⟩
  obtain ⟨m, hm⟩ : ∃ m, m = (h - 1) / 2 := ⟨_, rfl⟩
  have e1 : (hi : Int) - (lo : Int) = (h : Int) := by omega
  have e2 : ((h : Int) - 1) / 2 = (m : Int) := by omega
  have e3 : IntKind.i64.wrap (((h : Int) - 1).tdiv 2) = (m : Int) := by rw [Int.tdiv_eq_ediv_of_nonneg (by omega), e2, IntWalk.i64_in _ (by omega)]
  have HR := Lib.hid hR
  have HS := Lib.hid (show heapSort ltN d lo hi = heapPop ltN lo h (heapBuild ltN h lo (m + 1) d) by rw [heapSort, ← hh', hm])
  have n1 : (n : Int) ≤ 100000 := by omega
  have n2 : lo + h ≤ n := by omega
  have n3 : 0 < h := by omega
  have hmb : m < h := by omega
  clear hR hh' hm
  go_enter Try.func44, Try.ntmps44
  go_wp2
  clear e1 e2 e3
  go_loopw [9] (fun v wr => ∃ (k : Nat) (dk : Array Nat), v = .int .i64 ((k : Int) - 1) ∧ k ≤ m + 1 ∧ Hid (Rw w0 b c0 n dk wr) ∧ Hid (heapBuild ltN h lo k dk = heapBuild ltN h lo (m + 1) d)) (fun v _ => (intOf v + 1).toNat)
  case atStart => exact ⟨m + 1, d, by congr 1; omega, Nat.le_refl _, HR, Lib.hid rfl⟩
  case round =>
    obtain ⟨k, dk, rfl, hk, HD, HE⟩ := hrel
    cases k with
    | zero =>
      rw [show (((0 : Nat) : Int)) - 1 = -1 from rfl]
      have HE0 := Lib.hid (show dk = heapBuild ltN h lo (m + 1) d from HE.out)
      have HR3 := Lib.hid (show Rw w0 b c0 n (heapBuild ltN h lo (m + 1) d) wr from HE0.out ▸ HD.out)
      generalize heapBuild ltN h lo (m + 1) d = d1 at *
      clear HD HE HE0 HR hk
      go_wp2
      go_loopw [10] (fun v wr2 => ∃ (k : Nat) (dk : Array Nat), v = .int .i64 ((k : Int) - 1) ∧ k ≤ h ∧ Hid (Rw w0 b c0 n dk wr2) ∧ Hid (heapPop ltN lo k dk = heapPop ltN lo h d1)) (fun v _ => (intOf v + 1).toNat)
      case atStart => exact ⟨h, d1, rfl, Nat.le_refl _, HR3, Lib.hid rfl⟩
      case round =>
        obtain ⟨k, dk, rfl, hk, HD, HE⟩ := hrel
        cases k with
        | zero =>
          rw [show (((0 : Nat) : Int)) - 1 = -1 from rfl]
          have HE0 := Lib.hid (show dk = heapPop ltN lo h d1 from HE.out)
          go_wp2
          go_end0
          exact ⟨rfl, by rw [HS.out, ← HE0.out]; exact HD.out⟩
        | succ j =>
          have ej : (((j + 1 : Nat) : Int)) - 1 = (j : Int) := by omega
          rw [ej]
          obtain ⟨x, hx⟩ : ∃ x, x = lo + j := ⟨_, rfl⟩
          have wx : IntKind.i64.wrap ((lo : Int) + (j : Int)) = (x : Int) := by rw [IntWalk.i64_in _ (by omega)]; omega
          obtain ⟨y0, hy0⟩ : ∃ y, y = dk[lo]! := ⟨_, rfl⟩
          obtain ⟨y1, hy1⟩ : ∃ y, y = dk[x]! := ⟨_, rfl⟩
          have f0 : wr.cell? ⟨b, lo, none⟩ = some (.int .u64 (y0 : Int)) := by rw [hy0]; exact HD.out.cell lo (by omega)
          have f1 : wr.cell? ⟨b, x, none⟩ = some (.int .u64 (y1 : Int)) := by rw [hy1]; exact HD.out.cell x (by omega)
          have g0 := HD.out.free lo
          have g1 := HD.out.free x
          have b0 : (0 : Int) ≤ (lo : Int) ∧ (lo : Int) < (n : Int) := by omega
          have b1 : (0 : Int) ≤ (x : Int) ∧ (x : Int) < (n : Int) := by omega
          have hS := HD.out.drew.swap lo x (by omega) (by omega)
          rw [← hy0, ← hy1] at hS
          have HS1 := Lib.hid hS
          have hjb : (j : Int) ≤ 100000 := by omega
          have HC := Lib.hid (fun w hw => show Calls Try.prog 52 #[.slice (some ⟨b, 0, none⟩) n cap, .int .i64 0, .int .i64 (j : Int), .int .i64 (lo : Int)] w _ from sift_any w0 b n cap c0 hn 0 j lo (swp dk lo x) w hw (by omega) (by omega))
          have HEj := Lib.hid (show heapPop ltN lo j (siftDown ltN j lo 0 (swp dk lo x)) = heapPop ltN lo h d1 by rw [hx]; exact HE.out)
          have HX := Lib.hid hx
          have HYY := Lib.hid (And.intro hy0 hy1)
          clear hy0 hy1 hx hS ej
          by_cases hj0 : j = 0
          · have hx0 : x = lo := by have := HX.out; omega
            have hyy : y1 = y0 := by rw [HYY.out.2, HYY.out.1, hx0]
            subst hx0
            subst hyy
            clear hj0
            have HS2 := Lib.hid (show Rw w0 b c0 n (swp dk x x) (((wr.setCell ⟨b, x, none⟩ (.int .u64 (y1 : Int))).setCell ⟨b, x, none⟩ (.int .u64 (y1 : Int))).drew) by
              have := (HD.out.swap x x (by omega) (by omega)).drew
              rw [← HYY.out.1] at this
              exact this)
            go_wp2
            go_region
            go_wp2_with (go_at_call 52; (with_reducible refine (HC.out _ HS2.out).mono ?_); rintro e w2 ⟨rfl, hr2⟩; have HR2 := Lib.hid hr2; clear hr2)
            go_roundw
            case rel => exact ⟨j, _, by go_num, by omega, HR2, HEj⟩
            case measure => simp [intOf] <;> omega
          · have ne1 : ¬ lo = x := by have := HX.out; omega
            have ne2 : ¬ x = lo := fun h => ne1 h.symm
            go_wp2
            go_region
            go_wp2_with (go_at_call 52; refine (HC.out _ HS1.out).mono ?_; rintro e w2 ⟨rfl, hr2⟩; have HR2 := Lib.hid hr2; clear hr2)
            go_roundw
            case rel => exact ⟨j, _, by go_num, by omega, HR2, HEj⟩
            case measure => simp [intOf] <;> omega
    | succ j =>
      have ej : (((j + 1 : Nat) : Int)) - 1 = (j : Int) := by omega
      rw [ej]
      have HC := Lib.hid (sift_any w0 b n cap c0 hn j h lo dk wr HD.out (by omega) n2)
      have HEj := Lib.hid (show heapBuild ltN h lo j (siftDown ltN h lo j dk) = heapBuild ltN h lo (m + 1) d from HE.out)
      have hjb : (j : Int) ≤ 100000 := by omega
      clear ej
      go_wp2_with (go_at_call 52; refine HC.out.mono ?_; rintro e w2 ⟨rfl, hr2⟩; have HR2 := Lib.hid hr2; clear hr2)
      go_roundw
      case rel => exact ⟨j, _, by go_num, by omega, HR2, HEj⟩
      case measure => simp [intOf] <;> omega
end Go.Proofs.Ytcobflhnphikaaa
