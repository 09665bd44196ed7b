/- Sorting by a heap. -/
import Derived.Test.YtmnklonoelpidaaGreatDoorJ10
import Derived.Sort.AssemblyPlain
namespace Go.Proofs.YtmnklonoelpidaaGreatDoor
open Go.RowKit Go.Sort

def ltN (x y : Nat) : Bool := decide (x < y)
theorem swoN : SWO ltN := ⟨fun x => by simp [ltN], fun x y z h1 h2 => by simp [ltN] at *; omega, fun x y z h1 h2 => by simp [ltN] at *; omega⟩
theorem sd_end {hi first root : Nat} {d : Array Nat} (h : hi ≤ 2 * root + 1) : siftDown ltN hi first root d = d := by rw [siftDown, dif_pos (by omega)]
theorem sd_right {hi first root : Nat} {d : Array Nat} (h : 2 * root + 2 < hi) (hc : d[first + 2 * root + 1]! < d[first + 2 * root + 2]!) :
    siftDown ltN hi first root d = if d[first + root]! < d[first + 2 * root + 2]! then siftDown ltN hi first (2 * root + 2) (swp d (first + root) (first + (2 * root + 2))) else d := by
  have e1 : first + (2 * root + 1) = first + 2 * root + 1 := by omega
  have e2 : first + (2 * root + 2) = first + 2 * root + 2 := by omega
  rw [siftDown, dif_neg (by omega), if_pos (by simp [ltN, e1, h]; exact hc)]
  by_cases g : d[first + root]! < d[first + 2 * root + 2]!
  · rw [if_pos g, if_neg (by simp [ltN, e2, g]), dif_pos (by omega)]
  · rw [if_neg g, if_pos (by simp [ltN, e2]; omega)]
theorem sd_no {hi first root : Nat} {d : Array Nat} (hc : ¬ (2 * root + 2 < hi ∧ d[first + 2 * root + 1]! < d[first + 2 * root + 2]!)) : ¬ (decide (2 * root + 1 + 1 < hi) && ltN d[first + (2 * root + 1)]! d[first + (2 * root + 1) + 1]!) = true := by
  intro h
  simp [ltN] at h
  exact hc ⟨h.1, by have := h.2; rwa [show first + (2 * root + 1) + 1 = first + 2 * root + 2 by omega, show first + (2 * root + 1) = first + 2 * root + 1 by omega] at this⟩
theorem sd_left {hi first root : Nat} {d : Array Nat} (h : 2 * root + 1 < hi) (hc : ¬ (2 * root + 2 < hi ∧ d[first + 2 * root + 1]! < d[first + 2 * root + 2]!)) :
    siftDown ltN hi first root d = if d[first + root]! < d[first + 2 * root + 1]! then siftDown ltN hi first (2 * root + 1) (swp d (first + root) (first + (2 * root + 1))) else d := by
  have e1 : first + (2 * root + 1) = first + 2 * root + 1 := by omega
  rw [siftDown, dif_neg (by omega), if_neg (sd_no hc)]
  by_cases g : d[first + root]! < d[first + 2 * root + 1]!
  · rw [if_pos g, if_neg (by simp [ltN, e1, g])]
  · rw [if_neg g, if_pos (by simp [ltN, e1]; omega)]
set_option maxRecDepth 100000 in
set_option maxHeartbeats 2000000 in
theorem sift_any (w0 : World) (b n cap : Nat) (c0 : Array Value) (hn : n ≤ 100000) (lo hi first : Nat) (d : Array Nat) (w : World) (hR : Rw w0 b c0 n d w) (hlo : lo ≤ hi) (hf : first + hi ≤ n) :
    Calls Tryz.prog 195 #[.slice (some ⟨b, 0, none⟩) n cap, .int .i64 (lo : Int), .int .i64 (hi : Int), .int .i64 (first : Int)] w fun e w' => e = .returned (.tuple #[]) ∧ Rw w0 b c0 n (siftDown ltN hi first lo d) w' := by
  have HR := Lib.hid hR
  have n1 : (n : Int) ≤ 100000 := by omega
  have n2 : (first : Int) + (hi : Int) ≤ (n : Int) := by omega
  clear hR
  go_enter Tryz.func195, Tryz.ntmps195
  go_wp2
  go_loopw [8] (fun v wr => ∃ (root : Nat) (dk : Array Nat), v = .int .i64 (root : Int) ∧ root ≤ hi ∧ Hid (Rw w0 b c0 n dk wr) ∧ Hid (siftDown ltN hi first root dk = siftDown ltN hi first lo d)) (fun v _ => hi - (intOf v).toNat)
  case atStart => exact ⟨lo, d, rfl, hlo, HR, Lib.hid rfl⟩
  case round =>
    obtain ⟨root, dk, rfl, hr, HD, HE⟩ := hrel
    by_cases h0 : hi ≤ 2 * root + 1
    · have h0z : (hi : Int) ≤ 2 * (root : Int) + 1 := by omega
      have HQ := Lib.hid (show dk = siftDown ltN hi first lo d from (sd_end h0).symm.trans HE.out)
      go_wp2
      go_end0
      exact ⟨rfl, HQ.out ▸ HD.out⟩
    · obtain ⟨c, hc⟩ : ∃ c, c = 2 * root + 1 := ⟨_, rfl⟩
      have hc1 : 2 * (root : Int) + 1 = (c : Int) := by omega
      have h0z : ¬ ((hi : Int) ≤ (c : Int)) := by omega
      obtain ⟨x0, hx0⟩ : ∃ x, x = first + root := ⟨_, rfl⟩
      obtain ⟨x1, hx1⟩ : ∃ x, x = first + 2 * root + 1 := ⟨_, rfl⟩
      have w0' : IntKind.i64.wrap ((first : Int) + (root : Int)) = (x0 : Int) := by rw [IntWalk.i64_in _ (by omega)]; omega
      have w1' : IntKind.i64.wrap ((first : Int) + (c : Int)) = (x1 : Int) := by rw [IntWalk.i64_in _ (by omega)]; omega
      have b0 : (0 : Int) ≤ (x0 : Int) ∧ (x0 : Int) < (n : Int) := by omega
      have b1 : (0 : Int) ≤ (x1 : Int) ∧ (x1 : Int) < (n : Int) := by omega
      obtain ⟨y0, hy0⟩ : ∃ y, y = dk[x0]! := ⟨_, rfl⟩
      obtain ⟨y1, hy1⟩ : ∃ y, y = dk[x1]! := ⟨_, rfl⟩
      have f0 : wr.cell? ⟨b, x0, none⟩ = some (.int .u64 (y0 : Int)) := by rw [hy0]; exact HD.out.cell x0 (by omega)
      have f1 : wr.cell? ⟨b, x1, none⟩ = some (.int .u64 (y1 : Int)) := by rw [hy1]; exact HD.out.cell x1 (by omega)
      have g0 := HD.out.free x0
      have g1 := HD.out.free x1
      have HY0 := Lib.hid hy0
      have HY1 := Lib.hid hy1
      clear hy0 hy1
      have HX0 := Lib.hid hx0
      have HX1 := Lib.hid hx1
      have HCc := Lib.hid hc
      by_cases h1 : 2 * root + 2 < hi
      · have hw2 : IntKind.i64.wrap ((c : Int) + 1) = ((c + 1 : Nat) : Int) := by rw [IntWalk.i64_in _ (by omega)]; omega
        obtain ⟨e, he⟩ : ∃ e, e = c + 1 := ⟨_, rfl⟩
        rw [← he] at hw2
        have h1z : (e : Int) < (hi : Int) := by omega
        have hce : (c : Int) + 1 = (e : Int) := by omega
        have w3' : IntKind.i64.wrap ((first : Int) + (e : Int)) = ((first + 2 * root + 2 : Nat) : Int) := by rw [IntWalk.i64_in _ (by omega)]; omega
        obtain ⟨x2, hx2⟩ : ∃ x, x = first + 2 * root + 2 := ⟨_, rfl⟩
        rw [← hx2] at w3'
        have w2' : IntKind.i64.wrap ((x1 : Int) + 1) = (x2 : Int) := by rw [IntWalk.i64_in _ (by omega)]; omega
        have b2 : (0 : Int) ≤ (x2 : Int) ∧ (x2 : Int) < (n : Int) := by omega
        obtain ⟨y2, hy2⟩ : ∃ y, y = dk[x2]! := ⟨_, rfl⟩
        have f2 : wr.cell? ⟨b, x2, none⟩ = some (.int .u64 (y2 : Int)) := by rw [hy2]; exact HD.out.cell x2 (by omega)
        have g2 := HD.out.free x2
        have HY2 := Lib.hid hy2
        clear hy2
        have HX2 := Lib.hid hx2
        have HEe := Lib.hid he
        clear hx0 hx1 hx2 hc he
        go_wp2
        go_quiet (first | (go_at_call 192; refine Calls.quiet_of_same ((less_any _ _ _).mono (fun e w' h => ⟨h.1, h.2.symm⟩))))
        go_wp2
        · have hlt12 : y1 < y2 := by omega
          have HD2 := Lib.hid (HD.out.drewN nq)
          generalize wr.drewN nq = v1 at *
          have k0 : v1.cell? ⟨b, x0, none⟩ = some (.int .u64 (y0 : Int)) := by rw [HY0.out]; exact HD2.out.cell x0 (by omega)
          have kX : v1.cell? ⟨b, x2, none⟩ = some (.int .u64 (y2 : Int)) := by rw [HY2.out]; exact HD2.out.cell x2 (by omega)
          have l0 := HD2.out.free x0
          have lX := HD2.out.free x2
          go_quiet (first | (go_at_call 192; refine Calls.quiet_of_same ((less_any _ _ _).mono (fun e w' h => ⟨h.1, h.2.symm⟩))))
          go_wp2
          · have hlt : ¬ y0 < y2 := by simpa using (‹(!decide (y0 < y2)) = true›)
            have hq := HE.out
            rw [sd_right (by omega) (by rw [← HX2.out, ← HX1.out, ← HY1.out, ← HY2.out]; exact hlt12), ← HX0.out, ← HX2.out, ← HY0.out, ← HY2.out, if_neg hlt] at hq
            exact bodyPost_ret (results_none rfl _ _ _) rfl ⟨rfl, hq ▸ HD2.out.drewN _⟩
          · have hlt : y0 < y2 := by simpa using (‹(!decide (y0 < y2)) = false›)
            have ne1 : ¬ x0 = x2 := by have := HX0.out; have := HX2.out; omega
            have ne2 : ¬ x2 = x0 := fun h => ne1 h.symm
            go_region
            all_goals go_wp2
            go_roundw
            case rel =>
              have hS := (HD2.out.drewN (nq + 1)).swap x0 x2 (by omega) (by omega)
              rw [← HY2.out, ← HY0.out] at hS
              refine ⟨2 * root + 2, swp dk x0 x2, by congr 1; omega, by omega, Lib.hid hS, Lib.hid ?_⟩
              have hq := HE.out
              rw [sd_right (by omega) (by rw [← HX2.out, ← HX1.out, ← HY1.out, ← HY2.out]; exact hlt12), ← HX0.out, ← HX2.out, ← HY0.out, ← HY2.out, if_pos hlt] at hq
              rw [show first + (2 * root + 2) = x2 by have := HX2.out; omega] at hq
              exact hq
            case measure => simp [intOf] <;> omega
        · have hlt12 : ¬ y1 < y2 := by omega
          have HD2 := Lib.hid (HD.out.drewN nq)
          generalize wr.drewN nq = v1 at *
          have k0 : v1.cell? ⟨b, x0, none⟩ = some (.int .u64 (y0 : Int)) := by rw [HY0.out]; exact HD2.out.cell x0 (by omega)
          have kX : v1.cell? ⟨b, x1, none⟩ = some (.int .u64 (y1 : Int)) := by rw [HY1.out]; exact HD2.out.cell x1 (by omega)
          have l0 := HD2.out.free x0
          have lX := HD2.out.free x1
          go_quiet (first | (go_at_call 192; refine Calls.quiet_of_same ((less_any _ _ _).mono (fun e w' h => ⟨h.1, h.2.symm⟩))))
          go_wp2
          · have hlt : ¬ y0 < y1 := by simpa using (‹(!decide (y0 < y1)) = true›)
            have hq := HE.out
            rw [sd_left (by omega) (by rw [← HX2.out, ← HX1.out, ← HY1.out, ← HY2.out]; exact fun h => hlt12 h.2), ← HX0.out, ← HX1.out, ← HY0.out, ← HY1.out, if_neg hlt] at hq
            exact bodyPost_ret (results_none rfl _ _ _) rfl ⟨rfl, hq ▸ HD2.out.drewN _⟩
          · have hlt : y0 < y1 := by simpa using (‹(!decide (y0 < y1)) = false›)
            have ne1 : ¬ x0 = x1 := by have := HX0.out; have := HX1.out; omega
            have ne2 : ¬ x1 = x0 := fun h => ne1 h.symm
            go_region
            all_goals go_wp2
            go_roundw
            case rel =>
              have hS := (HD2.out.drewN (nq + 1)).swap x0 x1 (by omega) (by omega)
              rw [← HY1.out, ← HY0.out] at hS
              refine ⟨2 * root + 1, swp dk x0 x1, by congr 1; omega, by omega, Lib.hid hS, Lib.hid ?_⟩
              have hq := HE.out
              rw [sd_left (by omega) (by rw [← HX2.out, ← HX1.out, ← HY1.out, ← HY2.out]; exact fun h => hlt12 h.2), ← HX0.out, ← HX1.out, ← HY0.out, ← HY1.out, if_pos hlt] at hq
              rw [show first + (2 * root + 1) = x1 by have := HX1.out; omega] at hq
              exact hq
            case measure => simp [intOf] <;> omega
      · obtain ⟨e, he⟩ : ∃ e, e = c + 1 := ⟨_, rfl⟩
        have hw2 : IntKind.i64.wrap ((c : Int) + 1) = (e : Int) := by rw [IntWalk.i64_in _ (by omega)]; omega
        have h1z : decide (e < hi) = false := by rw [decide_eq_false_iff_not]; omega
        clear he
        clear hx0 hx1 hc
        go_wp2
        go_quiet (first | (go_at_call 192; refine Calls.quiet_of_same ((less_any _ _ _).mono (fun e w' h => ⟨h.1, h.2.symm⟩))))
        go_wp2
        have HD2 := Lib.hid (HD.out.drewN nq)
        generalize wr.drewN nq = v1 at *
        have k0 : v1.cell? ⟨b, x0, none⟩ = some (.int .u64 (y0 : Int)) := by rw [HY0.out]; exact HD2.out.cell x0 (by omega)
        have kX : v1.cell? ⟨b, x1, none⟩ = some (.int .u64 (y1 : Int)) := by rw [HY1.out]; exact HD2.out.cell x1 (by omega)
        have l0 := HD2.out.free x0
        have lX := HD2.out.free x1
        go_quiet (first | (go_at_call 192; refine Calls.quiet_of_same ((less_any _ _ _).mono (fun e w' h => ⟨h.1, h.2.symm⟩))))
        go_wp2
        · have hlt : ¬ y0 < y1 := by simpa using (‹(!decide (y0 < y1)) = true›)
          have hq := HE.out
          rw [sd_left (by omega) (fun h => h1 h.1), ← HX0.out, ← HX1.out, ← HY0.out, ← HY1.out, if_neg hlt] at hq
          exact bodyPost_ret (results_none rfl _ _ _) rfl ⟨rfl, hq ▸ HD2.out.drewN _⟩
        · have hlt : y0 < y1 := by simpa using (‹(!decide (y0 < y1)) = false›)
          have ne1 : ¬ x0 = x1 := by have := HX0.out; have := HX1.out; omega
          have ne2 : ¬ x1 = x0 := fun h => ne1 h.symm
          go_region
          all_goals go_wp2
          go_roundw
          case rel =>
            have hS := (HD2.out.drewN (nq + 1)).swap x0 x1 (by omega) (by omega)
            rw [← HY1.out, ← HY0.out] at hS
            refine ⟨2 * root + 1, swp dk x0 x1, by congr 1; omega, by omega, Lib.hid hS, Lib.hid ?_⟩
            have hq := HE.out
            rw [sd_left (by omega) (fun h => h1 h.1), ← HX0.out, ← HX1.out, ← HY0.out, ← HY1.out, if_pos hlt] at hq
            rw [show first + (2 * root + 1) = x1 by have := HX1.out; omega] at hq
            exact hq
          case measure => simp [intOf] <;> omega
end Go.Proofs.YtmnklonoelpidaaGreatDoor
/- Sorting by a heap: the whole. -/
namespace Go.Proofs.YtmnklonoelpidaaGreatDoor
open Go.RowKit Go.Sort

set_option maxRecDepth 100000 in
set_option maxHeartbeats 2000000 in
theorem heap_any (w0 : World) (b n cap : Nat) (c0 : Array Value) (hn : n ≤ 100000) (lo hi : Nat) (d : Array Nat) (w : World) (hR : Rw w0 b c0 n d w) (hlo : lo < hi) (hh : hi ≤ n) :
    Calls Tryz.prog 187 #[.slice (some ⟨b, 0, none⟩) n cap, .int .i64 (lo : Int), .int .i64 (hi : Int)] w fun e w' => e = .returned (.tuple #[]) ∧ Rw w0 b c0 n (heapSort ltN d lo hi) w' := by
  obtain ⟨h, hh'⟩ : ∃ h, h = hi - lo := ⟨_, rfl⟩
  obtain ⟨m, hm⟩ : ∃ m, m = (h - 1) / 2 := ⟨_, rfl⟩
  have e1 : (hi : Int) - (lo : Int) = (h : Int) := by omega
  have e2 : ((h : Int) - 1) / 2 = (m : Int) := by omega
  have e3 : IntKind.i64.wrap (((h : Int) - 1).tdiv 2) = (m : Int) := by rw [Int.tdiv_eq_ediv_of_nonneg (by omega), e2, IntWalk.i64_in _ (by omega)]
  have HR := Lib.hid hR
  have HS := Lib.hid (show heapSort ltN d lo hi = heapPop ltN lo h (heapBuild ltN h lo (m + 1) d) by rw [heapSort, ← hh', hm])
  have n1 : (n : Int) ≤ 100000 := by omega
  have n2 : lo + h ≤ n := by omega
  have n3 : 0 < h := by omega
  have hmb : m < h := by omega
  clear hR hh' hm
  go_enter Tryz.func187, Tryz.ntmps187
  go_wp2
  clear e1 e2 e3
  go_loopw [9] (fun v wr => ∃ (k : Nat) (dk : Array Nat), v = .int .i64 ((k : Int) - 1) ∧ k ≤ m + 1 ∧ Hid (Rw w0 b c0 n dk wr) ∧ Hid (heapBuild ltN h lo k dk = heapBuild ltN h lo (m + 1) d)) (fun v _ => (intOf v + 1).toNat)
  case atStart => exact ⟨m + 1, d, by congr 1; omega, Nat.le_refl _, HR, Lib.hid rfl⟩
  case round =>
    obtain ⟨k, dk, rfl, hk, HD, HE⟩ := hrel
    cases k with
    | zero =>
      rw [show (((0 : Nat) : Int)) - 1 = -1 from rfl]
      have HE0 := Lib.hid (show dk = heapBuild ltN h lo (m + 1) d from HE.out)
      have HR3 := Lib.hid (show Rw w0 b c0 n (heapBuild ltN h lo (m + 1) d) wr from HE0.out ▸ HD.out)
      generalize heapBuild ltN h lo (m + 1) d = d1 at *
      clear HD HE HE0 HR hk
      go_wp2
      go_loopw [10] (fun v wr2 => ∃ (k : Nat) (dk : Array Nat), v = .int .i64 ((k : Int) - 1) ∧ k ≤ h ∧ Hid (Rw w0 b c0 n dk wr2) ∧ Hid (heapPop ltN lo k dk = heapPop ltN lo h d1)) (fun v _ => (intOf v + 1).toNat)
      case atStart => exact ⟨h, d1, rfl, Nat.le_refl _, HR3, Lib.hid rfl⟩
      case round =>
        obtain ⟨k, dk, rfl, hk, HD, HE⟩ := hrel
        cases k with
        | zero =>
          rw [show (((0 : Nat) : Int)) - 1 = -1 from rfl]
          have HE0 := Lib.hid (show dk = heapPop ltN lo h d1 from HE.out)
          go_wp2
          go_end0
          exact ⟨rfl, by rw [HS.out, ← HE0.out]; exact HD.out⟩
        | succ j =>
          have ej : (((j + 1 : Nat) : Int)) - 1 = (j : Int) := by omega
          rw [ej]
          obtain ⟨x, hx⟩ : ∃ x, x = lo + j := ⟨_, rfl⟩
          have wx : IntKind.i64.wrap ((lo : Int) + (j : Int)) = (x : Int) := by rw [IntWalk.i64_in _ (by omega)]; omega
          obtain ⟨y0, hy0⟩ : ∃ y, y = dk[lo]! := ⟨_, rfl⟩
          obtain ⟨y1, hy1⟩ : ∃ y, y = dk[x]! := ⟨_, rfl⟩
          have f0 : wr.cell? ⟨b, lo, none⟩ = some (.int .u64 (y0 : Int)) := by rw [hy0]; exact HD.out.cell lo (by omega)
          have f1 : wr.cell? ⟨b, x, none⟩ = some (.int .u64 (y1 : Int)) := by rw [hy1]; exact HD.out.cell x (by omega)
          have g0 := HD.out.free lo
          have g1 := HD.out.free x
          have b0 : (0 : Int) ≤ (lo : Int) ∧ (lo : Int) < (n : Int) := by omega
          have b1 : (0 : Int) ≤ (x : Int) ∧ (x : Int) < (n : Int) := by omega
          have hS := HD.out.drew.swap lo x (by omega) (by omega)
          rw [← hy0, ← hy1] at hS
          have HS1 := Lib.hid hS
          have hjb : (j : Int) ≤ 100000 := by omega
          have HC := Lib.hid (fun w hw => show Calls Tryz.prog 195 #[.slice (some ⟨b, 0, none⟩) n cap, .int .i64 0, .int .i64 (j : Int), .int .i64 (lo : Int)] w _ from sift_any w0 b n cap c0 hn 0 j lo (swp dk lo x) w hw (by omega) (by omega))
          have HEj := Lib.hid (show heapPop ltN lo j (siftDown ltN j lo 0 (swp dk lo x)) = heapPop ltN lo h d1 by rw [hx]; exact HE.out)
          have HX := Lib.hid hx
          have HYY := Lib.hid (And.intro hy0 hy1)
          clear hy0 hy1 hx hS ej
          by_cases hj0 : j = 0
          · have hx0 : x = lo := by have := HX.out; omega
            have hyy : y1 = y0 := by rw [HYY.out.2, HYY.out.1, hx0]
            subst hx0
            subst hyy
            clear hj0
            have HS2 := Lib.hid (show Rw w0 b c0 n (swp dk x x) (((wr.setCell ⟨b, x, none⟩ (.int .u64 (y1 : Int))).setCell ⟨b, x, none⟩ (.int .u64 (y1 : Int))).drew) by
              have := (HD.out.swap x x (by omega) (by omega)).drew
              rw [← HYY.out.1] at this
              exact this)
            go_wp2
            go_region
            go_wp2_with (go_at_call 195; (with_reducible refine (HC.out _ HS2.out).mono ?_); rintro e w2 ⟨rfl, hr2⟩; have HR2 := Lib.hid hr2; clear hr2)
            go_roundw
            case rel => exact ⟨j, _, by go_num, by omega, HR2, HEj⟩
            case measure => simp [intOf] <;> omega
          · have ne1 : ¬ lo = x := by have := HX.out; omega
            have ne2 : ¬ x = lo := fun h => ne1 h.symm
            go_wp2
            go_region
            go_wp2_with (go_at_call 195; refine (HC.out _ HS1.out).mono ?_; rintro e w2 ⟨rfl, hr2⟩; have HR2 := Lib.hid hr2; clear hr2)
            go_roundw
            case rel => exact ⟨j, _, by go_num, by omega, HR2, HEj⟩
            case measure => simp [intOf] <;> omega
    | succ j =>
      have ej : (((j + 1 : Nat) : Int)) - 1 = (j : Int) := by omega
      rw [ej]
      have HC := Lib.hid (sift_any w0 b n cap c0 hn j h lo dk wr HD.out (by omega) n2)
      have HEj := Lib.hid (show heapBuild ltN h lo j (siftDown ltN h lo j dk) = heapBuild ltN h lo (m + 1) d from HE.out)
      have hjb : (j : Int) ≤ 100000 := by omega
      clear ej
      go_wp2_with (go_at_call 195; refine HC.out.mono ?_; rintro e w2 ⟨rfl, hr2⟩; have HR2 := Lib.hid hr2; clear hr2)
      go_roundw
      case rel => exact ⟨j, _, by go_num, by omega, HR2, HEj⟩
      case measure => simp [intOf] <;> omega
end Go.Proofs.YtmnklonoelpidaaGreatDoor
/- Choosing a pivot. -/
namespace Go.Proofs.YtmnklonoelpidaaGreatDoor
open Go.RowKit Go.Sort

/-- block l holds how often two were exchanged -/
structure Sw (w0 : World) (l s : Nat) (w : World) : Prop where
  c : w.cell? ⟨l, 0, none⟩ = some (.int .i64 (s : Int))
  f : w.frozen? ⟨l, 0, none⟩ = false
  new : w0.heap.size ≤ l
/-- what order2 answers -/
structure Two (w0 : World) (b n l s i j : Nat) (c0 : Array Value) (d : Array Nat) (e : Ending) (w' : World) (x y s' : Nat) : Prop where
  ret : e = .returned (.tuple #[.int .i64 (x : Int), .int .i64 (y : Int)])
  xy : (x = i ∧ y = j) ∨ (x = j ∧ y = i)
  s : s' ≤ s + 1
  row : Rw w0 b c0 n d w'
  sw : Sw w0 l s' w'
theorem setCell_get {w : World} {l o : Nat} {v u : Value} (h : w.cell? ⟨l, o, none⟩ = some u) : (w.setCell ⟨l, o, none⟩ v).cell? ⟨l, o, none⟩ = some v := by
  exact World.cell?_setCell_same w _ v (by rw [h])
set_option maxRecDepth 100000 in
set_option maxHeartbeats 2000000 in
theorem order2_any (w0 : World) (b n cap : Nat) (c0 : Array Value) (d : Array Nat) (i j l s : Nat) (hi : i < n) (hj : j < n) (hs : s ≤ 1000) (w : World) (hR : Rw w0 b c0 n d w) (hS : Sw w0 l s w) :
    Calls Tryz.prog 201 #[.slice (some ⟨b, 0, none⟩) n cap, .int .i64 (i : Int), .int .i64 (j : Int), .pointer (some ⟨l, 0, none⟩)] w fun e w' => ∃ x y s', Two w0 b n l s i j c0 d e w' x y s' := by
  obtain ⟨y0, hy0⟩ : ∃ y, y = d[i]! := ⟨_, rfl⟩
  obtain ⟨y1, hy1⟩ : ∃ y, y = d[j]! := ⟨_, rfl⟩
  have f0 : w.cell? ⟨b, i, none⟩ = some (.int .u64 (y0 : Int)) := by rw [hy0]; exact hR.cell i hi
  have f1 : w.cell? ⟨b, j, none⟩ = some (.int .u64 (y1 : Int)) := by rw [hy1]; exact hR.cell j hj
  have b0 : (0 : Int) ≤ (i : Int) ∧ (i : Int) < (n : Int) := by omega
  have b1 : (0 : Int) ≤ (j : Int) ∧ (j : Int) < (n : Int) := by omega
  have fs := hS.c
  have gs := hS.f
  have HR := Lib.hid hR
  have HS := Lib.hid hS
  have hs1 : (s : Int) ≤ 1000 := by omega
  clear hy0 hy1 hR hS
  go_enter Tryz.func201, Tryz.ntmps201
  go_wp2
  go_quiet (first | (go_at_call 192; refine Calls.quiet_of_same ((less_any _ _ _).mono (fun e w' h => ⟨h.1, h.2.symm⟩))))
  have HR2 := Lib.hid (HR.out.drewN nq)
  have hs2 : (w.drewN nq).cell? ⟨l, 0, none⟩ = some (.int .i64 (s : Int)) := fs
  have gs2 : (w.drewN nq).frozen? ⟨l, 0, none⟩ = false := gs
  generalize w.drewN nq = v1 at *
  go_wp2
  · go_ret2
    refine ⟨j, i, s + 1, ⟨rfl, .inr ⟨rfl, rfl⟩, Nat.le_refl _, HR2.out.store HS.out.new 0 _, ⟨?_, ?_, HS.out.new⟩⟩⟩
    · rw [setCell_get hs2]; rfl
    · rw [World.frozen?_setCell]; exact gs2
  · go_ret2
    exact ⟨i, j, s, ⟨rfl, .inl ⟨rfl, rfl⟩, by omega, HR2.out, ⟨hs2, gs2, HS.out.new⟩⟩⟩
set_option maxRecDepth 100000 in
set_option maxHeartbeats 2000000 in
theorem median_any (w0 : World) (b n cap : Nat) (c0 : Array Value) (d : Array Nat) (i j k l s : Nat) (hi : i < n) (hj : j < n) (hk : k < n) (hs : s ≤ 900) (w : World) (hR : Rw w0 b c0 n d w) (hS : Sw w0 l s w) :
    Calls Tryz.prog 199 #[.slice (some ⟨b, 0, none⟩) n cap, .int .i64 (i : Int), .int .i64 (j : Int), .int .i64 (k : Int), .pointer (some ⟨l, 0, none⟩)] w fun e w' => ∃ x s' : Nat, e = .returned (.int .i64 (x : Int)) ∧ (x = i ∨ x = j ∨ x = k) ∧ s' ≤ s + 3 ∧ Rw w0 b c0 n d w' ∧ Sw w0 l s' w' := by
  have HC1 := Lib.hid (order2_any w0 b n cap c0 d i j l s hi hj (by omega) w hR hS)
  have HC2 := Lib.hid (fun x s' w (hx : x < n) (h1 : s' ≤ 1000) h2 h3 => order2_any w0 b n cap c0 d x k l s' hx hk h1 w h2 h3)
  have HC3 := Lib.hid (fun x y s' w (hx : x < n) (hy : y < n) (h1 : s' ≤ 1000) h2 h3 => order2_any w0 b n cap c0 d x y l s' hx hy h1 w h2 h3)
  clear hR hS
  go_enter Tryz.func199, Tryz.ntmps199
  go_wp2_with fail
  refine HC1.out.mono ?_
  rintro e w1 ⟨x1, y1, s1, h1⟩
  obtain rfl := h1.ret
  have H1 := Lib.hid h1
  have m1 : x1 < n ∧ y1 < n := by rcases h1.xy with h | h <;> omega
  have t1 := h1.s
  clear h1
  go_wp2_with fail
  refine (HC2.out y1 s1 w1 m1.2 (by omega) H1.out.row H1.out.sw).mono ?_
  rintro e w2 ⟨x2, y2, s2, h2⟩
  obtain rfl := h2.ret
  have H2 := Lib.hid h2
  have m2 : x2 < n ∧ y2 < n := by rcases h2.xy with h | h <;> omega
  have t2 := h2.s
  clear h2
  go_wp2_with fail
  refine (HC3.out x1 x2 s2 w2 m1.1 m2.1 (by omega) H2.out.row H2.out.sw).mono ?_
  rintro e w3 ⟨x3, y3, s3, h3⟩
  obtain rfl := h3.ret
  have H3 := Lib.hid h3
  have t3 := h3.s
  clear h3
  go_wp2
  go_ret
  refine ⟨y3, s3, rfl, ?_, by omega, H3.out.row, H3.out.sw⟩
  have a1 := H1.out.xy
  have a2 := H2.out.xy
  have a3 := H3.out.xy
  omega
theorem medadj_any (w0 : World) (b n cap : Nat) (c0 : Array Value) (d : Array Nat) (i l s : Nat) (h1 : 1 ≤ i) (hi : i + 1 < n) (hn : n ≤ 100000) (hs : s ≤ 900) (w : World) (hR : Rw w0 b c0 n d w) (hS : Sw w0 l s w) :
    Calls Tryz.prog 198 #[.slice (some ⟨b, 0, none⟩) n cap, .int .i64 (i : Int), .pointer (some ⟨l, 0, none⟩)] w fun e w' => ∃ x s' : Nat, e = .returned (.int .i64 (x : Int)) ∧ (i ≤ x + 1 ∧ x ≤ i + 1) ∧ s' ≤ s + 3 ∧ Rw w0 b c0 n d w' ∧ Sw w0 l s' w' := by
  obtain ⟨p, hp⟩ : ∃ p, p + 1 = i := ⟨i - 1, by omega⟩
  obtain ⟨q, hq⟩ : ∃ q, q = i + 1 := ⟨_, rfl⟩
  have e1 : (i : Int) - 1 = (p : Int) := by omega
  have e2 : (i : Int) + 1 = (q : Int) := by omega
  have HC := Lib.hid (median_any w0 b n cap c0 d p i q l s (by omega) (by omega) (by omega) hs w hR hS)
  have HQ := Lib.hid (And.intro hp hq)
  have hin : (i : Int) ≤ 100000 := by omega
  clear hR hS hp hq
  go_enter Tryz.func198, Tryz.ntmps198
  go_wp2_with fail
  refine HC.out.mono ?_
  rintro e w1 ⟨x, s1, rfl, hx, hs1, hR1, hS1⟩
  have HR1 := Lib.hid (And.intro hR1 hS1)
  clear hR1 hS1
  go_wp2
  go_ret
  have := HQ.out
  exact ⟨x, s1, rfl, ⟨by omega, by omega⟩, hs1, HR1.out.1, HR1.out.2⟩
theorem pivot_end (w0 : World) (b n : Nat) (c0 : Array Value) (d : Array Nat) (lo hi x : Nat) (h1 : lo ≤ x) (h2 : x < hi) (w : World) (hR : Rw w0 b c0 n d w) (t : Int) (ht : t = 0 ∨ t = 1 ∨ t = 2) : ∃ (x' : Nat) (h : Int), Ending.returned (.tuple #[.int .i64 (x : Int), .int .i64 t]) = .returned (.tuple #[.int .i64 (x' : Int), .int .i64 h]) ∧ lo ≤ x' ∧ x' < hi ∧ (h = 0 ∨ h = 1 ∨ h = 2) ∧ Rw w0 b c0 n d w := ⟨x, t, rfl, h1, h2, ht, hR⟩
set_option maxRecDepth 100000 in
set_option maxHeartbeats 2000000 in
theorem pivot_any (w0 : World) (b n cap : Nat) (c0 : Array Value) (hn : n ≤ 100000) (d : Array Nat) (lo hi : Nat) (hlo : lo + 12 < hi) (hh : hi ≤ n) (w : World) (hR : Rw w0 b c0 n d w) :
    Calls Tryz.prog 189 #[.slice (some ⟨b, 0, none⟩) n cap, .int .i64 (lo : Int), .int .i64 (hi : Int)] w fun e w' => ∃ (x : Nat) (h : Int), e = .returned (.tuple #[.int .i64 (x : Int), .int .i64 h]) ∧ lo ≤ x ∧ x < hi ∧ (h = 0 ∨ h = 1 ∨ h = 2) ∧ Rw w0 b c0 n d w' := by
  obtain ⟨m, hm⟩ : ∃ m, m = hi - lo := ⟨_, rfl⟩
  obtain ⟨q, hq⟩ : ∃ q, q = m / 4 := ⟨_, rfl⟩
  have e1 : (hi : Int) - (lo : Int) = (m : Int) := by omega
  have e2 : (m : Int) / 4 = (q : Int) := by omega
  have e3 : (lo : Int) + (q : Int) = ((lo + q : Nat) : Int) := by omega
  have e4 : (lo : Int) + (q : Int) * 2 = ((lo + 2 * q : Nat) : Int) := by omega
  have e5 : (lo : Int) + (q : Int) * 3 = ((lo + 3 * q : Nat) : Int) := by omega
  have hm8 : 8 ≤ (m : Int) := by omega
  have hl1 : lo + 2 * q < hi := by omega
  have hl2 : lo + 3 * q < hi := by omega
  have hq1 : 50 ≤ m → 12 ≤ q ∧ lo + 3 * q + 1 < hi := by omega
  obtain ⟨l, hl⟩ : ∃ l, l = w.heap.size := ⟨_, rfl⟩
  obtain ⟨wa, hwa⟩ : ∃ wa, w.alloc (.cells #[.int .i64 0] 3) = wa := ⟨_, rfl⟩
  have hha : wa.heap[l]? = some (.cells #[.int .i64 0] 3 (0, 0)) := by rw [← hwa]; exact alloc_new _ _ hl
  have hS : Sw w0 l 0 wa := ⟨by rw [lit_cell hha]; rfl, lit_free hha 0, by rw [hl]; exact hR.kept.size⟩
  have hRa : Rw w0 b c0 n d wa := by rw [← hwa]; exact hR.alloc _
  have HC := Lib.hid (fun p1 p2 p3 s wz (h1 : p1 < n) (h2 : p2 < n) (h3 : p3 < n) (hs : s ≤ 900) hR hS => median_any w0 b n cap c0 d p1 p2 p3 l s h1 h2 h3 hs wz hR hS)
  have HA := Lib.hid (fun i s wz (h1 : 1 ≤ i) (h2 : i + 1 < n) (hs : s ≤ 900) hR hS => medadj_any w0 b n cap c0 d i l s h1 h2 hn hs wz hR hS)
  have HL := Lib.hid hl
  have HWA := Lib.hid hwa
  have HRS := Lib.hid (And.intro hRa hS)
  have hlq : lo + q < lo + 2 * q ∧ lo + 2 * q < lo + 3 * q := by omega
  have HFIN := Lib.hid (fun x wz hR h1 h2 t ht => pivot_end w0 b n c0 d lo hi x h1 h2 wz hR t ht)
  obtain ⟨p1, hp1⟩ : ∃ p, p = lo + q := ⟨_, rfl⟩
  obtain ⟨p2, hp2⟩ : ∃ p, p = lo + 2 * q := ⟨_, rfl⟩
  obtain ⟨p3, hp3⟩ : ∃ p, p = lo + 3 * q := ⟨_, rfl⟩
  rw [← hp1] at e3
  rw [← hp2] at e4
  rw [← hp3] at e5
  have HPP := Lib.hid (And.intro hp1 (And.intro hp2 hp3))
  have g1 : lo < p1 ∧ p1 < p2 ∧ p2 < p3 ∧ p3 < hi ∧ (50 ≤ m → p3 + 1 < hi) := ⟨by omega, by omega, by omega, by omega, fun h => by have := hq1 h; omega⟩
  have HG1 := Lib.hid g1
  clear hm hq hl hwa hS hRa hR hha hq1 hl1 hl2 hlq hp1 hp2 hp3 g1
  by_cases h50 : 50 ≤ m
  · have hm50 : 50 ≤ (m : Int) := by omega
    go_enter Tryz.func189, Tryz.ntmps189
    go_wp2_with fail
    rw [HWA.out, ← HL.out]
    refine (HA.out p1 0 wa (by have := HG1.out; omega) (by have := HG1.out; omega) (by omega) HRS.out.1 HRS.out.2).mono ?_
    rintro e w1 ⟨x1, s1, rfl, hx1, hs1, hr1, hw1⟩
    have HR1 := Lib.hid (And.intro hr1 hw1)
    clear hr1 hw1
    go_wp2_with fail
    refine (HA.out p2 s1 w1 (by have := HG1.out; omega) (by have := HG1.out; omega) (by omega) HR1.out.1 HR1.out.2).mono ?_
    rintro e w2 ⟨x2, s2, rfl, hx2, hs2, hr2, hw2⟩
    have HR2 := Lib.hid (And.intro hr2 hw2)
    clear hr2 hw2
    go_wp2_with fail
    refine (HA.out p3 s2 w2 (by have := HG1.out; omega) (by have := HG1.out; have := HG1.out.2.2.2.2 h50; omega) (by omega) HR2.out.1 HR2.out.2).mono ?_
    rintro e w3 ⟨x3, s3, rfl, hx3, hs3, hr3, hw3⟩
    have HR3 := Lib.hid (And.intro hr3 hw3)
    have HXX := Lib.hid (And.intro hx1 (And.intro hx2 hx3))
    have gx : x1 < hi ∧ x2 < hi ∧ x3 < hi ∧ lo ≤ x1 ∧ lo ≤ x2 ∧ lo ≤ x3 := by
      have := HG1.out
      have := HG1.out.2.2.2.2 h50
      omega
    have HGX := Lib.hid gx
    clear hr3 hw3 hx1 hx2 hx3 gx
    go_wp2_with fail
    refine (HC.out x1 x2 x3 s3 w3 (by have := HGX.out; omega) (by have := HGX.out; omega) (by have := HGX.out; omega) (by omega) HR3.out.1 HR3.out.2).mono ?_
    rintro e w4 ⟨x, s4, rfl, hx, hs4, hR1, hS1⟩
    have c1 := hS1.c
    have HR4 := Lib.hid hR1
    have HX := Lib.hid (show lo ≤ x ∧ x < hi by have := HGX.out; rcases hx with rfl | rfl | rfl <;> omega)
    clear hR1 hS1 hx hs1 hs2 hs3
    by_cases hz : s4 = 0
    · subst hz
      rw [show (((0 : Nat) : Int)) = 0 from rfl] at c1
      go_wp2
      go_ret2
      exact HFIN.out x _ HR4.out HX.out.1 HX.out.2 1 (.inr (.inl rfl))
    · have z1 : ((s4 : Int) == 0) = false := by rw [beq_eq_false_iff_ne]; omega
      by_cases hz2 : s4 = 12
      · have z2 : ((s4 : Int) == 12) = true := by rw [hz2]; rfl
        clear hz hz2
        go_wp2
        go_ret2
        exact HFIN.out x _ HR4.out HX.out.1 HX.out.2 2 (.inr (.inr rfl))
      · have z2 : ((s4 : Int) == 12) = false := by rw [beq_eq_false_iff_ne]; omega
        clear hz hz2
        go_wp2
        go_ret2
        exact HFIN.out x _ HR4.out HX.out.1 HX.out.2 0 (.inl rfl)
  · have hm50 : ¬ 50 ≤ (m : Int) := by omega
    go_enter Tryz.func189, Tryz.ntmps189
    go_wp2_with fail
    rw [HWA.out, ← HL.out]
    refine (HC.out p1 p2 p3 0 wa (by have := HG1.out; omega) (by have := HG1.out; omega) (by have := HG1.out; omega) (by omega) HRS.out.1 HRS.out.2).mono ?_
    rintro e w1 ⟨x, s1, rfl, hx, hs1, hR1, hS1⟩
    have c1 := hS1.c
    have HR1 := Lib.hid hR1
    have HX := Lib.hid (show lo ≤ x ∧ x < hi by have := HG1.out; rcases hx with rfl | rfl | rfl <;> omega)
    clear hR1 hS1 hx
    by_cases hz : s1 = 0
    · subst hz
      rw [show (((0 : Nat) : Int)) = 0 from rfl] at c1
      go_wp2
      go_ret2
      exact HFIN.out x _ HR1.out HX.out.1 HX.out.2 1 (.inr (.inl rfl))
    · have z1 : ((s1 : Int) == 0) = false := by rw [beq_eq_false_iff_ne]; omega
      have z2 : ((s1 : Int) == 12) = false := by rw [beq_eq_false_iff_ne]; omega
      clear hz
      go_wp2
      go_ret2
      exact HFIN.out x _ HR1.out HX.out.1 HX.out.2 0 (.inl rfl)
end Go.Proofs.YtmnklonoelpidaaGreatDoor
/- Parting a row by a pivot: the numbers. -/
namespace Go.Proofs.YtmnklonoelpidaaGreatDoor
open Go.RowKit Go.Sort

/-- between lo and hi, the pivot p at lo: those ahead of i are left ones, those behind j are right ones -/
structure Prt (f : Nat → Bool) (lo hi p : Nat) (d0 : Array Nat) (i j : Nat) (dk : Array Nat) : Prop where
  size : dk.size = d0.size
  hs : hi ≤ d0.size
  perm : PermIn lo hi d0 dk
  piv : dk[lo]! = p
  left : ∀ t, lo < t → t < i → f dk[t]! = true
  right : ∀ t, j < t → t < hi → f dk[t]! = false
  li : lo < i
  ij : i ≤ j + 1
  jh : j < hi
theorem Prt.up {f : Nat → Bool} {lo hi p i j : Nat} {d0 dk : Array Nat} (h : Prt f lo hi p d0 i j dk) (hij : i ≤ j) (hl : f dk[i]! = true) : Prt f lo hi p d0 (i + 1) j dk :=
  ⟨h.size, h.hs, h.perm, h.piv, fun t h1 h2 => (Nat.lt_or_ge t i).elim (fun e => h.left t h1 e) (fun e => by rw [show t = i by omega]; exact hl), h.right, by have := h.li; omega, by omega, h.jh⟩
theorem Prt.down {f : Nat → Bool} {lo hi p i j : Nat} {d0 dk : Array Nat} (h : Prt f lo hi p d0 i j dk) (hij : i ≤ j) (hl : f dk[j]! = false) : Prt f lo hi p d0 i (j - 1) dk :=
  ⟨h.size, h.hs, h.perm, h.piv, h.left, fun t h1 h2 => (Nat.lt_or_ge j t).elim (fun e => h.right t e h2) (fun e => by rw [show t = j by omega]; exact hl), h.li, by have := h.li; omega, by have := h.jh; omega⟩
theorem Prt.swap {f : Nat → Bool} {lo hi p i j : Nat} {d0 dk : Array Nat} (h : Prt f lo hi p d0 i j dk) (hij : i ≤ j) (h1 : f dk[i]! = false) (h2 : f dk[j]! = true) : i < j ∧ Prt f lo hi p d0 (i + 1) (j - 1) (swp dk i j) := by
  have hne : i ≠ j := fun e => by rw [e, h2] at h1; cases h1
  have hl := h.li
  have hj := h.jh
  have hs := h.hs
  have hz := h.size
  have hg := fun k => swp_get dk (i := i) (j := j) (by omega) (by omega) k
  refine ⟨by omega, by rw [swp_size]; exact h.size, hs, permIn_trans _ _ _ _ _ h.perm (swp_permIn _ _ _ _ _ (by omega) (by omega) (by omega) (by omega) (by omega)), ?_, fun t t1 t2 => ?_, fun t t1 t2 => ?_, by omega, by omega, by omega⟩
  · rw [hg, if_neg (by omega), if_neg (by omega)]; exact h.piv
  · rw [hg, if_neg (by omega)]
    by_cases e : t = i
    · rw [if_pos e]; exact h2
    · rw [if_neg e]; exact h.left t t1 (by omega)
  · rw [hg]
    by_cases e : t = j
    · rw [if_pos e]; exact h1
    · rw [if_neg e, if_neg (by omega)]; exact h.right t (by omega) t2
/-- the pivot, brought between both -/
theorem Prt.last {f : Nat → Bool} {lo hi p i j : Nat} {d0 dk : Array Nat} (h : Prt f lo hi p d0 i j dk) (hij : j < i) :
    lo ≤ j ∧ PermIn lo hi d0 (swp dk j lo) ∧ (swp dk j lo)[j]! = p ∧ (∀ t, lo ≤ t → t < j → f (swp dk j lo)[t]! = true) ∧ (∀ t, j < t → t < hi → f (swp dk j lo)[t]! = false) := by
  have hl := h.li
  have hj := h.jh
  have hs := h.hs
  have hz := h.size
  have hq := h.ij
  have hg := fun k => swp_get dk (i := j) (j := lo) (by omega) (by omega) k
  refine ⟨by omega, permIn_trans _ _ _ _ _ h.perm (swp_permIn _ _ _ _ _ (by omega) (by omega) (by omega) (by omega) (by omega)), ?_, fun t t1 t2 => ?_, fun t t1 t2 => ?_⟩
  · rw [hg]
    by_cases e : j = lo
    · rw [if_pos e, e]; exact h.piv
    · rw [if_neg e, if_pos rfl]; exact h.piv
  · rw [hg]
    by_cases e : t = lo
    · rw [if_pos e]; exact h.left j (by omega) (by omega)
    · rw [if_neg e, if_neg (by omega)]; exact h.left t (by omega) (by omega)
  · rw [hg, if_neg (by omega), if_neg (by omega)]; exact h.right t t1 t2
/-- the beginning: the pivot is brought to lo -/
theorem Prt.start {f : Nat → Bool} {lo hi pv : Nat} {d : Array Nat} (h1 : lo ≤ pv) (h2 : pv < hi) (hs : hi ≤ d.size) : Prt f lo hi d[pv]! d (lo + 1) (hi - 1) (swp d lo pv) := by
  refine ⟨swp_size _ _ _, hs, swp_permIn _ _ _ _ _ (Nat.le_refl _) (by omega) h1 h2 hs, ?_, fun t t1 t2 => by omega, fun t t1 t2 => by omega, by omega, by omega, by omega⟩
  rw [swp_get d (by omega) (by omega)]
  by_cases e : lo = pv
  · rw [if_pos e, e]
  · rw [if_neg e, if_pos rfl]
theorem Srt.one (lo : Nat) (d : Array Nat) : Srt lo (lo + 1) d := fun p q h1 h2 h3 => by omega
theorem Srt.snoc {lo i : Nat} {d : Array Nat} (h : Srt lo i d) (hi : lo < i) (hl : d[i - 1]! ≤ d[i]!) : Srt lo (i + 1) d := fun p q h1 h2 h3 => by
  by_cases e : q = i
  · subst e
    by_cases e2 : p = q - 1
    · subst e2; exact hl
    · exact Nat.le_trans (h p (q - 1) h1 (by omega) (by omega)) hl
  · exact h p q h1 h2 (by omega)
end Go.Proofs.YtmnklonoelpidaaGreatDoor
