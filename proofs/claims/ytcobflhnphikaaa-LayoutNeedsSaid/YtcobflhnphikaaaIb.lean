/- Sorting by a heap. -/
import Derived.Test.YtcobflhnphikaaaIa
import Derived.Sort.AssemblyPlain
namespace Go.Proofs.Ytcobflhnphikaaa
open Go.RowKit Go.Sort

def ltN (x y : Nat) : Bool := decide (x < y)
theorem swoN : SWO ltN := ⟨fun x => by simp [ltN], fun x y z h1 h2 => by simp [ltN] at *; omega, fun x y z h1 h2 => by simp [ltN] at *; omega⟩
theorem sd_end {hi first root : Nat} {d : Array Nat} (h : hi ≤ 2 * root + 1) : siftDown ltN hi first root d = d := by rw [siftDown, dif_pos (by omega)]
theorem sd_right {hi first root : Nat} {d : Array Nat} (h : 2 * root + 2 < hi) (hc : d[first + 2 * root + 1]! < d[first + 2 * root + 2]!) :
    siftDown ltN hi first root d = if d[first + root]! < d[first + 2 * root + 2]! then siftDown ltN hi first (2 * root + 2) (swp d (first + root) (first + (2 * root + 2))) else d := by
  have e1 : first + (2 * root + 1) = first + 2 * root + 1 := by omega
  have e2 : first + (2 * root + 2) = first + 2 * root + 2 := by omega
  rw [siftDown, dif_neg (by omega), if_pos (by simp [ltN, e1, h]; exact hc)]
  by_cases g : d[first + root]! < d[first + 2 * root + 2]!
  · rw [if_pos g, if_neg (by simp [ltN, e2, g]), dif_pos (by omega)]
  · rw [if_neg g, if_pos (by simp [ltN, e2]; omega)]
theorem sd_no {hi first root : Nat} {d : Array Nat} (hc : ¬ (2 * root + 2 < hi ∧ d[first + 2 * root + 1]! < d[first + 2 * root + 2]!)) : ¬ (decide (2 * root + 1 + 1 < hi) && ltN d[first + (2 * root + 1)]! d[first + (2 * root + 1) + 1]!) = true := by
  intro h
  simp [ltN] at h
  exact hc ⟨h.1, by have := h.2; rwa [show first + (2 * root + 1) + 1 = first + 2 * root + 2 by omega, show first + (2 * root + 1) = first + 2 * root + 1 by omega] at this⟩
theorem sd_left {hi first root : Nat} {d : Array Nat} (h : 2 * root + 1 < hi) (hc : ¬ (2 * root + 2 < hi ∧ d[first + 2 * root + 1]! < d[first + 2 * root + 2]!)) :
    siftDown ltN hi first root d = if d[first + root]! < d[first + 2 * root + 1]! then siftDown ltN hi first (2 * root + 1) (swp d (first + root) (first + (2 * root + 1))) else d := by
  have e1 : first + (2 * root + 1) = first + 2 * root + 1 := by omega
  rw [siftDown, dif_neg (by omega), if_neg (sd_no hc)]
  by_cases g : d[first + root]! < d[first + 2 * root + 1]!
  · rw [if_pos g, if_neg (by simp [ltN, e1, g])]
  · rw [if_neg g, if_pos (by simp [ltN, e1]; omega)]
set_option maxRecDepth 100000 in
set_option maxHeartbeats 2000000 in
theorem sift_any (w0 : World) (b n cap : Nat) (c0 : Array Value) (hn : n ≤ 100000) (lo hi first : Nat) (d : Array Nat) (w : World) (hR : Rw w0 b c0 n d w) (hlo : lo ≤ hi) (hf : first + hi ≤ n) :
    Calls Try.prog 52 #[.slice (some ⟨b, 0, none⟩) n cap, .int .i64 (lo : Int), .int .i64 (hi : Int), .int .i64 (first : Int)] w fun e w' => e = .returned (.tuple #[]) ∧ Rw w0 b c0 n (siftDown ltN hi first lo d) w' := by
  have HR := Lib.hid hR
  have n1 : (n : Int) ≤ 100000 := by omega
  have n2 : (first : Int) + (hi : Int) ≤ (n : Int) := by omega
  clear hR
  go_enter Try.func52, Try.ntmps52
  go_wp2
  go_loopw [8] (fun v wr => ∃ (root : Nat) (dk : Array Nat), v = .int .i64 (root : Int) ∧ root ≤ hi ∧ Hid (Rw w0 b c0 n dk wr) ∧ Hid (siftDown ltN hi first root dk = siftDown ltN hi first lo d)) (fun v _ => hi - (intOf v).toNat)
  case atStart => exact ⟨lo, d, rfl, hlo, HR, Lib.hid rfl⟩
  case round =>
    obtain ⟨root, dk, rfl, hr, HD, HE⟩ := hrel
    by_cases h0 : hi ≤ 2 * root + 1
    · have h0z : (hi : Int) ≤ 2 * (root : Int) + 1 := by omega
      have HQ := Lib.hid (show dk = siftDown ltN hi first lo d from (sd_end h0).symm.trans HE.out)
      go_wp2
      go_end0
      exact ⟨rfl, HQ.out ▸ HD.out⟩
    · obtain ⟨c, hc⟩ : ∃ c, c = 2 * root + 1 := ⟨_, rfl⟩
      have hc1 : 2 * (root : Int) + 1 = (c : Int) := by omega
      have h0z : ¬ ((hi : Int) ≤ (c : Int)) := by omega
      obtain ⟨x0, hx0⟩ : ∃ x, x = first + root := ⟨_, rfl⟩
      obtain ⟨x1, hx1⟩ : ∃ x, x = first + 2 * root + 1 := ⟨_, rfl⟩
      have w0' : IntKind.i64.wrap ((first : Int) + (root : Int)) = (x0 : Int) := by rw [IntWalk.i64_in _ (by omega)]; omega
      have w1' : IntKind.i64.wrap ((first : Int) + (c : Int)) = (x1 : Int) := by rw [IntWalk.i64_in _ (by omega)]; omega
      have b0 : (0 : Int) ≤ (x0 : Int) ∧ (x0 : Int) < (n : Int) := by omega
      have b1 : (0 : Int) ≤ (x1 : Int) ∧ (x1 : Int) < (n : Int) := by omega
      obtain ⟨y0, hy0⟩ : ∃ y, y = dk[x0]! := ⟨_, rfl⟩
      obtain ⟨y1, hy1⟩ : ∃ y, y = dk[x1]! := ⟨_, rfl⟩
      have f0 : wr.cell? ⟨b, x0, none⟩ = some (.int .u64 (y0 : Int)) := by rw [hy0]; exact HD.out.cell x0 (by omega)
      have f1 : wr.cell? ⟨b, x1, none⟩ = some (.int .u64 (y1 : Int)) := by rw [hy1]; exact HD.out.cell x1 (by omega)
      have g0 := HD.out.free x0
      have g1 := HD.out.free x1
      have HY0 := Lib.hid hy0
      have HY1 := Lib.hid hy1
      clear hy0 hy1
      have HX0 := Lib.hid hx0
      have HX1 := Lib.hid hx1
      have HCc := Lib.hid hc
      by_cases h1 : 2 * root + 2 < hi
      · have hw2 : IntKind.i64.wrap ((c : Int) + 1) = ((c + 1 : Nat) : Int) := by rw [IntWalk.i64_in _ (by omega)]; omega
        obtain ⟨e, he⟩ : ∃ e, e = c + 1 := ⟨_, rfl⟩
        rw [← he] at hw2
        have h1z : (e : Int) < (hi : Int) := by omega
        have hce : (c : Int) + 1 = (e : Int) := by omega
        have w3' : IntKind.i64.wrap ((first : Int) + (e : Int)) = ((first + 2 * root + 2 : Nat) : Int) := by rw [IntWalk.i64_in _ (by omega)]; omega
        obtain ⟨x2, hx2⟩ : ∃ x, x = first + 2 * root + 2 := ⟨_, rfl⟩
        rw [← hx2] at w3'
        have w2' : IntKind.i64.wrap ((x1 : Int) + 1) = (x2 : Int) := by rw [IntWalk.i64_in _ (by omega)]; omega
        have b2 : (0 : Int) ≤ (x2 : Int) ∧ (x2 : Int) < (n : Int) := by omega
        obtain ⟨y2, hy2⟩ : ∃ y, y = dk[x2]! := ⟨_, rfl⟩
        have f2 : wr.cell? ⟨b, x2, none⟩ = some (.int .u64 (y2 : Int)) := by rw [hy2]; exact HD.out.cell x2 (by omega)
        have g2 := HD.out.free x2
        have HY2 := Lib.hid hy2
        clear hy2
        have HX2 := Lib.hid hx2
        have HEe := Lib.hid he
        clear hx0 hx1 hx2 hc he
        go_wp2
        go_quiet (first | (go_at_call 49; refine Calls.quiet_of_same ((less_any _ _ _).mono (fun e w' h => ⟨h.1, h.2.symm⟩))))
        go_wp2
        · have hlt12 : y1 < y2 := by omega
          have HD2 := Lib.hid (HD.out.drewN nq)
          generalize wr.drewN nq = v1 at *
          have k0 : v1.cell? ⟨b, x0, none⟩ = some (.int .u64 (y0 : Int)) := by rw [HY0.out]; exact HD2.out.cell x0 (by omega)
          have kX : v1.cell? ⟨b, x2, none⟩ = some (.int .u64 (y2 : Int)) := by rw [HY2.out]; exact HD2.out.cell x2 (by omega)
          have l0 := HD2.out.free x0
          have lX := HD2.out.free x2
          go_quiet (first | (go_at_call 49; refine Calls.quiet_of_same ((less_any _ _ _).mono (fun e w' h => ⟨h.1, h.2.symm⟩))))
          go_wp2
          · have hlt : ¬ y0 < y2 := by simpa using (‹(!decide (y0 < y2)) = true›)
            have hq := HE.out
            rw [sd_right (by omega) (by rw [← HX2.out, ← HX1.out, ← HY1.out, ← HY2.out]; exact hlt12), ← HX0.out, ← HX2.out, ← HY0.out, ← HY2.out, if_neg hlt] at hq
            exact bodyPost_ret (results_none rfl _ _ _) rfl ⟨rfl, hq ▸ HD2.out.drewN _⟩
          · have hlt : y0 < y2 := by simpa using (‹(!decide (y0 < y2)) = false›)
            have ne1 : ¬ x0 = x2 := by have := HX0.out; have := HX2.out; omega
            have ne2 : ¬ x2 = x0 := fun h => ne1 h.symm
            go_region
            all_goals go_wp2
            go_roundw
            case rel =>
              have hS := (HD2.out.drewN (nq + 1)).swap x0 x2 (by omega) (by omega)
              rw [← HY2.out, ← HY0.out] at hS
              refine ⟨2 * root + 2, swp dk x0 x2, by congr 1; omega, by omega, Lib.hid hS, Lib.hid ?_⟩
              have hq := HE.out
              rw [sd_right (by omega) (by rw [← HX2.out, ← HX1.out, ← HY1.out, ← HY2.out]; exact hlt12), ← HX0.out, ← HX2.out, ← HY0.out, ← HY2.out, if_pos hlt] at hq
              rw [show first + (2 * root + 2) = x2 by have := HX2.out; omega] at hq
              exact hq
            case measure => simp [intOf] <;> omega
        · have hlt12 : ¬ y1 < y2 := by omega
          have HD2 := Lib.hid (HD.out.drewN nq)
          generalize wr.drewN nq = v1 at *
          have k0 : v1.cell? ⟨b, x0, none⟩ = some (.int .u64 (y0 : Int)) := by rw [HY0.out]; exact HD2.out.cell x0 (by omega)
          have kX : v1.cell? ⟨b, x1, none⟩ = some (.int .u64 (y1 : Int)) := by rw [HY1.out]; exact HD2.out.cell x1 (by omega)
          have l0 := HD2.out.free x0
          have lX := HD2.out.free x1
          go_quiet (first | (go_at_call 49; refine Calls.quiet_of_same ((less_any _ _ _).mono (fun e w' h => ⟨h.1, h.2.symm⟩))))
          go_wp2
          · have hlt : ¬ y0 < y1 := by simpa using (‹(!decide (y0 < y1)) = true›)
            have hq := HE.out
            rw [sd_left (by omega) (by rw [← HX2.out, ← HX1.out, ← HY1.out, ← HY2.out]; exact fun h => hlt12 h.2), ← HX0.out, ← HX1.out, ← HY0.out, ← HY1.out, if_neg hlt] at hq
            exact bodyPost_ret (results_none rfl _ _ _) rfl ⟨rfl, hq ▸ HD2.out.drewN _⟩
          · have hlt : y0 < y1 := by simpa using (‹(!decide (y0 < y1)) = false›)
            have ne1 : ¬ x0 = x1 := by have := HX0.out; have := HX1.out; omega
            have ne2 : ¬ x1 = x0 := fun h => ne1 h.symm
            go_region
            all_goals go_wp2
            go_roundw
            case rel =>
              have hS := (HD2.out.drewN (nq + 1)).swap x0 x1 (by omega) (by omega)
              rw [← HY1.out, ← HY0.out] at hS
              refine ⟨2 * root + 1, swp dk x0 x1, by congr 1; omega, by omega, Lib.hid hS, Lib.hid ?_⟩
              have hq := HE.out
              rw [sd_left (by omega) (by rw [← HX2.out, ← HX1.out, ← HY1.out, ← HY2.out]; exact fun h => hlt12 h.2), ← HX0.out, ← HX1.out, ← HY0.out, ← HY1.out, if_pos hlt] at hq
              rw [show first + (2 * root + 1) = x1 by have := HX1.out; omega] at hq
              exact hq
            case measure => simp [intOf] <;> omega
      · obtain ⟨e, he⟩ : ∃ e, e = c + 1 := ⟨_, rfl⟩
        have hw2 : IntKind.i64.wrap ((c : Int) + 1) = (e : Int) := by rw [IntWalk.i64_in _ (by omega)]; omega
        have h1z : decide (e < hi) = false := by rw [decide_eq_false_iff_not]; omega
        clear he
        clear hx0 hx1 hc
        go_wp2
        go_quiet (first | (go_at_call 49; refine Calls.quiet_of_same ((less_any _ _ _).mono (fun e w' h => ⟨h.1, h.2.symm⟩))))
        go_wp2
        have HD2 := Lib.hid (HD.out.drewN nq)
        generalize wr.drewN nq = v1 at *
        have k0 : v1.cell? ⟨b, x0, none⟩ = some (.int .u64 (y0 : Int)) := by rw [HY0.out]; exact HD2.out.cell x0 (by omega)
        have kX : v1.cell? ⟨b, x1, none⟩ = some (.int .u64 (y1 : Int)) := by rw [HY1.out]; exact HD2.out.cell x1 (by omega)
        have l0 := HD2.out.free x0
        have lX := HD2.out.free x1
        go_quiet (first | (go_at_call 49; refine Calls.quiet_of_same ((less_any _ _ _).mono (fun e w' h => ⟨h.1, h.2.symm⟩))))
        go_wp2
        · have hlt : ¬ y0 < y1 := by simpa using (‹(!decide (y0 < y1)) = true›)
          have hq := HE.out
          rw [sd_left (by omega) (fun h => h1 h.1), ← HX0.out, ← HX1.out, ← HY0.out, ← HY1.out, if_neg hlt] at hq
          exact bodyPost_ret (results_none rfl _ _ _) rfl ⟨rfl, hq ▸ HD2.out.drewN _⟩
        · have hlt : y0 < y1 := by simpa using (‹(!decide (y0 < y1)) = false›)
          have ne1 : ¬ x0 = x1 := by have := HX0.out; have := HX1.out; omega
          have ne2 : ¬ x1 = x0 := fun h => ne1 h.symm
          go_region
          all_goals go_wp2
          go_roundw
          case rel =>
            have hS := (HD2.out.drewN (nq + 1)).swap x0 x1 (by omega) (by omega)
            rw [← HY1.out, ← HY0.out] at hS
            refine ⟨2 * root + 1, swp dk x0 x1, by congr 1; omega, by omega, Lib.hid hS, Lib.hid ?_⟩
            have hq := HE.out
            rw [sd_left (by omega) (fun h => h1 h.1), ← HX0.out, ← HX1.out, ← HY0.out, ← HY1.out, if_pos hlt] at hq
            rw [show first + (2 * root + 1) = x1 by have := HX1.out; omega] at hq
            exact hq
          case measure => simp [intOf] <;> omega
end Go.Proofs.Ytcobflhnphikaaa
