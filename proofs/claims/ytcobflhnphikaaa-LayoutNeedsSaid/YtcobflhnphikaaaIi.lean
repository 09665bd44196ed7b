/- Sorting a part of a row by insertion. -/
import Derived.Test.YtcobflhnphikaaaIh
namespace Go.Proofs.Ytcobflhnphikaaa
open Go.RowKit Go.Sort

def SrtBut (lo i j : Nat) (d : Array Nat) : Prop := ∀ p q, lo ≤ p → p < q → q ≤ i → q ≠ j → d[p]! ≤ d[q]!
theorem Srt.startBut {lo i : Nat} {d : Array Nat} (h : Srt lo i d) : SrtBut lo i i d := fun p q h1 hpq hq hne => h p q h1 hpq (by omega)
theorem SrtBut.step {lo i j : Nat} {d : Array Nat} (h : SrtBut lo i (j + 1) d) (hlo : lo ≤ j) (hj : j + 1 ≤ i) (hi : i < d.size) (hl : d[j + 1]! < d[j]!) : SrtBut lo i j (swp d (j + 1) j) := by
  have e1 : (swp d (j + 1) j)[j + 1]! = d[j]! := swp_left d (j + 1) j (by omega) (by omega)
  have e2 : (swp d (j + 1) j)[j]! = d[j + 1]! := swp_right d (j + 1) j (by omega)
  have e3 : ∀ k, k ≠ j + 1 → k ≠ j → (swp d (j + 1) j)[k]! = d[k]! := fun k h1 h2 => swp_other d (j + 1) j k h1 h2
  intro p q hp hpq hq hne
  by_cases q1 : q = j + 1
  · subst q1
    rw [e1]
    by_cases p1 : p = j
    · subst p1; rw [e2]; omega
    · rw [e3 p (by omega) p1]; exact h p j hp (by omega) (by omega) (by omega)
  · rw [e3 q q1 hne]
    by_cases p1 : p = j + 1
    · subst p1; rw [e1]; exact h j q hlo (by omega) hq q1
    · by_cases p2 : p = j
      · subst p2; rw [e2]; exact h (p + 1) q (by omega) (by omega) hq q1
      · rw [e3 p p1 p2]; exact h p q hp hpq hq q1
theorem SrtBut.stop {lo i j : Nat} {d : Array Nat} (h : SrtBut lo i j d) (hs : j = lo ∨ d[j - 1]! ≤ d[j]!) : Srt lo (i + 1) d := by
  intro p q hp hpq hq
  by_cases e : q = j
  · subst e
    rcases hs with h0 | h0
    · omega
    · by_cases p1 : p = q - 1
      · subst p1; exact h0
      · exact Nat.le_trans (h p (q - 1) hp (by omega) (by omega) (by omega)) h0
  · exact h p q hp hpq (by omega) e
set_option maxRecDepth 100000 in
set_option maxHeartbeats 2000000 in
theorem insr_any (w0 : World) (b n cap : Nat) (c0 : Array Value) (hn : n ≤ 100000) (d : Array Nat) (lo hi : Nat) (hlo : lo ≤ hi) (hh : hi ≤ n) (w : World) (hR : Rw w0 b c0 n d w) :
    Calls Try.prog 43 #[.slice (some ⟨b, 0, none⟩) n cap, .int .i64 (lo : Int), .int .i64 (hi : Int)] w fun e w' => ∃ e' : Array Nat, e = .returned (.tuple #[]) ∧ PermIn lo hi d e' ∧ Srt lo hi e' ∧ Rw w0 b c0 n e' w' := by
  have HR := Lib.hid hR
  have n1 : (n : Int) ≤ 100000 := by omega
  clear hR
  go_enter Try.func43, Try.ntmps43
  go_wp2
  go_loopw [6] (fun vi wr => ∃ (i : Nat) (dk : Array Nat), vi = .int .i64 (i : Int) ∧ lo < i ∧ i ≤ hi + 1 ∧ Hid (PermIn lo hi d dk) ∧ Hid (Rw w0 b c0 n dk wr) ∧ Hid (Srt lo i dk)) (fun vi _ => hi + 1 - (intOf vi).toNat)
  case atStart => exact ⟨lo + 1, d, by go_num, by omega, by omega, Lib.hid (permIn_refl _ _ _), HR, Lib.hid (Srt.one lo d)⟩
  case round =>
    obtain ⟨i, dk, rfl, hi0, hib, HP, HD, HU⟩ := hrel
    by_cases hlt : i < hi
    · have hl : (i : Int) < (hi : Int) := by omega
      go_wp2
      go_loopw [7] (fun vj wr2 => ∃ (j : Nat) (dj : Array Nat), vj = .int .i64 (j : Int) ∧ lo ≤ j ∧ j ≤ i ∧ Hid (PermIn lo hi d dj) ∧ Hid (Rw w0 b c0 n dj wr2) ∧ Hid (SrtBut lo i j dj)) (fun vj _ => (intOf vj).toNat)
      case atStart => exact ⟨i, dk, rfl, by omega, Nat.le_refl _, HP, HD, Lib.hid HU.out.startBut⟩
      case round =>
        obtain ⟨j, dj, rfl, hjl, hji, HPj, HJ, HB⟩ := hrel
        obtain ⟨G, hG⟩ : ∃ G : Nat → Nat, ∀ t, G t = dj[t]! := ⟨fun t => dj[t]!, fun _ => rfl⟩
        have hcw : ∀ t, t < n → wr.cell? ⟨b, t, none⟩ = some (.int .u64 (G t : Int)) := fun t ht => by rw [hG]; exact HJ.out.cell t ht
        have hfw : ∀ t, t < n → wr.frozen? ⟨b, t, none⟩ = false := fun t ht => HJ.out.free t
        have HG := Lib.hid hG
        clear hG
        go_wp2
        by_cases hja : lo < j
        · have hja' : (lo : Int) < (j : Int) := by omega
          have jn : j < n := by omega
          have jn1 : j - 1 < n := by omega
          go_quiet (first | (go_at_call 49; refine Calls.quiet_of_same ((less_any _ _ _).mono (fun e w' h => ⟨h.1, h.2.symm⟩))))
          go_wp2
          · have hlt2 : G j < G (j - 1) := by omega
            go_region
            all_goals go_wp2
            go_roundw
            case rel =>
              obtain ⟨m, rfl⟩ : ∃ m, j = m + 1 := ⟨j - 1, by omega⟩
              rw [show m + 1 - 1 = m from rfl] at hlt2
              have hz := HJ.out.size
              have hS := (HJ.out.drewN (nq + 1)).swap (m + 1) m (by omega) (by omega)
              rw [← HG.out, ← HG.out] at hS
              exact ⟨m, swp dj (m + 1) m, by congr 1; omega, by omega, by omega, Lib.hid (permIn_trans _ _ _ _ _ HPj.out (swp_permIn _ _ _ _ _ (by omega) (by omega) (by omega) (by omega) (by omega))), Lib.hid hS,
                Lib.hid (HB.out.step (by omega) (by omega) (by omega) (by rw [← HG.out, ← HG.out]; exact hlt2))⟩
            case measure => simp [intOf]; omega
          · have hlt2 : ¬ G j < G (j - 1) := by omega
            go_roundw
            case rel => exact ⟨i + 1, dj, by go_num, by omega, by omega, HPj, Lib.hid (HJ.out.drewN nq), Lib.hid (HB.out.stop (.inr (by rw [← HG.out, ← HG.out]; omega)))⟩
            case measure => simp [intOf]; omega
        · have hja' : decide (lo < j) = false := by rw [decide_eq_false_iff_not]; exact hja
          go_quiet (first | (go_at_call 49; refine Calls.quiet_of_same ((less_any _ _ _).mono (fun e w' h => ⟨h.1, h.2.symm⟩))))
          go_wp2
          go_roundw
          case rel => exact ⟨i + 1, dj, by go_num, by omega, by omega, HPj, Lib.hid (HJ.out.drewN nq), Lib.hid (HB.out.stop (.inl (by omega)))⟩
          case measure => simp [intOf]; omega
    · have hl : ¬ (i : Int) < (hi : Int) := by omega
      go_wp2
      go_end0
      exact ⟨rfl, dk, HP.out, fun p q h1 h2 h3 => HU.out p q h1 h2 (by omega), HD.out⟩
end Go.Proofs.Ytcobflhnphikaaa
