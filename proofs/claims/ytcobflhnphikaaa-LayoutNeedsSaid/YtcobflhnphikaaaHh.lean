/- The library's sort of numbers, where it goes by insertion: no more than twelve. -/
import Derived.Test.YtcobflhnphikaaaHg
import Derived.CellFam
import Derived.BigGuard
import Derived.BigCall
import Derived.Deep.Draws
import Derived.Deep.QuietTactic
import Derived.BigQuiet
import Derived.Sort.Grow
import Derived.Deep.RegionHeld3
import Derived.StillTailTactics
namespace Go.Proofs.Ytcobflhnphikaaa
open Go.RowKit Go.Sort

/-- the row is some order of what it was -/
structure Ord (w0 : World) (blk off : Nat) (d0 : Array Nat) (dk : Array Nat) (wr : World) : Prop where
  p : PermIn 0 d0.size d0 dk
  w : ∃ n, wr = putRow encU (Sort.ahead w0 n) blk off dk
theorem Ord.size {w0 wr : World} {blk off : Nat} {d0 dk : Array Nat} (h : Ord w0 blk off d0 dk wr) : dk.size = d0.size := h.p.1
theorem Ord.start {w0 : World} {blk off : Nat} {d0 : Array Nat} (h : Holds encU w0 blk off d0) : Ord w0 blk off d0 d0 w0 := ⟨permIn_refl _ _ _, 0, (putRow_self _ _ _ _ _ h).symm⟩
theorem Ord.cell {w0 wr : World} {blk off : Nat} {d0 dk : Array Nat} (h : Ord w0 blk off d0 dk wr) (h0 : Holds encU w0 blk off d0) (t : Nat) (ht : t < d0.size) : wr.cell? ⟨blk, off + t, none⟩ = some (.int .u64 (dk[t]! : Int)) ∧ wr.frozen? ⟨blk, off + t, none⟩ = false := by
  obtain ⟨n, rfl⟩ := h.w
  exact ⟨cell?_putRow _ _ _ _ d0 dk (holds_ahead _ _ _ _ _ _ h0) h.size t (by rw [h.size]; exact ht), by rw [frozen?_putRow]; exact (holds_ahead encU w0 n _ _ _ h0 t ht).2⟩
theorem ahead_put (w : World) (n q blk off : Nat) (d : Array Nat) : (putRow encU (Sort.ahead w n) blk off d).drewN q = putRow encU (Sort.ahead w (n + q)) blk off d := by
  show Sort.ahead (putRow encU (Sort.ahead w n) blk off d) q = _
  rw [putRow_ahead encU w n, ahead_ahead, ← putRow_ahead]
theorem Ord.drewN {w0 wr : World} {blk off : Nat} {d0 dk : Array Nat} (h : Ord w0 blk off d0 dk wr) (q : Nat) : Ord w0 blk off d0 dk (wr.drewN q) := by
  obtain ⟨n, hw⟩ := h.w
  exact ⟨h.p, n + q, by rw [hw]; exact ahead_put _ _ _ _ _ _⟩
theorem Ord.swap {w0 wr : World} {blk off : Nat} {d0 dk : Array Nat} (h : Ord w0 blk off d0 dk wr) (i j : Nat) (hi : i < d0.size) (hj : j < d0.size) :
    Ord w0 blk off d0 (swp dk i j) ((wr.setCell ⟨blk, off + i, none⟩ (encU dk[j]!)).setCell ⟨blk, off + j, none⟩ (encU dk[i]!)) := by
  obtain ⟨n, hw⟩ := h.w
  refine ⟨permIn_trans _ _ _ _ _ h.p (swp_permIn _ _ _ _ _ (Nat.zero_le _) hi (Nat.zero_le _) hj (by rw [h.size]; exact Nat.le_refl _)), n, ?_⟩
  rw [hw]
  exact putRow_swp encU _ blk off dk i j (by rw [h.size]; exact hi) (by rw [h.size]; exact hj)
theorem Up.ends {d : Array Nat} {i n : Nat} (h : Up d i) (hn : n ≤ i) : Up d n := fun p q hpq hq => h p q hpq (by omega)
set_option maxRecDepth 100000 in
set_option maxHeartbeats 2000000 in
theorem ins_any (blk off cap : Nat) (d : Array Nat) (w : World) (hH : Holds encU w blk off d) (hsz : d.size ≤ 100000) :
    Calls Try.prog 43 #[.slice (some ⟨blk, off, none⟩) d.size cap, .int .i64 0, .int .i64 (d.size : Int)] w fun e w' => e = .returned (.tuple #[]) ∧ ∃ dk, Ord w blk off d dk w' ∧ Up dk d.size := by
  have HH := Lib.hid hH
  have HO := Lib.hid (Ord.start hH)
  have n1 : (d.size : Int) ≤ 100000 := by omega
  clear hH
  go_enter Try.func43, Try.ntmps43
  go_wp2
  go_loopw [6] (fun vi wr => ∃ (i : Nat) (dk : Array Nat), vi = .int .i64 (i : Int) ∧ 0 < i ∧ i ≤ d.size + 1 ∧ Hid (Ord w blk off d dk wr) ∧ Hid (Up dk i)) (fun vi _ => d.size + 1 - (intOf vi).toNat)
  case atStart => exact ⟨1, d, by go_num, by omega, by omega, HO, Lib.hid fun p q h1 h2 => by omega⟩
  case round =>
    obtain ⟨i, dk, rfl, hi0, hib, HD, HU⟩ := hrel
    by_cases hlt : i < d.size
    · have hl : (i : Int) < (d.size : Int) := by omega
      go_wp2
      go_loopw [7] (fun vj wr2 => ∃ (j : Nat) (dj : Array Nat), vj = .int .i64 (j : Int) ∧ j ≤ i ∧ Hid (Ord w blk off d dj wr2) ∧ Hid (UpBut dj i j)) (fun vj _ => (intOf vj).toNat)
      case atStart => exact ⟨i, dk, rfl, Nat.le_refl _, HD, Lib.hid HU.out.start⟩
      case round =>
        obtain ⟨j, dj, rfl, hji, HJ, HB⟩ := hrel
        obtain ⟨G, hG⟩ : ∃ G : Nat → Nat, ∀ t, G t = dj[t]! := ⟨fun t => dj[t]!, fun _ => rfl⟩
        have hcw : ∀ t, t < d.size → wr.cell? ⟨blk, off + t, none⟩ = some (.int .u64 (G t : Int)) := fun t ht => by rw [hG]; exact (HJ.out.cell HH.out t ht).1
        have hfw : ∀ t, t < d.size → wr.frozen? ⟨blk, off + t, none⟩ = false := fun t ht => (HJ.out.cell HH.out t ht).2
        have HG := Lib.hid hG
        clear hG
        go_wp2
        by_cases hja : 0 < j
        · have hja' : (0 : Int) < (j : Int) := by omega
          go_quiet (first | (go_at_call 49; refine Calls.quiet_of_same ((less_any _ _ _).mono (fun e w' h => ⟨h.1, h.2.symm⟩))))
          go_wp2
          · have hlt2 : G j < G (j - 1) := by omega
            go_region
            all_goals go_wp2
            go_roundw
            case rel =>
              obtain ⟨m, rfl⟩ : ∃ m, j = m + 1 := ⟨j - 1, by omega⟩
              rw [show m + 1 - 1 = m from rfl] at hlt2
              refine ⟨m, swp dj (m + 1) m, by congr 1; omega, by omega, Lib.hid ?_, Lib.hid (HB.out.step (by omega) (by rw [HJ.out.size]; exact hlt) (by rw [← HG.out, ← HG.out]; exact hlt2))⟩
              have hS := (HJ.out.drewN (nq + 1)).swap (m + 1) m (by omega) (by omega)
              rw [← HG.out, ← HG.out] at hS
              exact hS
            case measure => simp [intOf]; omega
          · have hlt2 : ¬ G j < G (j - 1) := by omega
            go_roundw
            case rel => exact ⟨i + 1, dj, by go_num, by omega, by omega, Lib.hid (HJ.out.drewN nq), Lib.hid (HB.out.stop (.inr (by rw [← HG.out, ← HG.out]; omega)))⟩
            case measure => simp [intOf]; omega
        · have hja' : ¬ (0 : Int) < (j : Int) := by omega
          go_quiet (first | (go_at_call 49; refine Calls.quiet_of_same ((less_any _ _ _).mono (fun e w' h => ⟨h.1, h.2.symm⟩))))
          go_wp2
          go_roundw
          case rel => exact ⟨i + 1, dj, by go_num, by omega, by omega, Lib.hid (HJ.out.drewN nq), Lib.hid (HB.out.stop (.inl (by omega)))⟩
          case measure => simp [intOf]; omega
    · have hl : ¬ (i : Int) < (d.size : Int) := by omega
      go_wp2
      go_end0
      exact ⟨rfl, dk, HD.out, HU.out.ends (by omega)⟩
end Go.Proofs.Ytcobflhnphikaaa
