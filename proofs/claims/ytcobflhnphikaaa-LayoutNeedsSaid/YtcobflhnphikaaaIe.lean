/- Parting a row by a pivot: the numbers; a row that is in order already. -/
import Derived.Test.YtcobflhnphikaaaId
namespace Go.Proofs.Ytcobflhnphikaaa
open Go.RowKit Go.Sort

/-- between lo and hi, the pivot p at lo: those ahead of i are left ones, those behind j are right ones -/
structure Prt (f : Nat → Bool) (lo hi p : Nat) (d0 : Array Nat) (i j : Nat) (dk : Array Nat) : Prop where
  size : dk.size = d0.size
  hs : hi ≤ d0.size
  perm : PermIn lo hi d0 dk
  piv : dk[lo]! = p
  left : ∀ t, lo < t → t < i → f dk[t]! = true
  right : ∀ t, j < t → t < hi → f dk[t]! = false
  li : lo < i
  ij : i ≤ j + 1
  jh : j < hi
theorem Prt.up {f : Nat → Bool} {lo hi p i j : Nat} {d0 dk : Array Nat} (h : Prt f lo hi p d0 i j dk) (hij : i ≤ j) (hl : f dk[i]! = true) : Prt f lo hi p d0 (i + 1) j dk :=
  ⟨h.size, h.hs, h.perm, h.piv, fun t h1 h2 => (Nat.lt_or_ge t i).elim (fun e => h.left t h1 e) (fun e => by rw [show t = i by omega]; exact hl), h.right, by have := h.li; omega, by omega, h.jh⟩
theorem Prt.down {f : Nat → Bool} {lo hi p i j : Nat} {d0 dk : Array Nat} (h : Prt f lo hi p d0 i j dk) (hij : i ≤ j) (hl : f dk[j]! = false) : Prt f lo hi p d0 i (j - 1) dk :=
  ⟨h.size, h.hs, h.perm, h.piv, h.left, fun t h1 h2 => (Nat.lt_or_ge j t).elim (fun e => h.right t e h2) (fun e => by rw [show t = j by omega]; exact hl), h.li, by have := h.li; omega, by have := h.jh; omega⟩
theorem Prt.swap {f : Nat → Bool} {lo hi p i j : Nat} {d0 dk : Array Nat} (h : Prt f lo hi p d0 i j dk) (hij : i ≤ j) (h1 : f dk[i]! = false) (h2 : f dk[j]! = true) : i < j ∧ Prt f lo hi p d0 (i + 1) (j - 1) (swp dk i j) := by
  have hne : i ≠ j := fun e => by rw [e, h2] at h1; cases h1
  have hl := h.li
  have hj := h.jh
  have hs := h.hs
  have hz := h.size
  have hg := fun k => swp_get dk (i := i) (j := j) (by omega) (by omega) k
  refine ⟨by omega, by rw [swp_size]; exact h.size, hs, permIn_trans _ _ _ _ _ h.perm (swp_permIn _ _ _ _ _ (by omega) (by omega) (by omega) (by omega) (by omega)), ?_, fun t t1 t2 => ?_, fun t t1 t2 => ?_, by omega, by omega, by omega⟩
  · rw [hg, if_neg (by omega), if_neg (by omega)]; exact h.piv
  · rw [hg, if_neg (by omega)]
    by_cases e : t = i
    · rw [if_pos e]; exact h2
    · rw [if_neg e]; exact h.left t t1 (by omega)
  · rw [hg]
    by_cases e : t = j
    · rw [if_pos e]; exact h1
    · rw [if_neg e, if_neg (by omega)]; exact h.right t (by omega) t2
/-- the pivot, brought between both -/
theorem Prt.last {f : Nat → Bool} {lo hi p i j : Nat} {d0 dk : Array Nat} (h : Prt f lo hi p d0 i j dk) (hij : j < i) :
    lo ≤ j ∧ PermIn lo hi d0 (swp dk j lo) ∧ (swp dk j lo)[j]! = p ∧ (∀ t, lo ≤ t → t < j → f (swp dk j lo)[t]! = true) ∧ (∀ t, j < t → t < hi → f (swp dk j lo)[t]! = false) := by
  have hl := h.li
  have hj := h.jh
  have hs := h.hs
  have hz := h.size
  have hq := h.ij
  have hg := fun k => swp_get dk (i := j) (j := lo) (by omega) (by omega) k
  refine ⟨by omega, permIn_trans _ _ _ _ _ h.perm (swp_permIn _ _ _ _ _ (by omega) (by omega) (by omega) (by omega) (by omega)), ?_, fun t t1 t2 => ?_, fun t t1 t2 => ?_⟩
  · rw [hg]
    by_cases e : j = lo
    · rw [if_pos e, e]; exact h.piv
    · rw [if_neg e, if_pos rfl]; exact h.piv
  · rw [hg]
    by_cases e : t = lo
    · rw [if_pos e]; exact h.left j (by omega) (by omega)
    · rw [if_neg e, if_neg (by omega)]; exact h.left t (by omega) (by omega)
  · rw [hg, if_neg (by omega), if_neg (by omega)]; exact h.right t t1 t2
/-- the beginning: the pivot is brought to lo -/
theorem Prt.start {f : Nat → Bool} {lo hi pv : Nat} {d : Array Nat} (h1 : lo ≤ pv) (h2 : pv < hi) (hs : hi ≤ d.size) : Prt f lo hi d[pv]! d (lo + 1) (hi - 1) (swp d lo pv) := by
  refine ⟨swp_size _ _ _, hs, swp_permIn _ _ _ _ _ (Nat.le_refl _) (by omega) h1 h2 hs, ?_, fun t t1 t2 => by omega, fun t t1 t2 => by omega, by omega, by omega, by omega⟩
  rw [swp_get d (by omega) (by omega)]
  by_cases e : lo = pv
  · rw [if_pos e, e]
  · rw [if_neg e, if_pos rfl]
theorem Srt.one (lo : Nat) (d : Array Nat) : Srt lo (lo + 1) d := fun p q h1 h2 h3 => by omega
theorem Srt.snoc {lo i : Nat} {d : Array Nat} (h : Srt lo i d) (hi : lo < i) (hl : d[i - 1]! ≤ d[i]!) : Srt lo (i + 1) d := fun p q h1 h2 h3 => by
  by_cases e : q = i
  · subst e
    by_cases e2 : p = q - 1
    · subst e2; exact hl
    · exact Nat.le_trans (h p (q - 1) h1 (by omega) (by omega)) hl
  · exact h p q h1 h2 (by omega)
set_option maxRecDepth 100000 in
set_option maxHeartbeats 2000000 in
theorem partial_any (w0 : World) (b n cap : Nat) (c0 : Array Value) (hn : n ≤ 100000) (d : Array Nat) (lo hi : Nat) (hlo : lo + 12 < hi) (hh : hi ≤ n) (h50 : hi < lo + 50) (w : World) (hR : Rw w0 b c0 n d w) :
    Calls Try.prog 48 #[.slice (some ⟨b, 0, none⟩) n cap, .int .i64 (lo : Int), .int .i64 (hi : Int)] w fun e w' => ∃ r : Bool, e = .returned (.bool r) ∧ (r = true → Srt lo hi d) ∧ Rw w0 b c0 n d w' := by
  have HR := Lib.hid hR
  have e50 : (hi : Int) - (lo : Int) < 50 := by omega
  have n1 : (n : Int) ≤ 100000 := by omega
  clear hR
  go_enter Try.func48, Try.ntmps48
  go_wp2
  refine wp_loop_rounds 1 ?_
  rw [rounds_succ]
  go_wp2
  go_loopw [7] (fun v wr => ∃ i : Nat, v = .int .i64 (i : Int) ∧ lo < i ∧ i ≤ hi ∧ Hid (Srt lo i d) ∧ Hid (Rw w0 b c0 n d wr)) (fun v _ => hi - (intOf v).toNat)
  case atStart => exact ⟨lo + 1, by go_num, by omega, by omega, Lib.hid (Srt.one lo d), HR⟩
  case round =>
    obtain ⟨i, rfl, hi1, hi2, HS, HD⟩ := hrel
    by_cases hie : i = hi
    · have hl : decide (i < hi) = false := by rw [decide_eq_false_iff_not]; omega
      have he : ((i : Int) == (hi : Int)) = true := by rw [hie]; simp
      have HE := Lib.hid (show Srt lo hi d from hie ▸ HS.out)
      clear hie
      go_wp2
      go_quiet (fail)
      have HD2 := Lib.hid (HD.out.drewN nq)
      generalize wr.drewN nq = v1 at *
      go_wp2
      go_ret
      exact ⟨true, rfl, fun _ => HE.out, HD2.out⟩
    · have hih : i < hi := by omega
      have hl : decide (i < hi) = true := by rw [decide_eq_true_iff]; omega
      have he : ((i : Int) == (hi : Int)) = false := by rw [beq_eq_false_iff_ne]; omega
      obtain ⟨x, hx⟩ : ∃ x, x = i - 1 := ⟨_, rfl⟩
      have e1 : IntKind.i64.wrap ((i : Int) - 1) = (x : Int) := by rw [IntWalk.i64_in _ (by omega)]; omega
      obtain ⟨y0, hy0⟩ : ∃ y, y = d[i]! := ⟨_, rfl⟩
      obtain ⟨y1, hy1⟩ : ∃ y, y = d[x]! := ⟨_, rfl⟩
      have f0 : wr.cell? ⟨b, i, none⟩ = some (.int .u64 (y0 : Int)) := by rw [hy0]; exact HD.out.cell i (by omega)
      have f1 : wr.cell? ⟨b, x, none⟩ = some (.int .u64 (y1 : Int)) := by rw [hy1]; exact HD.out.cell x (by omega)
      have b0 : (0 : Int) ≤ (i : Int) ∧ (i : Int) < (n : Int) := by omega
      have b1 : (0 : Int) ≤ (x : Int) ∧ (x : Int) < (n : Int) := by omega
      have HY0 := Lib.hid hy0
      have HY1 := Lib.hid hy1
      have HX := Lib.hid hx
      clear hy0 hy1 hx hie
      go_wp2
      go_quiet (first | (go_at_call 49; refine Calls.quiet_of_same ((less_any _ _ _).mono (fun e w' h => ⟨h.1, h.2.symm⟩))))
      have HD2 := Lib.hid (HD.out.drewN nq)
      generalize wr.drewN nq = v1 at *
      go_wp2
      · have hlt : ¬ y0 < y1 := by simpa using (‹(!decide (y0 < y1)) = true›)
        go_roundw
        case rel => exact ⟨i + 1, by go_num, by omega, by omega, Lib.hid (HS.out.snoc hi1 (by rw [← HX.out, ← HY0.out, ← HY1.out]; omega)), HD2⟩
        case measure => simp [intOf] <;> omega
      · go_ret
        exact ⟨false, rfl, (fun h => by cases h), HD2.out⟩
end Go.Proofs.Ytcobflhnphikaaa
