/- The writer's calls, from lay's contract. -/
import Derived.Test.YtgdlfbphfogphaaDoorPy
import Derived.Test.YtgdlfbphfogphaaDoorPs
namespace Go.Proofs.YtgdlfbphfogphaaDoor
open Go.RowKit

theorem none_below {s : Int} {n i : Nat} (h : ((List.range i).all fun j => !saysB (rowAt j) s n) = true) : ∀ j, j < i → saysB (rowAt j) s n = false := by
  intro j hj
  have := List.all_eq_true.1 h j (by simpa using hj)
  simpa using this
/-- the first row that says a number of a sort -/
def First (s : Int) (n i : Nat) : Prop := i < 14 ∧ saysB (rowAt i) s n = true ∧ ∀ j, j < i → saysB (rowAt j) s n = false
theorem num_row (n : Nat) (hn : n < 18446744073709551616) : ∃ i, First 0 n i ∧ rowP (rowAt i) n = numP n := by
  unfold numP
  by_cases h0 : n < 128
  · refine ⟨0, ⟨by decide, by simp [saysB, rowAt, rowsL]; omega, fun j hj => by omega⟩, ?_⟩
    rw [if_pos h0]; simp [rowP, rowAt, rowsL]
  · rw [if_neg h0]
    by_cases h1 : n < 256
    · refine ⟨1, ⟨by decide, by simp [saysB, rowAt, rowsL]; omega, none_below (by simp [saysB, rowAt, rowsL, List.range, List.range.loop]; omega)⟩, ?_⟩
      rw [if_pos h1]; simp [rowP, rowAt, rowsL]
    · rw [if_neg h1]
      by_cases h2 : n < 65536
      · refine ⟨2, ⟨by decide, by simp [saysB, rowAt, rowsL]; omega, none_below (by simp [saysB, rowAt, rowsL, List.range, List.range.loop]; omega)⟩, ?_⟩
        rw [if_pos h2]; simp [rowP, rowAt, rowsL]
      · rw [if_neg h2]
        by_cases h3 : n < 4294967296
        · refine ⟨3, ⟨by decide, by simp [saysB, rowAt, rowsL]; omega, none_below (by simp [saysB, rowAt, rowsL, List.range, List.range.loop]; omega)⟩, ?_⟩
          rw [if_pos h3]; simp [rowP, rowAt, rowsL]
        · rw [if_neg h3]
          refine ⟨4, ⟨by decide, by simp [saysB, rowAt, rowsL]; omega, none_below (by simp [saysB, rowAt, rowsL, List.range, List.range.loop]; omega)⟩, ?_⟩
          simp [rowP, rowAt, rowsL]
theorem head_row (s : Int) (n : Nat) (hs : s = 1 ∨ s = 2 ∨ s = 3 ∨ s = 4) (hn : n < 65536) : ∃ i, First s n i ∧ rowP (rowAt i) n = headP s n := by
  unfold headP
  rcases hs with rfl | rfl | rfl | rfl
  · rw [if_pos rfl]
    by_cases h1 : n < 256
    · refine ⟨5, ⟨by decide, by simp [saysB, rowAt, rowsL]; omega, none_below (by simp [saysB, rowAt, rowsL, List.range, List.range.loop])⟩, ?_⟩
      rw [if_pos h1]; simp [rowP, rowAt, rowsL]
    · refine ⟨6, ⟨by decide, by simp [saysB, rowAt, rowsL]; omega, none_below (by simp [saysB, rowAt, rowsL, List.range, List.range.loop]; omega)⟩, ?_⟩
      rw [if_neg h1]; simp [rowP, rowAt, rowsL]
  · rw [if_neg (by decide), if_pos rfl]
    by_cases h0 : n < 32
    · refine ⟨7, ⟨by decide, by simp [saysB, rowAt, rowsL]; omega, none_below (by simp [saysB, rowAt, rowsL, List.range, List.range.loop])⟩, ?_⟩
      rw [if_pos h0]; simp [rowP, rowAt, rowsL]
    · rw [if_neg h0]
      by_cases h1 : n < 256
      · refine ⟨8, ⟨by decide, by simp [saysB, rowAt, rowsL]; omega, none_below (by simp [saysB, rowAt, rowsL, List.range, List.range.loop]; omega)⟩, ?_⟩
        rw [if_pos h1]; simp [rowP, rowAt, rowsL]
      · refine ⟨9, ⟨by decide, by simp [saysB, rowAt, rowsL]; omega, none_below (by simp [saysB, rowAt, rowsL, List.range, List.range.loop]; omega)⟩, ?_⟩
        rw [if_neg h1]; simp [rowP, rowAt, rowsL]
  · rw [if_neg (by decide), if_neg (by decide), if_pos rfl]
    by_cases h0 : n < 16
    · refine ⟨10, ⟨by decide, by simp [saysB, rowAt, rowsL]; omega, none_below (by simp [saysB, rowAt, rowsL, List.range, List.range.loop])⟩, ?_⟩
      rw [if_pos h0]; simp [rowP, rowAt, rowsL]
    · refine ⟨11, ⟨by decide, by simp [saysB, rowAt, rowsL]; omega, none_below (by simp [saysB, rowAt, rowsL, List.range, List.range.loop]; omega)⟩, ?_⟩
      rw [if_neg h0]; simp [rowP, rowAt, rowsL]
  · rw [if_neg (by decide), if_neg (by decide), if_neg (by decide)]
    by_cases h0 : n < 16
    · refine ⟨12, ⟨by decide, by simp [saysB, rowAt, rowsL]; omega, none_below (by simp [saysB, rowAt, rowsL, List.range, List.range.loop])⟩, ?_⟩
      rw [if_pos h0]; simp [rowP, rowAt, rowsL]
    · refine ⟨13, ⟨by decide, by simp [saysB, rowAt, rowsL]; omega, none_below (by simp [saysB, rowAt, rowsL, List.range, List.range.loop]; omega)⟩, ?_⟩
      rw [if_neg h0]; simp [rowP, rowAt, rowsL]
theorem no_row (s : Int) (n : Nat) (hs : s = 1 ∨ s = 2 ∨ s = 3 ∨ s = 4) (hn : 65536 ≤ n) : ∀ j, j < 14 → saysB (rowAt j) s n = false := by
  refine none_below ?_
  rcases hs with rfl | rfl | rfl | rfl <;> simp [saysB, rowAt, rowsL, List.range, List.range.loop] <;> omega

set_option maxRecDepth 100000 in
set_option maxHeartbeats 1000000 in
theorem lay_no (b : Nat) (T : List UInt8) (s : Int) (n : Nat) (w : World) (hg : Glob w) (hj : ∀ j, j < 14 → saysB (rowAt j) s n = false) :
    Calls Tryd.prog 28 #[.pointer (some ⟨b, 0, none⟩), .int .i64 s, .int .u64 (n : Int), .string ⟨T.toArray⟩] w fun e w' => e = .returned (.int .i64 3) ∧ Below w.heap.size w w' := by
  have HS := Lib.hid (shortest_no s n w hg hj)
  clear hj hg
  go_enter Tryd.func28, Tryd.ntmps28
  go_wp2_with (go_at_call 38; refine HS.out.mono ?_; rintro e w1 ⟨rfl, b1⟩)
  have hz := b1.size
  go_ret
  exact ⟨rfl, b1.alloc hz _⟩
set_option maxRecDepth 100000 in
theorem lay_nil (T : List UInt8) (s : Int) (n : Nat) (w : World) :
    Calls Tryd.prog 28 #[.pointer none, .int .i64 s, .int .u64 (n : Int), .string ⟨T.toArray⟩] w fun e w' => e = .returned (.int .i64 1) ∧ Below w.heap.size w w' := by
  go_enter Tryd.func28, Tryd.ntmps28
  go_wp2
  go_ret
  exact ⟨rfl, Below.refl _ _⟩

/-- what a sort, a count and what is counted are laid as, if the row is there -/
theorem lay_at (B b : Nat) (L T P : List UInt8) (s : Int) (n i : Nat) (w : World) (hW : Wr B b L w) (hL : L.length < 10000000) (hT : T.length < 10000000) (hn : n < 18446744073709551616) (hi : First s n i) (hP : rowP (rowAt i) n = P) :
    Calls Tryd.prog 28 #[.pointer (some ⟨b, 0, none⟩), .int .i64 s, .int .u64 (n : Int), .string ⟨T.toArray⟩] w fun e w' => e = .returned (.int .i64 0) ∧ Wr B b (L ++ (P ++ T)) w' ∧ Below B w w' := by
  subst hP
  exact lay_yes B b L T s n i w hW hL hT hn hi.1 hi.2.1 hi.2.2

set_option maxRecDepth 100000 in
theorem num_any (B b : Nat) (L : List UInt8) (n : Nat) (w : World) (hW : Wr B b L w) (hL : L.length < 10000000) (hn : n < 18446744073709551616) :
    Calls Tryd.prog 15 #[.pointer (some ⟨b, 0, none⟩), .int .u64 (n : Int)] w fun e w' => e = .returned (.int .i64 0) ∧ Wr B b (L ++ numP n) w' ∧ Below B w w' := by
  obtain ⟨i, hi, hP⟩ := num_row n hn
  have HC := Lib.hid (lay_at B b L [] (numP n) 0 n i w hW hL (by decide) hn hi hP)
  rw [List.append_nil] at HC
  clear hi hP hW
  go_enter Tryd.func15, Tryd.ntmps15
  go_wp2_with (go_at_call 28; refine HC.out.mono ?_; rintro e w1 ⟨rfl, h1, h2⟩)
  go_ret
  exact ⟨rfl, h1, h2⟩
set_option maxRecDepth 100000 in
theorem binstr_lay (B b : Nat) (L T : List UInt8) (s : Int) (w : World) (hs : s = 1 ∨ s = 2) (hW : Wr B b L w) (hL : L.length < 10000000) (hT : T.length < 10000000) :
    Calls Tryd.prog 28 #[.pointer (some ⟨b, 0, none⟩), .int .i64 s, .int .u64 (T.length : Int), .string ⟨T.toArray⟩] w fun e w' => e = .returned (.int .i64 (laidP s 0 T).2) ∧ Wr B b (L ++ (laidP s 0 T).1) w' ∧ Below B w w' ∧ ((laidP s 0 T).2 ≠ 0 → Below w.heap.size w w') := by
  have hs4 : s = 1 ∨ s = 2 ∨ s = 3 ∨ s = 4 := by omega
  rw [laidP, if_neg (show ¬ s = 0 by omega), if_pos hs]
  by_cases hl : 65536 ≤ T.length
  · rw [if_pos hl]
    refine (lay_no b T s T.length w hW.g (no_row s _ hs4 hl)).mono ?_
    rintro e w1 ⟨rfl, h⟩
    exact ⟨rfl, by rw [List.append_nil]; exact hW.next h, h.mono (by have := hW.lt; have := hW.hB; omega), fun _ => h⟩
  · rw [if_neg hl]
    obtain ⟨i, hi, hP⟩ := head_row s T.length hs4 (by omega)
    refine (lay_at B b L T _ s T.length i w hW hL hT (by omega) hi hP).mono ?_
    rintro e w1 ⟨rfl, h1, h2⟩
    exact ⟨rfl, h1, h2, fun h => absurd rfl h⟩
set_option maxRecDepth 100000 in
theorem bin_any (B b : Nat) (L T : List UInt8) (w : World) (hW : Wr B b L w) (hL : L.length < 10000000) (hT : T.length < 10000000) :
    Calls Tryd.prog 22 #[.pointer (some ⟨b, 0, none⟩), .string ⟨T.toArray⟩] w fun e w' => e = .returned (.int .i64 (laidP 1 0 T).2) ∧ Wr B b (L ++ (laidP 1 0 T).1) w' ∧ Below B w w' ∧ ((laidP 1 0 T).2 ≠ 0 → Below w.heap.size w w') := by
  have HC := Lib.hid (binstr_lay B b L T 1 w (.inl rfl) hW hL hT)
  generalize laidP 1 0 T = Z at *
  clear hW
  go_enter Tryd.func22, Tryd.ntmps22
  go_wp2_with (go_at_call 28; refine HC.out.mono ?_; rintro e w1 ⟨rfl, h1, h2, h3⟩)
  go_ret
  exact ⟨rfl, h1, h2, h3⟩
set_option maxRecDepth 100000 in
theorem str_any (B b : Nat) (L T : List UInt8) (w : World) (hW : Wr B b L w) (hL : L.length < 10000000) (hT : T.length < 10000000) :
    Calls Tryd.prog 23 #[.pointer (some ⟨b, 0, none⟩), .string ⟨T.toArray⟩] w fun e w' => e = .returned (.int .i64 (laidP 2 0 T).2) ∧ Wr B b (L ++ (laidP 2 0 T).1) w' ∧ Below B w w' ∧ ((laidP 2 0 T).2 ≠ 0 → Below w.heap.size w w') := by
  have HC := Lib.hid (binstr_lay B b L T 2 w (.inr rfl) hW hL hT)
  generalize laidP 2 0 T = Z at *
  clear hW
  go_enter Tryd.func23, Tryd.ntmps23
  go_wp2_with (go_at_call 28; refine HC.out.mono ?_; rintro e w1 ⟨rfl, h1, h2, h3⟩)
  go_ret
  exact ⟨rfl, h1, h2, h3⟩
set_option maxRecDepth 100000 in
theorem begin_any (B b : Nat) (L : List UInt8) (s i : Int) (w : World) (hs : s = 3 ∨ s = 4) (hW : Wr B b L w) (hL : L.length < 10000000) (h0 : -9223372036854775808 ≤ i) (h1 : i ≤ 9223372036854775807) :
    Calls Tryd.prog 30 #[.pointer (some ⟨b, 0, none⟩), .int .i64 s, .int .i64 i] w fun e w' => e = .returned (.int .i64 (listP s i).2) ∧ Wr B b (L ++ (listP s i).1) w' ∧ Below B w w' ∧ ((listP s i).2 ≠ 0 → Below w.heap.size w w') := by
  have hs4 : s = 1 ∨ s = 2 ∨ s = 3 ∨ s = 4 := by omega
  have hBw : B ≤ w.heap.size := by have := hW.lt; have := hW.hB; omega
  rw [listP]
  by_cases hi : i < 0
  · rw [if_pos hi]
    have HW := Lib.hid hW
    clear hW hs4
    go_enter Tryd.func30, Tryd.ntmps30
    go_wp2
    go_ret
    exact ⟨rfl, by rw [List.append_nil]; exact HW.out, Below.refl _ _, fun _ => Below.refl _ _⟩
  · rw [if_neg hi]
    obtain ⟨n, rfl⟩ := Int.eq_ofNat_of_zero_le (show 0 ≤ i by omega)
    by_cases hl : 65536 ≤ n
    · rw [if_pos (show (65536 : Int) ≤ (n : Int) by omega)]
      have HC := Lib.hid (lay_no b [] s n w hW.g (no_row s _ hs4 hl))
      have HW := Lib.hid hW
      clear hW hs4 hl
      go_enter Tryd.func30, Tryd.ntmps30
      go_wp2_with (go_at_call 28; refine HC.out.mono ?_; rintro e w1 ⟨rfl, h⟩)
      go_ret
      exact ⟨rfl, by rw [List.append_nil]; exact HW.out.next h, h.mono hBw, fun _ => h⟩
    · rw [if_neg (show ¬ (65536 : Int) ≤ (n : Int) by omega), Int.toNat_natCast]
      obtain ⟨k, hk, hP⟩ := head_row s n hs4 (by omega)
      have HC := Lib.hid (lay_at B b L [] _ s n k w hW hL (by decide) (by omega) hk hP)
      rw [List.append_nil] at HC
      clear hW hs4 hl hk hP
      generalize headP s n = P at *
      go_enter Tryd.func30, Tryd.ntmps30
      go_wp2_with (go_at_call 28; refine HC.out.mono ?_; rintro e w1 ⟨rfl, h1, h2⟩)
      go_ret
      exact ⟨rfl, h1, h2, fun h => absurd rfl h⟩
set_option maxRecDepth 100000 in
theorem list_any (B b : Nat) (L : List UInt8) (i : Int) (w : World) (hW : Wr B b L w) (hL : L.length < 10000000) (h0 : -9223372036854775808 ≤ i) (h1 : i ≤ 9223372036854775807) :
    Calls Tryd.prog 20 #[.pointer (some ⟨b, 0, none⟩), .int .i64 i] w fun e w' => e = .returned (.int .i64 (listP 3 i).2) ∧ Wr B b (L ++ (listP 3 i).1) w' ∧ Below B w w' ∧ ((listP 3 i).2 ≠ 0 → Below w.heap.size w w') := by
  have HC := Lib.hid (begin_any B b L 3 i w (.inl rfl) hW hL h0 h1)
  generalize listP 3 i = Z at *
  clear hW
  go_enter Tryd.func20, Tryd.ntmps20
  go_wp2_with (go_at_call 30; refine HC.out.mono ?_; rintro e w1 ⟨rfl, h1, h2, h3⟩)
  go_ret
  exact ⟨rfl, h1, h2, h3⟩
set_option maxRecDepth 100000 in
theorem map_any (B b : Nat) (L : List UInt8) (i : Int) (w : World) (hW : Wr B b L w) (hL : L.length < 10000000) (h0 : -9223372036854775808 ≤ i) (h1 : i ≤ 9223372036854775807) :
    Calls Tryd.prog 21 #[.pointer (some ⟨b, 0, none⟩), .int .i64 i] w fun e w' => e = .returned (.int .i64 (listP 4 i).2) ∧ Wr B b (L ++ (listP 4 i).1) w' ∧ Below B w w' ∧ ((listP 4 i).2 ≠ 0 → Below w.heap.size w w') := by
  have HC := Lib.hid (begin_any B b L 4 i w (.inr rfl) hW hL h0 h1)
  generalize listP 4 i = Z at *
  clear hW
  go_enter Tryd.func21, Tryd.ntmps21
  go_wp2_with (go_at_call 30; refine HC.out.mono ?_; rintro e w1 ⟨rfl, h1, h2, h3⟩)
  go_ret
  exact ⟨rfl, h1, h2, h3⟩
end Go.Proofs.YtgdlfbphfogphaaDoor
