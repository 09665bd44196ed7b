/- The writer's calls, from lay's contract. -/
import Derived.Test.YtbkiijndhjmkdaaGreatDoorJ9
import Derived.Test.YtbkiijndhjmkdaaGreatDoorJ8
import Derived.StillTailTactics
import Derived.Test.YtbkiijndhjmkdaaGreatDoorJ7
import Derived.Laws.NewBlocks
import Derived.WalkMore
namespace Go.Proofs.YtbkiijndhjmkdaaGreatDoor.Pk
open Go.RowKit

theorem none_below {s : Int} {n i : Nat} (h : ((List.range i).all fun j => !saysB (rowAt j) s n) = true) : ∀ j, j < i → saysB (rowAt j) s n = false := by
  intro j hj
  have := List.all_eq_true.1 h j (by simpa using hj)
  simpa using this
/-- the first row that says a number of a sort -/
def First (s : Int) (n i : Nat) : Prop := i < 14 ∧ saysB (rowAt i) s n = true ∧ ∀ j, j < i → saysB (rowAt j) s n = false
theorem num_row (n : Nat) (hn : n < 18446744073709551616) : ∃ i, First 0 n i ∧ rowP (rowAt i) n = numP n := by
  unfold numP
  by_cases h0 : n < 128
  · refine ⟨0, ⟨by decide, by simp [saysB, rowAt, rowsL]; omega, fun j hj => by omega⟩, ?_⟩
    rw [if_pos h0]; simp [rowP, rowAt, rowsL]
  · rw [if_neg h0]
    by_cases h1 : n < 256
    · refine ⟨1, ⟨by decide, by simp [saysB, rowAt, rowsL]; omega, none_below (by simp [saysB, rowAt, rowsL, List.range, List.range.loop]; omega)⟩, ?_⟩
      rw [if_pos h1]; simp [rowP, rowAt, rowsL]
    · rw [if_neg h1]
      by_cases h2 : n < 65536
      · refine ⟨2, ⟨by decide, by simp [saysB, rowAt, rowsL]; omega, none_below (by simp [saysB, rowAt, rowsL, List.range, List.range.loop]; omega)⟩, ?_⟩
        rw [if_pos h2]; simp [rowP, rowAt, rowsL]
      · rw [if_neg h2]
        by_cases h3 : n < 4294967296
        · refine ⟨3, ⟨by decide, by simp [saysB, rowAt, rowsL]; omega, none_below (by simp [saysB, rowAt, rowsL, List.range, List.range.loop]; omega)⟩, ?_⟩
          rw [if_pos h3]; simp [rowP, rowAt, rowsL]
        · rw [if_neg h3]
          refine ⟨4, ⟨by decide, by simp [saysB, rowAt, rowsL]; omega, none_below (by simp [saysB, rowAt, rowsL, List.range, List.range.loop]; omega)⟩, ?_⟩
          simp [rowP, rowAt, rowsL]
theorem head_row (s : Int) (n : Nat) (hs : s = 1 ∨ s = 2 ∨ s = 3 ∨ s = 4) (hn : n < 65536) : ∃ i, First s n i ∧ rowP (rowAt i) n = headP s n := by
  unfold headP
  rcases hs with rfl | rfl | rfl | rfl
  · rw [if_pos rfl]
    by_cases h1 : n < 256
    · refine ⟨5, ⟨by decide, by simp [saysB, rowAt, rowsL]; omega, none_below (by simp [saysB, rowAt, rowsL, List.range, List.range.loop])⟩, ?_⟩
      rw [if_pos h1]; simp [rowP, rowAt, rowsL]
    · refine ⟨6, ⟨by decide, by simp [saysB, rowAt, rowsL]; omega, none_below (by simp [saysB, rowAt, rowsL, List.range, List.range.loop]; omega)⟩, ?_⟩
      rw [if_neg h1]; simp [rowP, rowAt, rowsL]
  · rw [if_neg (by decide), if_pos rfl]
    by_cases h0 : n < 32
    · refine ⟨7, ⟨by decide, by simp [saysB, rowAt, rowsL]; omega, none_below (by simp [saysB, rowAt, rowsL, List.range, List.range.loop])⟩, ?_⟩
      rw [if_pos h0]; simp [rowP, rowAt, rowsL]
    · rw [if_neg h0]
      by_cases h1 : n < 256
      · refine ⟨8, ⟨by decide, by simp [saysB, rowAt, rowsL]; omega, none_below (by simp [saysB, rowAt, rowsL, List.range, List.range.loop]; omega)⟩, ?_⟩
        rw [if_pos h1]; simp [rowP, rowAt, rowsL]
      · refine ⟨9, ⟨by decide, by simp [saysB, rowAt, rowsL]; omega, none_below (by simp [saysB, rowAt, rowsL, List.range, List.range.loop]; omega)⟩, ?_⟩
        rw [if_neg h1]; simp [rowP, rowAt, rowsL]
  · rw [if_neg (by decide), if_neg (by decide), if_pos rfl]
    by_cases h0 : n < 16
    · refine ⟨10, ⟨by decide, by simp [saysB, rowAt, rowsL]; omega, none_below (by simp [saysB, rowAt, rowsL, List.range, List.range.loop])⟩, ?_⟩
      rw [if_pos h0]; simp [rowP, rowAt, rowsL]
    · refine ⟨11, ⟨by decide, by simp [saysB, rowAt, rowsL]; omega, none_below (by simp [saysB, rowAt, rowsL, List.range, List.range.loop]; omega)⟩, ?_⟩
      rw [if_neg h0]; simp [rowP, rowAt, rowsL]
  · rw [if_neg (by decide), if_neg (by decide), if_neg (by decide)]
    by_cases h0 : n < 16
    · refine ⟨12, ⟨by decide, by simp [saysB, rowAt, rowsL]; omega, none_below (by simp [saysB, rowAt, rowsL, List.range, List.range.loop])⟩, ?_⟩
      rw [if_pos h0]; simp [rowP, rowAt, rowsL]
    · refine ⟨13, ⟨by decide, by simp [saysB, rowAt, rowsL]; omega, none_below (by simp [saysB, rowAt, rowsL, List.range, List.range.loop]; omega)⟩, ?_⟩
      rw [if_neg h0]; simp [rowP, rowAt, rowsL]
theorem no_row (s : Int) (n : Nat) (hs : s = 1 ∨ s = 2 ∨ s = 3 ∨ s = 4) (hn : 65536 ≤ n) : ∀ j, j < 14 → saysB (rowAt j) s n = false := by
  refine none_below ?_
  rcases hs with rfl | rfl | rfl | rfl <;> simp [saysB, rowAt, rowsL, List.range, List.range.loop] <;> omega

set_option maxRecDepth 100000 in
set_option maxHeartbeats 1000000 in
theorem lay_no (b : Nat) (T : List UInt8) (s : Int) (n : Nat) (w : World) (hg : Glob w) (hj : ∀ j, j < 14 → saysB (rowAt j) s n = false) :
    Calls Tryz.prog 181 #[.pointer (some ⟨b, 0, none⟩), .int .i64 s, .int .u64 (n : Int), .string ⟨T.toArray⟩] w fun e w' => e = .returned (.int .i64 3) ∧ Below w.heap.size w w' := by
  have HS := Lib.hid (shortest_no s n w hg hj)
  clear hj hg
  go_enter Tryz.func181, Tryz.ntmps181
  go_wp2_with (go_at_call 205; refine HS.out.mono ?_; rintro e w1 ⟨rfl, b1⟩)
  have hz := b1.size
  go_ret
  exact ⟨rfl, b1.alloc hz _⟩
set_option maxRecDepth 100000 in
theorem lay_nil (T : List UInt8) (s : Int) (n : Nat) (w : World) :
    Calls Tryz.prog 181 #[.pointer none, .int .i64 s, .int .u64 (n : Int), .string ⟨T.toArray⟩] w fun e w' => e = .returned (.int .i64 1) ∧ Below w.heap.size w w' := by
  go_enter Tryz.func181, Tryz.ntmps181
  go_wp2
  go_ret
  exact ⟨rfl, Below.refl _ _⟩

/-- what a sort, a count and what is counted are laid as, if the row is there -/
theorem lay_at (B b : Nat) (L T P : List UInt8) (s : Int) (n i : Nat) (w : World) (hW : Wr B b L w) (hL : L.length < 10000000) (hT : T.length < 10000000) (hn : n < 18446744073709551616) (hi : First s n i) (hP : rowP (rowAt i) n = P) :
    Calls Tryz.prog 181 #[.pointer (some ⟨b, 0, none⟩), .int .i64 s, .int .u64 (n : Int), .string ⟨T.toArray⟩] w fun e w' => e = .returned (.int .i64 0) ∧ Wr B b (L ++ (P ++ T)) w' ∧ Bel B w w' := by
  subst hP
  exact lay_yes B b L T s n i w hW hL hT hn hi.1 hi.2.1 hi.2.2

set_option maxRecDepth 100000 in
theorem num_any (B b : Nat) (L : List UInt8) (n : Nat) (w : World) (hW : Wr B b L w) (hL : L.length < 10000000) (hn : n < 18446744073709551616) :
    Calls Tryz.prog 182 #[.pointer (some ⟨b, 0, none⟩), .int .u64 (n : Int)] w fun e w' => e = .returned (.int .i64 0) ∧ Wr B b (L ++ numP n) w' ∧ Bel B w w' := by
  obtain ⟨i, hi, hP⟩ := num_row n hn
  have HC := Lib.hid (lay_at B b L [] (numP n) 0 n i w hW hL (by decide) hn hi hP)
  rw [List.append_nil] at HC
  clear hi hP hW
  go_enter Tryz.func182, Tryz.ntmps182
  go_wp2_with (go_at_call 181; refine HC.out.mono ?_; rintro e w1 ⟨rfl, h1, h2⟩)
  go_ret
  exact ⟨rfl, h1, h2⟩
set_option maxRecDepth 100000 in
theorem binstr_lay (B b : Nat) (L T : List UInt8) (s : Int) (w : World) (hs : s = 1 ∨ s = 2) (hW : Wr B b L w) (hL : L.length < 10000000) (hT : T.length < 10000000) :
    Calls Tryz.prog 181 #[.pointer (some ⟨b, 0, none⟩), .int .i64 s, .int .u64 (T.length : Int), .string ⟨T.toArray⟩] w fun e w' => e = .returned (.int .i64 (laidP s 0 T).2) ∧ Wr B b (L ++ (laidP s 0 T).1) w' ∧ Bel B w w' ∧ ((laidP s 0 T).2 ≠ 0 → Below w.heap.size w w') := by
  have hs4 : s = 1 ∨ s = 2 ∨ s = 3 ∨ s = 4 := by omega
  rw [laidP, if_neg (show ¬ s = 0 by omega), if_pos hs]
  by_cases hl : 65536 ≤ T.length
  · rw [if_pos hl]
    refine (lay_no b T s T.length w hW.g (no_row s _ hs4 hl)).mono ?_
    rintro e w1 ⟨rfl, h⟩
    exact ⟨rfl, by rw [List.append_nil]; exact hW.next h, Bel.fresh h (by have := hW.lt; have := hW.hB; omega), fun _ => h⟩
  · rw [if_neg hl]
    obtain ⟨i, hi, hP⟩ := head_row s T.length hs4 (by omega)
    refine (lay_at B b L T _ s T.length i w hW hL hT (by omega) hi hP).mono ?_
    rintro e w1 ⟨rfl, h1, h2⟩
    exact ⟨rfl, h1, h2, fun h => absurd rfl h⟩
set_option maxRecDepth 100000 in
theorem bin_any (B b : Nat) (L T : List UInt8) (w : World) (hW : Wr B b L w) (hL : L.length < 10000000) (hT : T.length < 10000000) :
    Calls Tryz.prog 185 #[.pointer (some ⟨b, 0, none⟩), .string ⟨T.toArray⟩] w fun e w' => e = .returned (.int .i64 (laidP 1 0 T).2) ∧ Wr B b (L ++ (laidP 1 0 T).1) w' ∧ Bel B w w' ∧ ((laidP 1 0 T).2 ≠ 0 → Below w.heap.size w w') := by
  have HC := Lib.hid (binstr_lay B b L T 1 w (.inl rfl) hW hL hT)
  generalize laidP 1 0 T = Z at *
  clear hW
  go_enter Tryz.func185, Tryz.ntmps185
  go_wp2_with (go_at_call 181; refine HC.out.mono ?_; rintro e w1 ⟨rfl, h1, h2, h3⟩)
  go_ret
  exact ⟨rfl, h1, h2, h3⟩
set_option maxRecDepth 100000 in
theorem str_any (B b : Nat) (L T : List UInt8) (w : World) (hW : Wr B b L w) (hL : L.length < 10000000) (hT : T.length < 10000000) :
    Calls Tryz.prog 133 #[.pointer (some ⟨b, 0, none⟩), .string ⟨T.toArray⟩] w fun e w' => e = .returned (.int .i64 (laidP 2 0 T).2) ∧ Wr B b (L ++ (laidP 2 0 T).1) w' ∧ Bel B w w' ∧ ((laidP 2 0 T).2 ≠ 0 → Below w.heap.size w w') := by
  have HC := Lib.hid (binstr_lay B b L T 2 w (.inr rfl) hW hL hT)
  generalize laidP 2 0 T = Z at *
  clear hW
  go_enter Tryz.func133, Tryz.ntmps133
  go_wp2_with (go_at_call 181; refine HC.out.mono ?_; rintro e w1 ⟨rfl, h1, h2, h3⟩)
  go_ret
  exact ⟨rfl, h1, h2, h3⟩
set_option maxRecDepth 100000 in
theorem begin_any (B b : Nat) (L : List UInt8) (s i : Int) (w : World) (hs : s = 3 ∨ s = 4) (hW : Wr B b L w) (hL : L.length < 10000000) (h0 : -9223372036854775808 ≤ i) (h1 : i ≤ 9223372036854775807) :
    Calls Tryz.prog 180 #[.pointer (some ⟨b, 0, none⟩), .int .i64 s, .int .i64 i] w fun e w' => e = .returned (.int .i64 (listP s i).2) ∧ Wr B b (L ++ (listP s i).1) w' ∧ Bel B w w' ∧ ((listP s i).2 ≠ 0 → Below w.heap.size w w') := by
  have hs4 : s = 1 ∨ s = 2 ∨ s = 3 ∨ s = 4 := by omega
  have hBw : B ≤ w.heap.size := by have := hW.lt; have := hW.hB; omega
  rw [listP]
  by_cases hi : i < 0
  · rw [if_pos hi]
    have HW := Lib.hid hW
    clear hW hs4
    go_enter Tryz.func180, Tryz.ntmps180
    go_wp2
    go_ret
    exact ⟨rfl, by rw [List.append_nil]; exact HW.out, Bel.refl _ _, fun _ => Below.refl _ _⟩
  · rw [if_neg hi]
    obtain ⟨n, rfl⟩ := Int.eq_ofNat_of_zero_le (show 0 ≤ i by omega)
    by_cases hl : 65536 ≤ n
    · rw [if_pos (show (65536 : Int) ≤ (n : Int) by omega)]
      have HC := Lib.hid (lay_no b [] s n w hW.g (no_row s _ hs4 hl))
      have HW := Lib.hid hW
      clear hW hs4 hl
      go_enter Tryz.func180, Tryz.ntmps180
      go_wp2_with (go_at_call 181; refine HC.out.mono ?_; rintro e w1 ⟨rfl, h⟩)
      go_ret
      exact ⟨rfl, by rw [List.append_nil]; exact HW.out.next h, Bel.fresh h hBw, fun _ => h⟩
    · rw [if_neg (show ¬ (65536 : Int) ≤ (n : Int) by omega), Int.toNat_natCast]
      obtain ⟨k, hk, hP⟩ := head_row s n hs4 (by omega)
      have HC := Lib.hid (lay_at B b L [] _ s n k w hW hL (by decide) (by omega) hk hP)
      rw [List.append_nil] at HC
      clear hW hs4 hl hk hP
      generalize headP s n = P at *
      go_enter Tryz.func180, Tryz.ntmps180
      go_wp2_with (go_at_call 181; refine HC.out.mono ?_; rintro e w1 ⟨rfl, h1, h2⟩)
      go_ret
      exact ⟨rfl, h1, h2, fun h => absurd rfl h⟩
set_option maxRecDepth 100000 in
theorem list_any (B b : Nat) (L : List UInt8) (i : Int) (w : World) (hW : Wr B b L w) (hL : L.length < 10000000) (h0 : -9223372036854775808 ≤ i) (h1 : i ≤ 9223372036854775807) :
    Calls Tryz.prog 194 #[.pointer (some ⟨b, 0, none⟩), .int .i64 i] w fun e w' => e = .returned (.int .i64 (listP 3 i).2) ∧ Wr B b (L ++ (listP 3 i).1) w' ∧ Bel B w w' ∧ ((listP 3 i).2 ≠ 0 → Below w.heap.size w w') := by
  have HC := Lib.hid (begin_any B b L 3 i w (.inl rfl) hW hL h0 h1)
  generalize listP 3 i = Z at *
  clear hW
  go_enter Tryz.func194, Tryz.ntmps194
  go_wp2_with (go_at_call 180; refine HC.out.mono ?_; rintro e w1 ⟨rfl, h1, h2, h3⟩)
  go_ret
  exact ⟨rfl, h1, h2, h3⟩
set_option maxRecDepth 100000 in
theorem map_any (B b : Nat) (L : List UInt8) (i : Int) (w : World) (hW : Wr B b L w) (hL : L.length < 10000000) (h0 : -9223372036854775808 ≤ i) (h1 : i ≤ 9223372036854775807) :
    Calls Tryz.prog 132 #[.pointer (some ⟨b, 0, none⟩), .int .i64 i] w fun e w' => e = .returned (.int .i64 (listP 4 i).2) ∧ Wr B b (L ++ (listP 4 i).1) w' ∧ Bel B w w' ∧ ((listP 4 i).2 ≠ 0 → Below w.heap.size w w') := by
  have HC := Lib.hid (begin_any B b L 4 i w (.inr rfl) hW hL h0 h1)
  generalize listP 4 i = Z at *
  clear hW
  go_enter Tryz.func132, Tryz.ntmps132
  go_wp2_with (go_at_call 180; refine HC.out.mono ?_; rintro e w1 ⟨rfl, h1, h2, h3⟩)
  go_ret
  exact ⟨rfl, h1, h2, h3⟩
end Go.Proofs.YtbkiijndhjmkdaaGreatDoor.Pk
/- Text, Len, New; a writer that is none: all that is asked of a writer. -/
namespace Go.Proofs.YtbkiijndhjmkdaaGreatDoor.Pk
open Go.RowKit

set_option maxRecDepth 100000 in
theorem text_of {w : World} {base : Nat} {v : Value} (L : List UInt8) (h : w.ownsRow base 5 1 v L.length (byV L)) : (convert 100 9 v).run Tryz.prog w = .ok (.string ⟨L.toArray⟩) w := by
  rcases h.2 with ⟨rfl, hn⟩ | ⟨g, cap, cur, rfl, hb, hg, hnc, hcm, hcs, ht⟩
  · have hL : L = [] := List.eq_nil_of_length_eq_zero hn
    subst hL
    rfl
  · exact run_convert_bytes_back (P := Tryz.prog) w 100 9 5 ⟨g, 0, none⟩ cap L Tryz.underlying100 Tryz.underlying5 Tryz.underlying9 (fun j hj => by
      rw [Addr.add_mid, Nat.zero_add, h.cellAt j (by omega), byV, List.getElem?_map, List.getElem?_eq_getElem hj]; rfl)
set_option maxRecDepth 100000 in
theorem text_any (B b : Nat) (L : List UInt8) (w : World) (hW : Wr B b L w) (_hL : L.length < 10000000) :
    Calls Tryz.prog 82 #[.pointer (some ⟨b, 0, none⟩)] w fun e w' => e = .returned (.string ⟨L.toArray⟩) ∧ Below w.heap.size w w' := by
  obtain ⟨v, h1, h2⟩ := hW.h
  obtain ⟨ao, ln, cp, rfl⟩ := slice_of_own h2
  have hc := text_of L h2
  have h0 := (lit_cell h1 0).trans rfl
  clear h1 h2 hW
  go_enter Tryz.func82, Tryz.ntmps82
  go_wp2
  go_ret
  exact ⟨rfl, Below.refl _ _⟩
set_option maxRecDepth 100000 in
theorem new_any (w : World) (hg : Glob w) : Calls Tryz.prog 80 #[] w fun e w' => ∃ b, e = .returned (.pointer (some ⟨b, 0, none⟩)) ∧ Wr w.heap.size b [] w' ∧ Below w.heap.size w w' := by
  have HW : Wr w.heap.size w.heap.size [] (w.alloc (.cells #[.slice none 0 0] 216)) :=
    ⟨hg.size, Nat.le_refl _, hg.next (by0 _ _), _, heap_alloc_new _ _, World.ownsRow_nil _ _ _ _⟩
  have HWH := Lib.hid HW
  clear HW hg
  go_enter Tryz.func80, Tryz.ntmps80
  go_wp2
  go_ret
  exact ⟨_, rfl, HWH.out, by0 _ _⟩
end Go.Proofs.YtbkiijndhjmkdaaGreatDoor.Pk
/- What a field's laying is to do; layRow. -/
namespace Go.Proofs.YtbkiijndhjmkdaaGreatDoor
open Go.RowKit

/-- below B, and all that was there, but what a writer may turn, is as it was -/
structure Sta (B : Nat) (w0 w : World) : Prop where
  s : w0.heap.size ≤ w.heap.size
  k : ∀ (k : Nat) (o : Obj), w0.heap[k]? = some o → ¬ Pk.Wild o → w.heap[k]? = some o
  b : ∀ k : Nat, k < B → k < w0.heap.size → w.heap[k]? = w0.heap[k]?
theorem Sta.refl (B : Nat) (w : World) : Sta B w w := ⟨Nat.le_refl _, fun _ _ h _ => h, fun _ _ _ => rfl⟩
theorem Sta.trans {B : Nat} {a b c : World} (h : Sta B a b) (k : Sta B b c) : Sta B a c := ⟨Nat.le_trans h.s k.s, fun i o hi hn => k.k i o (h.k i o hi hn) hn, fun i hi hl => (k.b i hi (Nat.lt_of_lt_of_le hl h.s)).trans (h.b i hi hl)⟩
theorem Sta.next {B : Nat} {w0 w w' : World} (h : Sta B w0 w) (hb : Below w.heap.size w w') : Sta B w0 w' := h.trans ⟨hb.size, fun k _ hk _ => (hb.block k (lit_lt hk)).trans hk, fun k _ hl => hb.block k hl⟩
theorem Sta.bel {B : Nat} {w0 w w' : World} (h : Sta B w0 w) (hb : Pk.Bel B w w') : Sta B w0 w' := h.trans ⟨hb.size, hb.k, fun k hk _ => hb.block k hk⟩
theorem Sta.only {B : Nat} {w0 w w' : World} {c : Nat} (h : Sta B w0 w) (ho : Only c w w') (hc : w0.heap.size ≤ c) : Sta B w0 w' :=
  ⟨Nat.le_trans h.s ho.size, fun k o hk hn => (ho.block k (lit_lt (h.k k o hk hn)) (by have := lit_lt hk; omega)).trans (h.k k o hk hn), fun k hk hl => (ho.block k (Nat.lt_of_lt_of_le hl h.s) (by omega)).trans (h.b k hk hl)⟩
theorem not_wild {cs : Array Value} {t : TypeId} {fl : Nat × Nat} (h5 : t ≠ 5) (hw : t ≠ 216) : ¬ Pk.Wild (.cells cs t fl) := by
  rintro ⟨cs', fl', h | h⟩ <;> cases h
  · exact h5 rfl
  · exact hw rfl
theorem Only.fresh {c : Nat} {w w' : World} (h : Only c w w') (hc : w.heap.size ≤ c) : Below w.heap.size w w' := ⟨h.os, h.tape, h.output, h.size, fun k hk => h.block k hk (by omega)⟩

theorem Only.fresh' {c : Nat} {w w1 w2 : World} (h : Only c w1 w2) (hc : w.heap.size ≤ c) (hs : w.heap.size ≤ w1.heap.size) : Below w.heap.size w1 w2 := ⟨h.os, h.tape, h.output, h.size, fun k hk => h.block k (by omega) (by omega)⟩
theorem Pk.Bel.kept {B c cap : Nat} {fs : List FV} {w w' : World} (h : Pk.Bel B w w') (ho : OwnF c cap fs w) : w'.heap[c]? = w.heap[c]? := by
  obtain ⟨cs, h1, _⟩ := ho.h
  exact (h.k c _ h1 (not_wild (by decide) (by decide))).trans h1.symm
theorem headP_len4 (n : Nat) (_h : n < 65536) : (headP 4 n).length ≤ 3 := by
  unfold headP
  rw [if_neg (by decide), if_neg (by decide), if_neg (by decide)]
  repeat' split
  all_goals simp [be_length]
/-- what is known of a field: whether it has what it has, whether that may be, its bytes, how many they are at most -/
structure LD where
  th : Bool
  ok : Bool
  bytes : (List UInt8)
  mx : Nat
/-- what comes of laying: it lays, or it gives up with ErrArg -/
def Lays (B b : Nat) (L bytes : (List UInt8)) (ok : Bool) (w : World) (e : Ending) (w' : World) : Prop :=
  (ok = true ∧ e = .returned (.tuple #[]) ∧ Pk.Wr B b (L ++ bytes) w' ∧ Pk.Bel B w w') ∨ (ok = false ∧ Up B 2 0 e w' ∧ Below B w w')
theorem Lays.from {B b : Nat} {L bytes : (List UInt8)} {ok : Bool} {w w1 : World} {e : Ending} {w' : World} (h : Lays B b L bytes ok w1 e w') (hb : Pk.Bel B w w1) : Lays B b L bytes ok w e w' := by
  rcases h with ⟨h1, h2, h3, h4⟩ | ⟨h1, h2, h3⟩
  · exact .inl ⟨h1, h2, h3, hb.trans h4⟩
  · exact .inr ⟨h1, h2, hb.b.trans h3⟩
structure LayF (B : Nat) (w0 : World) (f : FV) (d : LD) : Prop where
  t : There f d.th (Sta B w0)
  ent : Ent f.lF
  len : (f.needed || d.th) = true → d.ok = true → d.bytes.length ≤ d.mx
  c : (f.needed || d.th) = true → ∀ w b L, Sta B w0 w → Pk.Wr B b L w → L.length + d.mx ≤ 9000000 → Calls Tryz.prog f.lF (#[.pointer (some ⟨b, 0, none⟩)] ++ f.lC) w (Lays B b L d.bytes d.ok w)

def toldL (d : FV → LD) (fs : List FV) : List FV := fs.filter fun f => f.needed || (d f).th
def pairB (d : FV → LD) (f : FV) : (List UInt8) := 161 :: f.key :: (d f).bytes
def rowB (d : FV → LD) (fs : List FV) : (List UInt8) := headP 4 (toldL d fs).length ++ (toldL d fs).flatMap (pairB d)
def rowOk (d : FV → LD) (fs : List FV) : Bool := (toldL d fs).all fun f => (d f).ok
def rowMx (d : FV → LD) (fs : List FV) : Nat := 3 + (fs.map fun f => 2 + (d f).mx).sum

theorem laid2c (c : UInt8) : laidP 2 0 [c] = ([161, c], 0) := rfl
theorem sum_sub (d : FV → LD) (fs : List FV) : ((toldL d fs).map fun f => 2 + (d f).mx).sum ≤ (fs.map fun f => 2 + (d f).mx).sum := by
  induction fs with
  | nil => exact Nat.le_refl _
  | cons f fs ih =>
    rw [toldL, List.filter_cons]
    split
    · rw [List.map_cons, List.map_cons, List.sum_cons, List.sum_cons]
      have := ih
      rw [toldL] at this
      omega
    · rw [List.map_cons, List.sum_cons]
      have := ih
      rw [toldL] at this
      omega
theorem pairs_len {B : Nat} {w0 : World} (d : FV → LD) : ∀ (fs : List FV), (∀ f ∈ fs, LayF B w0 f (d f) ∧ (f.needed || (d f).th) = true) → (fs.all fun f => (d f).ok) = true → (fs.flatMap (pairB d)).length ≤ (fs.map fun f => 2 + (d f).mx).sum
  | [], _, _ => Nat.le_refl _
  | f :: fs, h, ho => by
    rw [List.all_cons, Bool.and_eq_true] at ho
    have h1 := (h f (by simp)).1.len (h f (by simp)).2 ho.1
    have h2 := pairs_len d fs (fun g hg => h g (by simp [hg])) ho.2
    rw [List.flatMap_cons, List.length_append, List.map_cons, List.sum_cons, pairB, List.length_cons, List.length_cons]
    omega
theorem sum_take (g : FV → Nat) : ∀ (fs : List FV) (k : Nat) (f : FV), fs[k]? = some f → ((fs.take k).map g).sum + g f ≤ (fs.map g).sum
  | [], _, _, h => by simp at h
  | x :: fs, 0, f, h => by
    cases h
    simp
  | x :: fs, k + 1, f, h => by
    have := sum_take g fs k f (by simpa using h)
    rw [List.take_succ_cons, List.map_cons, List.map_cons, List.sum_cons, List.sum_cons]
    omega

set_option maxRecDepth 100000 in
set_option maxHeartbeats 4000000 in
theorem layRow_any (B : Nat) (w0 : World) (d : FV → LD) (fs : List FV) (hF : ∀ f ∈ fs, LayF B w0 f (d f)) (rb o cap b : Nat) (L : (List UInt8)) (w : World) (hS : Sta B w0 w) (hW : Pk.Wr B b L w) (hr : RowB rb o fs w) (hrb : rb < w.heap.size) (h0 : fs ≠ []) (hn : fs.length ≤ 15) (hL : L.length + rowMx d fs ≤ 9000000) :
    Calls Tryz.prog 81 #[.pointer (some ⟨b, 0, none⟩), .slice (some ⟨rb, o, none⟩) fs.length cap] w (Lays B b L (rowB d fs) (rowOk d fs) w) := by
  have HF : Hid (∀ f ∈ toldL d fs, LayF B w0 f (d f) ∧ (f.needed || (d f).th) = true) := Lib.hid fun f hf => ⟨hF f (List.mem_filter.1 hf).1, (List.mem_filter.1 hf).2⟩
  have HSZ : Hid (B ≤ w.heap.size) := Lib.hid (by have := hW.lt; have := hW.hB; omega)
  have HC := Lib.hid (fclone_any fs rb o cap w hr hrb (by omega) h0)
  have HPD : Hid (Pred 130 #[] (fun f => !(f.needed || (d f).th)) fs (Sta B w0)) := Lib.hid ⟨fun _ _ => by kernel_rfl, fun f hf w hw => layRow1_any f (d f).th (Sta B w0) (hF f hf).t w hw, fun _ _ h hb => h.next hb⟩
  have HW := Lib.hid hW
  have HS := Lib.hid hS
  have hll : (toldL d fs).length ≤ 15 := Nat.le_trans (List.length_filter_le _ _) hn
  have HMX : Hid (L.length + 3 + ((toldL d fs).map fun f => 2 + (d f).mx).sum ≤ 9000000) := Lib.hid (by have := sum_sub d fs; rw [rowMx] at hL; omega)
  have HFS : Hid (fs.length < 1000) := Lib.hid (by omega)
  have HTD : Hid (fs.filter (fun f => !(!(f.needed || (d f).th))) = toldL d fs) := Lib.hid (by simp [toldL])
  have HRB : Hid (rowB d fs = headP 4 (toldL d fs).length ++ (toldL d fs).flatMap (pairB d)) := Lib.hid rfl
  have HRO : Hid (rowOk d fs = (toldL d fs).all fun f => (d f).ok) := Lib.hid rfl
  generalize rowB d fs = RB at *
  generalize rowOk d fs = RO at *
  clear hF hS hW hr hrb h0 hn hL
  go_enter Tryz.func81, Tryz.ntmps81
  go_upto_region 1 with (first | (go_at_call 129; refine HC.out.mono ?_; rintro e w1 ⟨c, cap1, rfl, hc0, ho1, hb1⟩; have HO1 := Lib.hid ho1; have HS1 := Lib.hid (HS.out.next hb1)) | (go_at_call 128; refine (deleteFunc_any HPD.out c cap1 w1 HO1.out HFS.out HS1.out (fun w w' h ho => h.only ho (Nat.le_trans HS.out.s hc0))).mono ?_; rintro e w2 ⟨m, rfl, hm, ho2, hk2⟩; have HMM := Lib.hid hm; clear hm))
  have hm := HMM.out
  rw [HTD.out] at ho2 hm
  clear HMM
  have hbb2 := HSZ.out
  have HB2 : Hid (Pk.Bel B w w2) := Lib.hid (Pk.Bel.fresh (hb1.trans ((hk2.fresh' hc0 hb1.size))) hbb2)
  have HW2 := Lib.hid (HW.out.next (hb1.trans ((hk2.fresh' hc0 hb1.size))))
  have HS2 := Lib.hid (HS1.out.only hk2 (Nat.le_trans HS.out.s hc0))
  generalize toldL d fs = ts at *
  subst hm
  have HO2 := Lib.hid ho2
  have HCB : Hid (B ≤ c ∧ b < c) := Lib.hid (by have := HW.out.lt; omega)
  have hlp : Pk.listP 4 (ts.length : Int) = (headP 4 ts.length, 0) := by rw [Pk.listP, if_neg (by omega), if_neg (by omega)]; rfl
  have HM0 := Pk.map_any B b L (ts.length : Int) w2 HW2.out (by have := HMX.out; omega) (by omega) (by omega)
  rw [hlp] at HM0
  simp only [ne_eq, not_true_eq_false, false_implies, and_true] at HM0
  have HM := Lib.hid HM0
  have hh1 : (headP 4 ts.length).length ≤ 3 := headP_len4 ts.length (by omega)
  have HH1 := Lib.hid hh1
  obtain ⟨HD, hHD⟩ : ∃ HD, headP 4 ts.length = HD := ⟨_, rfl⟩
  rw [hHD] at HM HH1
  have HRB2 : Hid (RB = HD ++ ts.flatMap (pairB d)) := Lib.hid (by rw [HRB.out, hHD])
  have tl : (ts.length : Int) < 1000 := by omega
  clear ho2 hb1 hk2 HTD HC HM0 hlp hHD hh1 HRB HO1 HS1 HPD hll HFS
  go_wp2_with (go_at_call 132; refine HM.out.mono ?_; rintro e w3 ⟨rfl, hw3, hb3⟩; have HW3 := Lib.hid hw3; have HB3 := Lib.hid (HB2.out.trans hb3); have HS3 := Lib.hid (HS2.out.bel hb3); have HO3 := Lib.hid (HO2.out.next ((hb3.kept HO2.out))); clear hw3 hb3)
  go_loopw [16] (fun i wr => ∃ k : Nat, k ≤ ts.length ∧ i = .int .i64 (k : Int) ∧ Hid (((ts.take k).all fun f => (d f).ok) = true) ∧ Hid (Pk.Wr B b (L ++ HD ++ (ts.take k).flatMap (pairB d)) wr) ∧ Hid (Pk.Bel B w wr) ∧ Hid (Sta B w0 wr) ∧ Hid (OwnF c cap1 ts wr)) (fun i _ => (ts.length : Int).toNat - (intOf i).toNat)
  case atStart => exact ⟨0, Nat.zero_le _, rfl, Lib.hid rfl, Lib.hid (by simpa using HW3.out), HB3, HS3, HO3⟩
  case round =>
    obtain ⟨k, hk, rfl, HK, HW4, HB4, HS4, HO4⟩ := hrel
    by_cases hke : k = ts.length
    · subst hke
      have hl : ¬ (ts.length : Int) < (ts.length : Int) := by omega
      have HE : Hid (Lays B b L RB RO w (.returned (.tuple #[])) wr) := Lib.hid (by
        have h1 := HK.out
        have h2 := HW4.out
        rw [List.take_length] at h1 h2
        exact .inl ⟨by rw [HRO.out]; exact h1, rfl, by rw [HRB2.out, ← List.append_assoc]; exact h2, HB4.out⟩)
      go_wp2
      exact bodyPost_end (results_none rfl _ _ _) rfl HE.out
    · have hkl : k < ts.length := by omega
      obtain ⟨f, hf⟩ : ∃ f, ts[k]? = some f := ⟨_, List.getElem?_eq_getElem hkl⟩
      have htk : ts.take (k + 1) = ts.take k ++ [f] := by rw [List.take_add_one, hf]; rfl
      have hlf := HF.out f (List.mem_of_getElem? hf)
      have hent := hlf.1.ent
      simp only [Ent] at hent
      have hps := pairs_len (B := B) (w0 := w0) d (ts.take k) (fun g hg => HF.out g (List.mem_of_mem_take hg)) HK.out
      have hst := sum_take (fun f => 2 + (d f).mx) ts k f hf
      have hmx := HMX.out
      have hh1 := HH1.out
      obtain ⟨L4, hL4⟩ : ∃ L4, L ++ HD ++ (ts.take k).flatMap (pairB d) = L4 := ⟨_, rfl⟩
      have hl4 : L4.length + 2 + (d f).mx ≤ 9000000 := by rw [← hL4, List.length_append, List.length_append]; omega
      rw [hL4] at HW4
      have HS5 := Pk.str_any B b L4 [f.key] _ (HW4.out.next (by0 wr (.cells #[.string ⟨#[f.key]⟩, .bool f.needed, .func (.func f.tF) #[] f.tC, .func (.func f.lF) #[] f.lC, .func (.func f.rF) #[] f.rC] 150))) (by omega) (by simp)
      rw [laid2c] at HS5
      simp only [ne_eq, not_true_eq_false, false_implies, and_true] at HS5
      have HSTR := Lib.hid HS5
      have HLF := Lib.hid hlf
      have HN := Lib.hid (heap_alloc_new wr (.cells #[.string ⟨#[f.key]⟩, .bool f.needed, .func (.func f.tF) #[] f.tC, .func (.func f.lF) #[] f.lC, .func (.func f.rF) #[] f.rC] 150))
      have HSa := Lib.hid (HS4.out.next (by0 wr (.cells #[.string ⟨#[f.key]⟩, .bool f.needed, .func (.func f.tF) #[] f.tC, .func (.func f.lF) #[] f.lC, .func (.func f.rF) #[] f.rC] 150)))
      have HBa := Lib.hid (HB4.out.trans (Pk.Bel.fresh (by0 wr (.cells #[.string ⟨#[f.key]⟩, .bool f.needed, .func (.func f.tF) #[] f.tC, .func (.func f.lF) #[] f.lC, .func (.func f.rF) #[] f.rC] 150)) (by have := HW4.out.lt; have := HW4.out.hB; omega)))
      have HOa := Lib.hid (HO4.out.next (w' := wr.alloc (.cells #[.string ⟨#[f.key]⟩, .bool f.needed, .func (.func f.tF) #[] f.tC, .func (.func f.lF) #[] f.lC, .func (.func f.rF) #[] f.rC] 150)) (heap_alloc_old _ _ HO4.out.lt))
      obtain ⟨c0, c1, c2, c3, c4⟩ := HO4.out.r.cells k f hf
      simp only [Nat.zero_add] at c0 c1 c2 c3 c4
      have hl : (k : Int) < (ts.length : Int) := by omega
      have i0 : (0 : Int) ≤ (k : Int) := by omega
      have HTK := Lib.hid htk
      have HL4 := Lib.hid hL4
      have HLL4 := Lib.hid hl4
      clear hke HS5 hlf hf htk hps hst hmx hh1 hL4 hl4
      go_wp2_with (go_at_call 133; refine HSTR.out.mono ?_; rintro e w5 ⟨rfl, hw5, hb5⟩; have hn5 := hb5.k _ _ HN.out (not_wild (by decide) (by decide)); have n3 := (lit_cell hn5 3).trans rfl; have HW5 := Lib.hid hw5; have HB5 := Lib.hid (HBa.out.trans hb5); have HS5 := Lib.hid (HSa.out.bel hb5); have HO5 := Lib.hid (HOa.out.next (hb5.kept HOa.out)); clear hw5 hb5)
      refine (HLF.out.1.c HLF.out.2 w5 b _ HS5.out HW5.out (by have := HLL4.out; simp; omega)).mono ?_
      rintro e w6 (⟨hok, rfl, hw6, hb6⟩ | ⟨hok, ⟨g, hg1, rfl, hg2, hg3⟩, hb6⟩)
      · have HK6 : Hid (((ts.take (k + 1)).all fun f => (d f).ok) = true) := Lib.hid (by rw [HTK.out, List.all_append, HK.out]; simp [hok])
        have HW6 : Hid (Pk.Wr B b (L ++ HD ++ (ts.take (k + 1)).flatMap (pairB d)) w6) := Lib.hid (by
          rw [HTK.out, List.flatMap_append, ← List.append_assoc, HL4.out]
          simpa [pairB] using hw6)
        have HB6 := Lib.hid (HB5.out.trans hb6)
        have HS6 := Lib.hid (HS5.out.bel hb6)
        have HO6 := Lib.hid (HO5.out.next (hb6.kept HO5.out))
        clear hw6 hb6 hok n3 hn5
        go_wp2
        go_roundw
        case rel => exact ⟨k + 1, hkl, by go_num, HK6, HW6, HB6, HS6, HO6⟩
        case measure => simp [intOf] <;> omega
      · have HE : Hid (Lays B b L RB RO w (upF g) w6) := Lib.hid (.inr ⟨by
          rw [HRO.out, ← List.take_append_drop (k + 1) ts, List.all_append, HTK.out, List.all_append]
          simp [hok], ⟨g, hg1, rfl, hg2, hg3⟩, HB5.out.b.trans hb6⟩)
        exact ⟨rfl, HE.out⟩
end Go.Proofs.YtbkiijndhjmkdaaGreatDoor
/- A region whose first n operations only read, and whose later ones each wait for one of those that are not among the first: the first n may be walked in the order of the text, whatever order is drawn. -/
namespace Go.Proofs.YtbkiijndhjmkdaaGreatDoor
open Go

section
variable {P : Program} {ops : Array Oper} {md : Region.Mode} {w : World}

/-- each operation behind number n waits for an earlier one that is not among the first n -/
def lateB (md : Region.Mode) (ops : Array Oper) (n : Nat) : Bool :=
  (List.range ops.size).all fun t => decide (t ≤ n) || (List.range t).any fun s => decide (n ≤ s) && Region.waitsFor md ops t s

/-- each of the first n, number 0 aside, is waited for by a later one, up to number n -/
def sinkFrom (md : Region.Mode) (ops : Array Oper) (n : Nat) : Bool :=
  (List.range n).all fun i => decide (i < 1) || (List.range (n + 1)).any fun j => decide (i < j) && Region.waitsFor md ops j i

theorem not_yet {j i : Nat} {listed : Array Bool} (hj : j ∈ Region.ready md ops listed) (hi : Region.waitsFor md ops j i = true) : listed.getD i false = true := by
  obtain ⟨_, oj, hoj, hall⟩ := mem_ready.1 hj
  obtain ⟨o', ho', e, he, hb, hon⟩ := Region.waitsFor_spec hi
  obtain rfl : o' = oj := Option.some.inj (ho'.symm.trans hoj)
  rw [← hon]; exact hall e he hb

/-- while one of the first n is left, none of the others is ready -/
theorem only_first {n : Nat} {listed : Array Bool} (hs : sinkFrom md ops n = true) (hl : lateB md ops n = true) (hn : n < ops.size) (inv : HeadInv md ops n listed) :
    ∀ (m i : Nat), n - i = m → 1 ≤ i → i < n → listed.getD i true = false → ∀ j ∈ Region.ready md ops listed, j < n := by
  intro m
  induction m using Nat.strongRecOn with
  | _ m ih =>
    intro i hm hi1 hin hun j hj
    refine Nat.lt_of_not_le fun hge => ?_
    have hjs : j < ops.size := by
      obtain ⟨_, oj, hoj, _⟩ := mem_ready.1 hj
      exact (Array.getElem?_eq_some_iff.1 hoj).1
    by_cases hjn : j = n
    · subst hjn
      have h1 := List.all_eq_true.1 hs i (by simpa using hin)
      simp only [Bool.or_eq_true, decide_eq_true_eq] at h1
      have h1 := h1.resolve_left (by omega)
      obtain ⟨k, hk, hk2⟩ := List.any_eq_true.1 h1
      simp only [Bool.and_eq_true, decide_eq_true_eq] at hk2
      have hkn : k < j + 1 := by simpa using hk
      by_cases e : k = j
      · subst e
        have := not_yet hj hk2.2
        rw [getD_both hun] at this; cases this
      · have hku : listed.getD k false = false := by
          cases hc : listed.getD k false with
          | false => rfl
          | true =>
            obtain ⟨o', ho', e', he', hb', hon'⟩ := Region.waitsFor_spec hk2.2
            have := inv.closed k o' ho' hc e' he' hb'
            rw [hon', getD_both hun] at this; cases this
        have hku2 := getD_in (by rw [inv.size]; omega) hku
        exact absurd (ih (j - k) (by omega) k rfl (by omega) (by omega) hku2 j hj) (by omega)
    · have h1 := List.all_eq_true.1 hl j (by simpa using hjs)
      simp only [Bool.or_eq_true, decide_eq_true_eq] at h1
      rcases h1 with h1 | h1
      · omega
      · obtain ⟨s, hs1, hs2⟩ := List.any_eq_true.1 h1
        simp only [Bool.and_eq_true, decide_eq_true_eq] at hs2
        have hsj : s < j := by simpa using hs1
        have := not_yet hj hs2.2
        rw [getD_both (inv.tail s hs2.1 (by omega))] at this; cases this

/-- one of the first, that may come up now and is apart from what does not wait for it, may be taken now -/
theorem first_now {n i : Nat} {oi : Oper} {v : Value} {L : Array Bool → Act → Prop} (hi : ops[i]? = some oi) (hsel : Region.noSelect ops = true)
    (hs : sinkFrom md ops n = true) (hl : lateB md ops n = true) (hn : n < ops.size) (hi1 : 1 ≤ i) (hin : i < n) (hdone : ∀ listed a, L listed a → ∀ j ∈ Region.ready md ops listed, n ≤ j) :
    ∀ (f : Nat) (listed : Array Bool) (a : Act), HeadInv md ops n listed →
      (∀ j oj, ops[j]? = some oj → j ≠ i → listed.getD j true = false → (∀ e ∈ oj.after, Region.binds md e = true → e.on ≠ i) → oi.apart ops oj = true) →
      i ∈ Region.ready md ops listed → YieldsAt P ops w oi v a →
      wpAnyL P md ops w n L f (listed.setIfInBounds i true) (a.put oi.dst v) → wpAnyL P md ops w n L (f + 1) listed a := by
  have sel := Region.noSelect_spec hsel
  intro f
  induction f with
  | zero =>
    intro listed a inv _ hr hy H
    have hun := (mem_ready.1 hr).1
    refine ⟨List.ne_nil_of_mem hr, fun j hj => ?_⟩
    have hjn := only_first hs hl hn inv _ i rfl hi1 hin hun j hj
    refine ⟨hjn, ?_⟩
    by_cases hji : j = i
    · subst hji; exact hy.stOp hi H
    · exact absurd (hdone _ _ H j (ready_mono hj hji)) (by omega)
  | succ f ih =>
    intro listed a inv hfree hr hy H
    have hun := (mem_ready.1 hr).1
    refine ⟨List.ne_nil_of_mem hr, fun j hj => ?_⟩
    have hjn := only_first hs hl hn inv _ i rfl hi1 hin hun j hj
    refine ⟨hjn, ?_⟩
    by_cases hji : j = i
    · subst hji; exact hy.stOp hi H
    · obtain ⟨hjun, oj, hoj, hall⟩ := mem_ready.1 hj
      have hnot : ∀ e ∈ oj.after, Region.binds md e = true → e.on ≠ i := by
        intro e he hb heq
        have h1 := hall e he hb
        rw [heq, getD_both hun] at h1; cases h1
      refine stOp_mono (fun a' h3 => ih (listed.setIfInBounds j true) a' (inv.set hj hjn) ?_ (ready_mono hr (Ne.symm hji)) h3.1 ?_)
        (stOp_put hoj (hfree j oj hoj hji hjun hnot) (fun cs b => sel i oi cs b hi) (fun cs b => sel j oj cs b hoj) hy (H.2 j (ready_mono hj hji)).2)
      · intro k ok hk hki hku hno
        refine hfree k ok hk hki ?_ hno
        by_cases hjk : j = k
        · subst hjk; exact hjun
        · rwa [getD_set_ne true hjk] at hku
      · rw [Array.setIfInBounds_comm _ _ hji]; exact h3.2

/-- the first n, one behind the other, each ready and free in its turn -/
def headB (md : Region.Mode) (ops : Array Oper) : Nat → Nat → Array Bool → Bool
  | 0, k, listed => (Region.ready md ops listed).all fun j => decide (k ≤ j)
  | f + 1, k, listed => (Region.ready md ops listed).contains k && Region.free md ops listed k && headB md ops f (k + 1) (listed.setIfInBounds k true)
/-- what is listed behind them -/
def listedTo : Nat → Nat → Array Bool → Array Bool
  | 0, _, listed => listed
  | f + 1, k, listed => listedTo f (k + 1) (listed.setIfInBounds k true)

theorem head_walk {n : Nat} {Lq : Act → Prop} (hsel : Region.noSelect ops = true) (hs : sinkFrom md ops n = true) (hl : lateB md ops n = true) (hn : n < ops.size) (LN : Array Bool) (hLN : (Region.ready md ops LN).all (fun j => decide (n ≤ j)) = true) :
    ∀ (l : List Oper) (k : Nat) (listed : Array Bool) (a : Act), (∀ j, j < l.length → l[j]? = ops[k + j]?) → 1 ≤ k → k + l.length = n → HeadInv md ops n listed →
    headB md ops l.length k listed = true → listedTo l.length k listed = LN → wpStill P ops w Lq l a →
    wpAnyL P md ops w n (fun listed' a' => listed' = LN ∧ Lq a') l.length listed a
  | [], _, _, _, _, _, _, _, _, hT, h => ⟨hT, h⟩
  | o :: l, k, listed, a, hlo, hk1, hk, inv, hB, hT, h => by
    have h0 : ops[k]? = some o := by simpa using (hlo 0 (by simp)).symm
    simp only [List.length_cons, headB, Bool.and_eq_true] at hB
    obtain ⟨⟨hr, hf⟩, hB'⟩ := hB
    have hkn : k < n := by simp only [List.length_cons] at hk; omega
    have hr' : k ∈ Region.ready md ops listed := by simpa using hr
    have hst : stOp P ops w k (wpStill P ops w Lq l) a := by unfold stOp; simp only [h0]; exact h
    obtain ⟨v, hy, hK⟩ := yieldsAt_of_stOp h0 hst
    exact first_now h0 hsel hs hl hn hk1 hkn (fun listed' a' hL j hj => by
        have := List.all_eq_true.1 hLN j (by rw [← hL.1]; exact hj)
        simpa using this) l.length listed a inv (Region.free_spec h0 hf) hr' hy
      (head_walk hsel hs hl hn LN hLN l (k + 1) _ _ (fun j hj => by have := hlo (j + 1) (by simp; omega); simpa [Nat.add_assoc, Nat.add_comm 1 j] using this) (by omega) (by simp only [List.length_cons] at hk; omega) (inv.set hr' hkn) hB' hT hK)

/-- all of it that a kernel can ask of a region written out; number 0 is taken ahead of all -/
def headsB (md : Region.Mode) (ops : Array Oper) (m : Nat) : Bool :=
  Region.noSelect ops && decide (m + 1 < ops.size) && sinkFrom md ops (m + 1) && lateB md ops (m + 1) && (Region.ready md ops (Array.replicate ops.size false)).contains 0 && Region.free md ops (Array.replicate ops.size false) 0 &&
    headB md ops m 1 ((Array.replicate ops.size false).setIfInBounds 0 true) && (Region.ready md ops (listedTo m 1 ((Array.replicate ops.size false).setIfInBounds 0 true))).all fun j => decide (m + 1 ≤ j)

theorem wp_region_head {id : Nat} {Q : Exit → Act → World → Prop} {a : Act} {w : World} {o : Oper} {l : List Oper} (m : Nat) (v : Value) (hm : P.follows .mixedOrders = true) (hB : headsB .any (o :: l).toArray m = true)
    (hQ : ∀ c a w, Q (.panic c) (a.put o.dst v) w → Q (.panic c) a w) (hy : Yields P (o :: l).toArray o v a)
    (h : wpStill P (o :: l).toArray w.drew (fun a' => wpAny P .any (o :: l).toArray Q ((o :: l).toArray.size - (m + 1)) (listedTo m 1 ((Array.replicate (o :: l).toArray.size false).setIfInBounds 0 true)) a' w.drew) (l.take m) (a.put o.dst v)) :
    (Code.region id (o :: l).toArray true).wp P Q a w := by
  simp only [headsB, Bool.and_eq_true, decide_eq_true_eq] at hB
  obtain ⟨⟨⟨⟨⟨⟨⟨hsel, hn⟩, hs⟩, hl⟩, hr⟩, hf⟩, hh⟩, hLN⟩ := hB
  have hn' : m < l.length := by simpa using hn
  have htl : (l.take m).length = m := by simp; omega
  have inv0 : HeadInv .any (o :: l).toArray (m + 1) (Array.replicate (o :: l).toArray.size false) :=
    ⟨by simp, fun j oj _ hl => (by rw [getD_replicate_false] at hl; cases hl), fun t _ ht => getD_in (by simpa using ht) (getD_replicate_false _ _)⟩
  have H := head_walk (md := .any) (P := P) (w := w.drew) hsel hs hl hn _ hLN (l.take m) 1 _ (a.put o.dst v) (fun j hj => by
    have hj' : j < m := by rw [htl] at hj; exact hj
    simp [hj', Nat.add_comm 1 j]) (Nat.le_refl _) (by rw [htl]; omega) (inv0.set (by simpa using hr) (by omega)) (by rw [htl]; exact hh) (by rw [htl]) h
  refine wp_region_any hm ?_
  have h2 := wpAny_of_head (Q' := Q) (g := (o :: l).toArray.size - (m + 1)) (fun listed a' hL => by rw [hL.1]; exact hL.2) _ _ _ H
  have es : (o :: l).toArray.size = (m + ((o :: l).toArray.size - (m + 1))) + 1 := by simp; omega
  rw [htl] at h2
  have h3 : wpAny P .any (o :: l).toArray Q (m + ((o :: l).toArray.size - (m + 1)) + 1) (Array.replicate (o :: l).toArray.size false) a w.drew := wpAny_take (by simp) hsel hf hr hQ hy h2
  rwa [← es] at h3
end
end Go.Proofs.YtbkiijndhjmkdaaGreatDoor
/- The program's table of rows; the row of a first byte, or it gives up. -/
namespace Go.Proofs.YtbkiijndhjmkdaaGreatDoor
open Go.RowKit

/-- a row: its sort, first and last byte, the bytes of the number behind it, the least number -/
structure RowQ where
  s : Nat
  f : Nat
  l : Nat
  size : Nat
  least : Nat
def rowsL : List RowQ := [⟨0, 0, 127, 0, 0⟩, ⟨0, 204, 204, 1, 128⟩, ⟨0, 205, 205, 2, 256⟩, ⟨0, 206, 206, 4, 65536⟩, ⟨0, 207, 207, 8, 4294967296⟩, ⟨1, 196, 196, 1, 0⟩, ⟨1, 197, 197, 2, 256⟩,
  ⟨2, 160, 191, 0, 0⟩, ⟨2, 217, 217, 1, 32⟩, ⟨2, 218, 218, 2, 256⟩, ⟨3, 144, 159, 0, 0⟩, ⟨3, 220, 220, 2, 16⟩, ⟨4, 128, 143, 0, 0⟩, ⟨4, 222, 222, 2, 16⟩]
def rowAt (i : Nat) : RowQ := rowsL.getD i ⟨0, 0, 0, 0, 0⟩
def rowV (r : RowQ) : List Value := [.int .i64 (r.s : Int), .int .u8 (r.f : Int), .int .u8 (r.l : Int), .int .i64 (r.size : Int), .int .u64 (r.least : Int)]
def hitB (r : RowQ) (s c : Nat) : Bool := r.s == s && decide (r.f ≤ c) && decide (c ≤ r.l)
/-- the first row that a byte is of -/
def findR (s c : Nat) : Option RowQ := rowsL.find? fun r => hitB r s c
theorem find_row (s c : Nat) (hs : s < 5) (hc : c < 256) : (findR s c = none ∧ rowU s c = (-1, 0, 0)) ∨ (∃ r, findR s c = some r ∧ rowU s c = ((r.size : Int), c - r.f, r.least) ∧ r.f ≤ c) := by
  have h : ∀ s : Fin 5, ∀ c : Fin 256, (match findR s.1 c.1 with | none => decide (rowU s.1 c.1 = (-1, 0, 0)) | some r => decide (rowU s.1 c.1 = ((r.size : Int), c.1 - r.f, r.least)) && decide (r.f ≤ c.1)) = true := by decide +kernel
  have h1 := h ⟨s, hs⟩ ⟨c, hc⟩
  simp only at h1
  cases hf : findR s c with
  | none => rw [hf] at h1; exact .inl ⟨rfl, of_decide_eq_true h1⟩
  | some r =>
    rw [hf] at h1
    rw [Bool.and_eq_true, decide_eq_true_iff, decide_eq_true_iff] at h1
    exact .inr ⟨r, rfl, h1.1, h1.2⟩
theorem find_at (s c i : Nat) (hi : i < 14) (hb : hitB (rowAt i) s c = true) (hn : ∀ j, j < i → hitB (rowAt j) s c = false) : findR s c = some (rowAt i) := by
  have hl : rowsL.length = 14 := rfl
  have hr : ∀ j (h : j < 14), rowAt j = rowsL[j]'(by omega) := fun j h => by rw [rowAt, List.getD_eq_getElem?_getD, List.getElem?_eq_getElem (by omega)]; rfl
  unfold findR
  rw [List.find?_eq_some_iff_getElem]
  refine ⟨hb, i, by omega, (hr i hi).symm, fun j hj => ?_⟩
  have := hn j hj
  rw [hr j (by omega)] at this
  simp [this]
theorem find_none (s c : Nat) (hn : ∀ j, j < 14 → hitB (rowAt j) s c = false) : findR s c = none := by
  have hl : rowsL.length = 14 := rfl
  unfold findR
  rw [List.find?_eq_none]
  intro r hr
  obtain ⟨j, hj, rfl⟩ := List.getElem_of_mem hr
  have := hn j (by omega)
  rw [show rowAt j = rowsL[j]'hj by rw [rowAt, List.getD_eq_getElem?_getD, List.getElem?_eq_getElem hj]; rfl] at this
  simp [this]

/-- the package's table -/
structure GlobR (w : World) : Prop where
  size : 3 < w.heap.size
  c : ∀ i j, i < 14 → j < 5 → w.cell? ⟨3, i * 5 + j, none⟩ = (rowV (rowAt i))[j]?
theorem GlobR.only {A : Nat} {w w' : World} (h : GlobR w) (ho : Only A w w') (hA : 3 ≠ A) : GlobR w' :=
  ⟨Nat.lt_of_lt_of_le h.size ho.size, fun i j hi hj => (World.cell?_of_block (a := ⟨3, i * 5 + j, none⟩) (ho.block _ h.size hA)).trans (h.c i j hi hj)⟩
theorem GlobR.next {w w' : World} (h : GlobR w) (hb : Below w.heap.size w w') : GlobR w' :=
  ⟨Nat.lt_of_lt_of_le h.size hb.size, fun i j hi hj => (hb.cell (p := ⟨3, i * 5 + j, none⟩) h.size).trans (h.c i j hi hj)⟩
theorem GlobR.cells {w : World} (h : GlobR w) (i : Nat) (hi : i < 14) : w.cell? ⟨3, i * 5, none⟩ = some (.int .i64 ((rowAt i).s : Int)) ∧ w.cell? ⟨3, i * 5 + 1, none⟩ = some (.int .u8 ((rowAt i).f : Int)) ∧
    w.cell? ⟨3, i * 5 + 2, none⟩ = some (.int .u8 ((rowAt i).l : Int)) ∧ w.cell? ⟨3, i * 5 + 3, none⟩ = some (.int .i64 ((rowAt i).size : Int)) ∧ w.cell? ⟨3, i * 5 + 4, none⟩ = some (.int .u64 ((rowAt i).least : Int)) :=
  ⟨h.c i 0 hi (by decide), h.c i 1 hi (by decide), h.c i 2 hi (by decide), h.c i 3 hi (by decide), h.c i 4 hi (by decide)⟩

set_option maxRecDepth 100000 in
set_option maxHeartbeats 1000000 in
theorem rowOf_any (s c A : Nat) (w : World) (hg : GlobR w) :
    Calls Tryz.prog 214 #[.int .i64 (s : Int), .int .u8 (c : Int)] w fun e w' => (findR s c = none ∧ Gave 5 A w e w') ∨ (∃ r, findR s c = some r ∧ e = .returned (.agg (rowV r).toArray) ∧ Below w.heap.size w w') := by
  have HG := Lib.hid (hg.next (by0 w (.cells #[.int .i64 0, .int .u8 0, .int .u8 0, .int .i64 0, .int .u64 0] 291)))
  have HB := Lib.hid (by0 w (.cells #[.int .i64 0, .int .u8 0, .int .u8 0, .int .i64 0, .int .u64 0] 291))
  have HN := Lib.hid (heap_alloc_new w (.cells #[.int .i64 0, .int .u8 0, .int .u8 0, .int .i64 0, .int .u64 0] 291))
  clear hg
  go_enter Tryz.func214, Tryz.ntmps214
  go_wp2
  generalize w.alloc (.cells #[.int .i64 0, .int .u8 0, .int .u8 0, .int .i64 0, .int .u64 0] 291) = w1 at *
  go_step3
  go_wp2
  go_step3
  go_wp2
  go_loopw [5] (fun s5 wr => wr = w1 ∧ ∃ i : Nat, s5 = .int .i64 (i : Int) ∧ i ≤ 14 ∧ Hid (∀ j, j < i → hitB (rowAt j) s c = false))
    (fun s5 _ => 14 - (intOf s5).toNat)
  case atStart => exact ⟨rfl, 0, rfl, by decide, Lib.hid (fun j hj => by omega)⟩
  case round =>
    obtain ⟨hwr, i, rfl, hi, HJ⟩ := hrel
    subst hwr
    by_cases h14 : i = 14
    · subst h14
      have HG2 := Lib.hid (giveUp_any 5 A wr)
      have HOB := Lib.hid (Only.of_below (b := A) HB.out)
      have HF := Lib.hid (find_none s c HJ.out)
      clear hi
      go_wp2_with (go_at_call 157; refine HG2.out.mono ?_; rintro e w2 ⟨⟨f, hf, rfl, hc⟩, ho⟩)
      rw [Exit.noGoto_panic]
      exact ⟨rfl, .inl ⟨HF.out, (⟨⟨f, hf, rfl, hc⟩, ho⟩ : Gave 5 A wr _ w2).from HOB.out⟩⟩
    · have hi2 : i < 14 := by omega
      obtain ⟨g0, g1, g2, g3, g4⟩ := HG.out.cells i hi2
      have e14 : ((i : Int) == 14) = false := by rw [beq_eq_false_iff_ne]; omega
      have i0 : (0 : Int) ≤ (i : Int) := by omega
      have i1 : (i : Int) < 14 := by omega
      have r0 := (lit_cell HN.out 0).trans rfl
      have r1 := (lit_cell HN.out 1).trans rfl
      have r2 := (lit_cell HN.out 2).trans rfl
      have r3 := (lit_cell HN.out 3).trans rfl
      have r4 := (lit_cell HN.out 4).trans rfl
      have f0 := lit_free HN.out 0
      have f1 := lit_free HN.out 1
      have f2 := lit_free HN.out 2
      have f3 := lit_free HN.out 3
      have f4 := lit_free HN.out 4
      have HI := Lib.hid hi2
      clear hi h14 hi2
      cases hb : hitB (rowAt i) s c with
      | true =>
        have HF := Lib.hid (find_at s c i HI.out hb HJ.out)
        unfold hitB at hb
        generalize rowAt i = r at *
        obtain ⟨rs, rf, rl, rz, rm⟩ := r
        simp only [Bool.and_eq_true, decide_eq_true_eq, beq_iff_eq] at hb
        obtain ⟨⟨rfl, h1⟩, h2⟩ := hb
        have d1 : (rf : Int) ≤ (c : Int) := by omega
        have d2 : (c : Int) ≤ (rl : Int) := by omega
        clear h1 h2 HI
        go_wp2
        refine bodyPost_ret (v := .agg (rowV ⟨rs, rf, rl, rz, rm⟩).toArray) (by simp [results, Tryz.results214, go_sem, rowV, *]) rfl (.inr ⟨_, HF.out, rfl, ?_⟩)
        have hN : w.heap.size ≤ w.heap.size := Nat.le_refl _
        exact ((((HB.out.setCell hN _).setCell hN _).setCell hN _).setCell hN _).setCell hN _
      | false =>
        have HJ2 := Lib.hid (show ∀ j, j < i + 1 → hitB (rowAt j) s c = false from fun j hj => by
          by_cases hji : j < i
          · exact HJ.out j hji
          · obtain rfl : j = i := by omega
            exact hb)
        unfold hitB at hb
        have H14 := Lib.hid (show i + 1 ≤ 14 by have := HI.out; omega)
        have HM := Lib.hid (show 14 - (i + 1) < 14 - i by have := HI.out; omega)
        clear HJ HI HG r0 r1 r2 r3 r4 f0 f1 f2 f3 f4 HN
        generalize hrr : rowAt i = r at hb g0 g1 g2 g3 g4
        have HR := Lib.hid hrr
        clear hrr
        obtain ⟨rs, rf, rl, rz, rm⟩ := r
        simp only at hb g0 g1 g2 g3 g4
        by_cases h0 : rs = s
        · subst h0
          by_cases h1 : rf ≤ c
          · have h2 : ¬ c ≤ rl := by
              intro h2
              simp [h1, h2] at hb
            have d1 : (rf : Int) ≤ (c : Int) := by omega
            have d2 : ¬ (c : Int) ≤ (rl : Int) := by omega
            clear h1 h2 hb
            go_wp2
            go_roundw
            case rel => exact ⟨trivial, i + 1, by simp, H14.out, HJ2⟩
            case measure => simp [intOf] <;> omega
          · have d1 : ¬ (rf : Int) ≤ (c : Int) := by omega
            clear h1 hb
            go_wp2
            go_roundw
            case rel => exact ⟨trivial, i + 1, by simp, H14.out, HJ2⟩
            case measure => simp [intOf] <;> omega
        · have d0 : ((rs : Int) == (s : Int)) = false := by rw [beq_eq_false_iff_ne]; omega
          clear h0 hb
          go_wp2
          go_roundw
          case rel => exact ⟨trivial, i + 1, by simp, H14.out, HJ2⟩
          case measure => simp [intOf] <;> omega
end Go.Proofs.YtbkiijndhjmkdaaGreatDoor
