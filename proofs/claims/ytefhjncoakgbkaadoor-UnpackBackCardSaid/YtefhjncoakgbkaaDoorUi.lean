/- A thing laid by hand: the law's high and laid. -/
import Derived.Test.YtefhjncoakgbkaaDoorBb
namespace Go.Proofs.YtefhjncoakgbkaaDoor
open Go.RowKit

set_option maxRecDepth 100000 in
set_option maxHeartbeats 1000000 in
theorem high_any (n k : Nat) (w : World) (_hn : n < 18446744073709551616) (hk : k ≤ 8) :
    Calls Tryd.prog 27 #[.int .u64 (n : Int), .int .i64 (k : Int)] w fun e w' => e = .returned (.string ⟨(be n k).toArray⟩) ∧ Below w.heap.size w w' := by
  go_enter Tryd.func27, Tryd.ntmps27
  go_wp2
  go_loopw [5, 6] (fun s i wr => ∃ j : Nat, ∃ D : List UInt8, j ≤ k ∧ Hid (D ++ be n j = be n k) ∧ D.length ≤ 8 ∧ D.length + j = k ∧ s = .string ⟨D.toArray⟩ ∧ i = .int .i64 ((j : Int) - 1) ∧ Below w.heap.size w wr)
    (fun _ i _ => ((intOf i) + 1).toNat)
  case atStart => exact ⟨k, [], Nat.le_refl _, Lib.hid rfl, by simp, by simp, rfl, by go_num, Below.refl _ _⟩
  case round =>
    obtain ⟨j, D, hj, HD, hD8, hDl, rfl, rfl, hbe⟩ := hrel
    cases j with
    | zero =>
      have hD : D = be n k := by have := HD.out; rwa [be, List.append_nil] at this
      go_wp2
      go_ret
      exact ⟨by rw [hD]; rfl, hbe⟩
    | succ i =>
      have a1 : ((i + 1 : Nat) : Int) - 1 = (i : Int) := by omega
      rw [a1]
      have hz := hbe.size
      have hX : (n : Int) / 2 ^ (8 * i) % 256 = ((UInt8.ofNat (n / 256 ^ i)).toNat : Int) := by
        rw [← byte_mod, show (2 : Int) ^ (8 * i) = ((256 ^ i : Nat) : Int) by rw [Int.pow_mul]; push_cast; rfl]
        push_cast
        rfl
      have hconv := run_convert_bytes_back (P := Tryd.prog) (wr.alloc (.cells #[.int .u8 ((n : Int) / 2 ^ (8 * i) % 256)] 5)) 22 9 5 ⟨wr.heap.size, 0, none⟩ 1 [UInt8.ofNat (n / 256 ^ i)] Tryd.underlying22 Tryd.underlying5 Tryd.underlying9 (oneByte wr _ _ hX)
      simp only [List.length_cons, List.length_nil, Nat.zero_add] at hconv
      have HD2 := Lib.hid (show (D ++ [UInt8.ofNat (n / 256 ^ i)]) ++ be n i = be n k by rw [← HD.out, List.append_assoc]; rfl)
      generalize UInt8.ofNat (n / 256 ^ i) = c at *
      have HP := Lib.hid (strAdd D [c])
      clear hX a1
      go_wp2
      go_roundw
      case rel => exact ⟨i, D ++ [c], by omega, HD2, by simp; omega, by simp; omega, congrArg Value.string HP.out, by go_num, hbe.alloc hz _⟩
      case measure => simp [intOf] <;> omega

/-- a thing of a sort, a number, a text: by hand -/
def laidQ (s n : Nat) (T : List UInt8) : List UInt8 := if s = 0 then numP n else if s = 1 ∨ s = 2 then headP (s : Int) n ++ T else headP (s : Int) n
theorem be1 (n : Nat) : be n 1 = [UInt8.ofNat n] := by rw [be, be, Nat.pow_zero, Nat.div_one]

set_option maxRecDepth 100000 in
set_option maxHeartbeats 1000000 in
theorem laid0 (n : Nat) (T : List UInt8) (w : World) (hn : n < 18446744073709551616) :
    Calls Tryd.prog 14 #[.int .i64 0, .int .u64 (n : Int), .string ⟨T.toArray⟩] w fun e w' => e = .returned (.string ⟨(laidQ 0 n T).toArray⟩) ∧ Below w.heap.size w w' := by
  by_cases h0 : n < 128
  · have b0 : (n : Int) < 128 := by omega
    have HE := Lib.hid (show laidQ 0 n T = be n 1 by rw [laidQ, if_pos rfl, numP, if_pos h0]; rw [be1])
    rw [HE.out]
    have HB := Lib.hid (fun w => high_any n 1 w (by omega) (by decide))
    generalize hB : be n 1 = B at *
    have hBl : B.length = 1 := by rw [← hB, be_length]
    clear hB HE
    clear hBl
    go_enter Tryd.func14, Tryd.ntmps14
    go_wp2_with (go_at_call 27; refine (HB.out _).mono ?_; rintro e w1 ⟨rfl, hb⟩)
    go_ret
    exact ⟨rfl, hb⟩
  · have b0 : ¬ (n : Int) < 128 := by omega
    by_cases h1 : n < 256
    · have b1 : (n : Int) < 256 := by omega
      have HE := Lib.hid (show laidQ 0 n T = 204 :: be n 1 by rw [laidQ, if_pos rfl, numP, if_neg h0, if_pos h1])
      rw [HE.out]
      have HB := Lib.hid (fun w => high_any n 1 w (by omega) (by decide))
      generalize hB : be n 1 = B at *
      have hBl : B.length = 1 := by rw [← hB, be_length]
      clear hB HE
      have hc1 := run_cat [204] B (by simp; omega)
      clear hBl
      go_enter Tryd.func14, Tryd.ntmps14
      go_wp2_with (go_at_call 27; refine (HB.out _).mono ?_; rintro e w1 ⟨rfl, hb⟩)
      go_ret
      exact ⟨rfl, hb⟩
    · have b1 : ¬ (n : Int) < 256 := by omega
      by_cases h2 : n < 65536
      · have b2 : (n : Int) < 65536 := by omega
        have HE := Lib.hid (show laidQ 0 n T = 205 :: be n 2 by rw [laidQ, if_pos rfl, numP, if_neg h0, if_neg h1, if_pos h2])
        rw [HE.out]
        have HB := Lib.hid (fun w => high_any n 2 w (by omega) (by decide))
        generalize hB : be n 2 = B at *
        have hBl : B.length = 2 := by rw [← hB, be_length]
        clear hB HE
        have hc1 := run_cat [205] B (by simp; omega)
        clear hBl
        go_enter Tryd.func14, Tryd.ntmps14
        go_wp2_with (go_at_call 27; refine (HB.out _).mono ?_; rintro e w1 ⟨rfl, hb⟩)
        go_ret
        exact ⟨rfl, hb⟩
      · have b2 : ¬ (n : Int) < 65536 := by omega
        by_cases h3 : n < 4294967296
        · have b3 : (n : Int) < 4294967296 := by omega
          have HE := Lib.hid (show laidQ 0 n T = 206 :: be n 4 by rw [laidQ, if_pos rfl, numP, if_neg h0, if_neg h1, if_neg h2, if_pos h3])
          rw [HE.out]
          have HB := Lib.hid (fun w => high_any n 4 w (by omega) (by decide))
          generalize hB : be n 4 = B at *
          have hBl : B.length = 4 := by rw [← hB, be_length]
          clear hB HE
          have hc1 := run_cat [206] B (by simp; omega)
          clear hBl
          go_enter Tryd.func14, Tryd.ntmps14
          go_wp2_with (go_at_call 27; refine (HB.out _).mono ?_; rintro e w1 ⟨rfl, hb⟩)
          go_ret
          exact ⟨rfl, hb⟩
        · have b3 : ¬ (n : Int) < 4294967296 := by omega
          have HE := Lib.hid (show laidQ 0 n T = 207 :: be n 8 by rw [laidQ, if_pos rfl, numP, if_neg h0, if_neg h1, if_neg h2, if_neg h3])
          rw [HE.out]
          have HB := Lib.hid (fun w => high_any n 8 w (by omega) (by decide))
          generalize hB : be n 8 = B at *
          have hBl : B.length = 8 := by rw [← hB, be_length]
          clear hB HE
          have hc1 := run_cat [207] B (by simp; omega)
          clear hBl
          go_enter Tryd.func14, Tryd.ntmps14
          go_wp2_with (go_at_call 27; refine (HB.out _).mono ?_; rintro e w1 ⟨rfl, hb⟩)
          go_ret
          exact ⟨rfl, hb⟩

set_option maxRecDepth 100000 in
set_option maxHeartbeats 1000000 in
theorem laid1 (n : Nat) (T : List UInt8) (w : World) (hn : n < 18446744073709551000) (hT : T.length ≤ 1000000) :
    Calls Tryd.prog 14 #[.int .i64 1, .int .u64 (n : Int), .string ⟨T.toArray⟩] w fun e w' => e = .returned (.string ⟨(laidQ 1 n T).toArray⟩) ∧ Below w.heap.size w w' := by
  by_cases h0 : n < 256
  · have b0 : (n : Int) < 256 := by omega
    have HE := Lib.hid (show laidQ 1 n T = (196 :: be n 1) ++ T by rw [laidQ, if_neg (by decide), if_pos (by decide), headP, if_pos (by decide), if_pos h0])
    rw [HE.out]
    have HB := Lib.hid (fun w => high_any n 1 w (by omega) (by decide))
    generalize hB : be n 1 = B at *
    have hBl : B.length = 1 := by rw [← hB, be_length]
    clear hB HE
    have hc1 := run_cat [196] B (by simp; omega)
    have hc2 := run_cat (196 :: B) T (by simp; omega)
    clear hBl
    go_enter Tryd.func14, Tryd.ntmps14
    go_wp2_with (go_at_call 27; refine (HB.out _).mono ?_; rintro e w1 ⟨rfl, hb⟩)
    go_ret
    exact ⟨rfl, hb⟩
  · have b0 : ¬ (n : Int) < 256 := by omega
    have HE := Lib.hid (show laidQ 1 n T = (197 :: be n 2) ++ T by rw [laidQ, if_neg (by decide), if_pos (by decide), headP, if_pos (by decide), if_neg h0])
    rw [HE.out]
    have HB := Lib.hid (fun w => high_any n 2 w (by omega) (by decide))
    generalize hB : be n 2 = B at *
    have hBl : B.length = 2 := by rw [← hB, be_length]
    clear hB HE
    have hc1 := run_cat [197] B (by simp; omega)
    have hc2 := run_cat (197 :: B) T (by simp; omega)
    clear hBl
    go_enter Tryd.func14, Tryd.ntmps14
    go_wp2_with (go_at_call 27; refine (HB.out _).mono ?_; rintro e w1 ⟨rfl, hb⟩)
    go_ret
    exact ⟨rfl, hb⟩

set_option maxRecDepth 100000 in
set_option maxHeartbeats 1000000 in
theorem laid2 (n : Nat) (T : List UInt8) (w : World) (hn : n < 18446744073709551000) (hT : T.length ≤ 1000000) :
    Calls Tryd.prog 14 #[.int .i64 2, .int .u64 (n : Int), .string ⟨T.toArray⟩] w fun e w' => e = .returned (.string ⟨(laidQ 2 n T).toArray⟩) ∧ Below w.heap.size w w' := by
  by_cases h0 : n < 32
  · have b0 : (n : Int) < 32 := by omega
    have HE := Lib.hid (show laidQ 2 n T = (be (160 + n) 1) ++ T by rw [laidQ, if_neg (by decide), if_pos (by decide), headP, if_neg (by decide), if_pos (by decide), if_pos h0]; rw [be1])
    rw [HE.out]
    have HB := Lib.hid (fun w => high_any (160 + n) 1 w (by omega) (by decide))
    generalize hB : be (160 + n) 1 = B at *
    have hBl : B.length = 1 := by rw [← hB, be_length]
    clear hB HE
    have hc2 := run_cat B T (by omega)
    clear hBl
    go_enter Tryd.func14, Tryd.ntmps14
    go_wp2_with (go_at_call 27; refine (HB.out _).mono ?_; rintro e w1 ⟨rfl, hb⟩)
    go_ret
    exact ⟨rfl, hb⟩
  · have b0 : ¬ (n : Int) < 32 := by omega
    by_cases h1 : n < 256
    · have b1 : (n : Int) < 256 := by omega
      have HE := Lib.hid (show laidQ 2 n T = (217 :: be n 1) ++ T by rw [laidQ, if_neg (by decide), if_pos (by decide), headP, if_neg (by decide), if_pos (by decide), if_neg h0, if_pos h1])
      rw [HE.out]
      have HB := Lib.hid (fun w => high_any n 1 w (by omega) (by decide))
      generalize hB : be n 1 = B at *
      have hBl : B.length = 1 := by rw [← hB, be_length]
      clear hB HE
      have hc1 := run_cat [217] B (by simp; omega)
      have hc2 := run_cat (217 :: B) T (by simp; omega)
      clear hBl
      go_enter Tryd.func14, Tryd.ntmps14
      go_wp2_with (go_at_call 27; refine (HB.out _).mono ?_; rintro e w1 ⟨rfl, hb⟩)
      go_ret
      exact ⟨rfl, hb⟩
    · have b1 : ¬ (n : Int) < 256 := by omega
      have HE := Lib.hid (show laidQ 2 n T = (218 :: be n 2) ++ T by rw [laidQ, if_neg (by decide), if_pos (by decide), headP, if_neg (by decide), if_pos (by decide), if_neg h0, if_neg h1])
      rw [HE.out]
      have HB := Lib.hid (fun w => high_any n 2 w (by omega) (by decide))
      generalize hB : be n 2 = B at *
      have hBl : B.length = 2 := by rw [← hB, be_length]
      clear hB HE
      have hc1 := run_cat [218] B (by simp; omega)
      have hc2 := run_cat (218 :: B) T (by simp; omega)
      clear hBl
      go_enter Tryd.func14, Tryd.ntmps14
      go_wp2_with (go_at_call 27; refine (HB.out _).mono ?_; rintro e w1 ⟨rfl, hb⟩)
      go_ret
      exact ⟨rfl, hb⟩

set_option maxRecDepth 100000 in
set_option maxHeartbeats 1000000 in
theorem laid3 (n : Nat) (T : List UInt8) (w : World) (hn : n < 18446744073709551000) (_hT : T.length ≤ 1000000) :
    Calls Tryd.prog 14 #[.int .i64 3, .int .u64 (n : Int), .string ⟨T.toArray⟩] w fun e w' => e = .returned (.string ⟨(laidQ 3 n T).toArray⟩) ∧ Below w.heap.size w w' := by
  by_cases h0 : n < 16
  · have b0 : (n : Int) < 16 := by omega
    have HE := Lib.hid (show laidQ 3 n T = be (144 + n) 1 by rw [laidQ, if_neg (by decide), if_neg (by decide), headP, if_neg (by decide), if_neg (by decide), if_pos (by decide), if_pos h0]; rw [be1])
    rw [HE.out]
    have HB := Lib.hid (fun w => high_any (144 + n) 1 w (by omega) (by decide))
    generalize hB : be (144 + n) 1 = B at *
    have hBl : B.length = 1 := by rw [← hB, be_length]
    clear hB HE
    clear hBl
    go_enter Tryd.func14, Tryd.ntmps14
    go_wp2_with (go_at_call 27; refine (HB.out _).mono ?_; rintro e w1 ⟨rfl, hb⟩)
    go_ret
    exact ⟨rfl, hb⟩
  · have b0 : ¬ (n : Int) < 16 := by omega
    have HE := Lib.hid (show laidQ 3 n T = 220 :: be n 2 by rw [laidQ, if_neg (by decide), if_neg (by decide), headP, if_neg (by decide), if_neg (by decide), if_pos (by decide), if_neg h0])
    rw [HE.out]
    have HB := Lib.hid (fun w => high_any n 2 w (by omega) (by decide))
    generalize hB : be n 2 = B at *
    have hBl : B.length = 2 := by rw [← hB, be_length]
    clear hB HE
    have hc1 := run_cat [220] B (by simp; omega)
    clear hBl
    go_enter Tryd.func14, Tryd.ntmps14
    go_wp2_with (go_at_call 27; refine (HB.out _).mono ?_; rintro e w1 ⟨rfl, hb⟩)
    go_ret
    exact ⟨rfl, hb⟩

set_option maxRecDepth 100000 in
set_option maxHeartbeats 1000000 in
theorem laid4 (n : Nat) (T : List UInt8) (w : World) (hn : n < 18446744073709551000) (_hT : T.length ≤ 1000000) :
    Calls Tryd.prog 14 #[.int .i64 4, .int .u64 (n : Int), .string ⟨T.toArray⟩] w fun e w' => e = .returned (.string ⟨(laidQ 4 n T).toArray⟩) ∧ Below w.heap.size w w' := by
  by_cases h0 : n < 16
  · have b0 : (n : Int) < 16 := by omega
    have HE := Lib.hid (show laidQ 4 n T = be (128 + n) 1 by rw [laidQ, if_neg (by decide), if_neg (by decide), headP, if_neg (by decide), if_neg (by decide), if_neg (by decide), if_pos h0]; rw [be1])
    rw [HE.out]
    have HB := Lib.hid (fun w => high_any (128 + n) 1 w (by omega) (by decide))
    generalize hB : be (128 + n) 1 = B at *
    have hBl : B.length = 1 := by rw [← hB, be_length]
    clear hB HE
    clear hBl
    go_enter Tryd.func14, Tryd.ntmps14
    go_wp2_with (go_at_call 27; refine (HB.out _).mono ?_; rintro e w1 ⟨rfl, hb⟩)
    go_ret
    exact ⟨rfl, hb⟩
  · have b0 : ¬ (n : Int) < 16 := by omega
    have HE := Lib.hid (show laidQ 4 n T = 222 :: be n 2 by rw [laidQ, if_neg (by decide), if_neg (by decide), headP, if_neg (by decide), if_neg (by decide), if_neg (by decide), if_neg h0])
    rw [HE.out]
    have HB := Lib.hid (fun w => high_any n 2 w (by omega) (by decide))
    generalize hB : be n 2 = B at *
    have hBl : B.length = 2 := by rw [← hB, be_length]
    clear hB HE
    have hc1 := run_cat [222] B (by simp; omega)
    clear hBl
    go_enter Tryd.func14, Tryd.ntmps14
    go_wp2_with (go_at_call 27; refine (HB.out _).mono ?_; rintro e w1 ⟨rfl, hb⟩)
    go_ret
    exact ⟨rfl, hb⟩
end Go.Proofs.YtefhjncoakgbkaaDoor
