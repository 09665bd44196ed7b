/- The document's row of a first byte. -/
import Derived.Test.YtbkiijndhjmkdaaGreatDoorJ1
namespace Go.Proofs.YtbkiijndhjmkdaaGreatDoor
open Go.RowKit

/-- of a sort, by a first byte: how many bytes of a number follow (-1: it is no such thing), the number itself, if none, the least one of the row -/
def rowU (s c : Nat) : Int × Nat × Nat :=
  if s = 0 then (if c < 128 then (0, c, 0) else if c = 204 then (1, 0, 128) else if c = 205 then (2, 0, 256) else if c = 206 then (4, 0, 65536) else if c = 207 then (8, 0, 4294967296) else (-1, 0, 0))
  else if s = 1 then (if c = 196 then (1, 0, 0) else if c = 197 then (2, 0, 256) else (-1, 0, 0))
  else if s = 2 then (if 160 ≤ c ∧ c < 192 then (0, c - 160, 0) else if c = 217 then (1, 0, 32) else if c = 218 then (2, 0, 256) else (-1, 0, 0))
  else if s = 3 then (if 144 ≤ c ∧ c < 160 then (0, c - 144, 0) else if c = 220 then (2, 0, 16) else (-1, 0, 0))
  else (if 128 ≤ c ∧ c < 144 then (0, c - 128, 0) else if c = 222 then (2, 0, 16) else (-1, 0, 0))

set_option maxRecDepth 100000 in
set_option maxHeartbeats 4000000 in
theorem row_any (s c : Nat) (w : World) (hs : s ≤ 4) (hc : c < 256) :
    Calls Tryz.prog 191 #[.int .i64 (s : Int), .int .i64 (c : Int)] w fun e w' => e = .returned (.tuple #[.int .i64 (rowU s c).1, .int .u64 ((rowU s c).2.1 : Int), .int .u64 ((rowU s c).2.2 : Int)]) ∧ w' = w := by
  obtain rfl | rfl | rfl | rfl | rfl : s = 0 ∨ s = 1 ∨ s = 2 ∨ s = 3 ∨ s = 4 := by omega
  · clear hs
    by_cases h0 : c < 128
    · have b0 : decide ((c : Int) < 128) = true := decide_eq_true (by omega)
      have HE := Lib.hid (show rowU 0 c = (0, c, 0) by simp [rowU, h0])
      rw [HE.out]
      go_enter Tryz.func191, Tryz.ntmps191
      go_wp2
      all_goals refine bodyPost_ret (v := .tuple #[.int .i64 0, .int .u64 ((c : Nat) : Int), .int .u64 0]) (by simp [results, Tryz.results191, go_sem, *]) rfl ⟨rfl, rfl⟩
    · have b0 : decide ((c : Int) < 128) = false := decide_eq_false (by omega)
      by_cases h1 : c = 204
      · subst h1
        have HE := Lib.hid (show rowU 0 204 = (1, 0, 128) by rfl)
        rw [HE.out]
        go_enter Tryz.func191, Tryz.ntmps191
        go_wp2
        all_goals refine bodyPost_ret (v := .tuple #[.int .i64 1, .int .u64 0, .int .u64 128]) (by simp [results, Tryz.results191, go_sem, *]) rfl ⟨rfl, rfl⟩
      · have b1 : ((c : Int) == 204) = false := by rw [beq_eq_false_iff_ne]; omega
        by_cases h2 : c = 205
        · subst h2
          have HE := Lib.hid (show rowU 0 205 = (2, 0, 256) by rfl)
          rw [HE.out]
          go_enter Tryz.func191, Tryz.ntmps191
          go_wp2
          all_goals refine bodyPost_ret (v := .tuple #[.int .i64 2, .int .u64 0, .int .u64 256]) (by simp [results, Tryz.results191, go_sem, *]) rfl ⟨rfl, rfl⟩
        · have b2 : ((c : Int) == 205) = false := by rw [beq_eq_false_iff_ne]; omega
          by_cases h3 : c = 206
          · subst h3
            have HE := Lib.hid (show rowU 0 206 = (4, 0, 65536) by rfl)
            rw [HE.out]
            go_enter Tryz.func191, Tryz.ntmps191
            go_wp2
            all_goals refine bodyPost_ret (v := .tuple #[.int .i64 4, .int .u64 0, .int .u64 65536]) (by simp [results, Tryz.results191, go_sem, *]) rfl ⟨rfl, rfl⟩
          · have b3 : ((c : Int) == 206) = false := by rw [beq_eq_false_iff_ne]; omega
            by_cases h4 : c = 207
            · subst h4
              have HE := Lib.hid (show rowU 0 207 = (8, 0, 4294967296) by rfl)
              rw [HE.out]
              go_enter Tryz.func191, Tryz.ntmps191
              go_wp2
              all_goals refine bodyPost_ret (v := .tuple #[.int .i64 8, .int .u64 0, .int .u64 4294967296]) (by simp [results, Tryz.results191, go_sem, *]) rfl ⟨rfl, rfl⟩
            · have b4 : ((c : Int) == 207) = false := by rw [beq_eq_false_iff_ne]; omega
              have HE := Lib.hid (show rowU 0 c = (-1, 0, 0) by simp [rowU, h0, h1, h2, h3, h4])
              rw [HE.out]
              go_enter Tryz.func191, Tryz.ntmps191
              go_wp2
              all_goals refine bodyPost_ret (v := .tuple #[.int .i64 (-1), .int .u64 0, .int .u64 0]) (by simp [results, Tryz.results191, go_sem, *]) rfl ⟨rfl, rfl⟩
  · clear hs
    by_cases h0 : c = 196
    · subst h0
      have HE := Lib.hid (show rowU 1 196 = (1, 0, 0) by rfl)
      rw [HE.out]
      go_enter Tryz.func191, Tryz.ntmps191
      go_wp2
      all_goals refine bodyPost_ret (v := .tuple #[.int .i64 1, .int .u64 0, .int .u64 0]) (by simp [results, Tryz.results191, go_sem, *]) rfl ⟨rfl, rfl⟩
    · have b0 : ((c : Int) == 196) = false := by rw [beq_eq_false_iff_ne]; omega
      by_cases h1 : c = 197
      · subst h1
        have HE := Lib.hid (show rowU 1 197 = (2, 0, 256) by rfl)
        rw [HE.out]
        go_enter Tryz.func191, Tryz.ntmps191
        go_wp2
        all_goals refine bodyPost_ret (v := .tuple #[.int .i64 2, .int .u64 0, .int .u64 256]) (by simp [results, Tryz.results191, go_sem, *]) rfl ⟨rfl, rfl⟩
      · have b1 : ((c : Int) == 197) = false := by rw [beq_eq_false_iff_ne]; omega
        have HE := Lib.hid (show rowU 1 c = (-1, 0, 0) by simp [rowU, h0, h1])
        rw [HE.out]
        go_enter Tryz.func191, Tryz.ntmps191
        go_wp2
        all_goals refine bodyPost_ret (v := .tuple #[.int .i64 (-1), .int .u64 0, .int .u64 0]) (by simp [results, Tryz.results191, go_sem, *]) rfl ⟨rfl, rfl⟩
  · clear hs
    by_cases h0 : 160 ≤ c ∧ c < 192
    · have b0 : decide ((c : Int) ≥ 160) = true := decide_eq_true (by omega)
      have d0 : decide ((c : Int) < 192) = true := decide_eq_true (by omega)
      have e0 : (c : Int) - 160 = ((c - 160 : Nat) : Int) := by omega
      have HE := Lib.hid (show rowU 2 c = (0, c - 160, 0) by simp [rowU, h0])
      rw [HE.out]
      go_enter Tryz.func191, Tryz.ntmps191
      go_wp2
      all_goals refine bodyPost_ret (v := .tuple #[.int .i64 0, .int .u64 ((c - 160 : Nat) : Int), .int .u64 0]) (by simp [results, Tryz.results191, go_sem, *]) rfl ⟨rfl, rfl⟩
    · have b0 : (decide ((c : Int) ≥ 160) && decide ((c : Int) < 192)) = false := by rw [← Bool.not_eq_true]; simp; omega
      by_cases h1 : c = 217
      · subst h1
        have HE := Lib.hid (show rowU 2 217 = (1, 0, 32) by rfl)
        rw [HE.out]
        go_enter Tryz.func191, Tryz.ntmps191
        go_wp2
        all_goals refine bodyPost_ret (v := .tuple #[.int .i64 1, .int .u64 0, .int .u64 32]) (by simp [results, Tryz.results191, go_sem, *]) rfl ⟨rfl, rfl⟩
      · have b1 : ((c : Int) == 217) = false := by rw [beq_eq_false_iff_ne]; omega
        by_cases h2 : c = 218
        · subst h2
          have HE := Lib.hid (show rowU 2 218 = (2, 0, 256) by rfl)
          rw [HE.out]
          go_enter Tryz.func191, Tryz.ntmps191
          go_wp2
          all_goals refine bodyPost_ret (v := .tuple #[.int .i64 2, .int .u64 0, .int .u64 256]) (by simp [results, Tryz.results191, go_sem, *]) rfl ⟨rfl, rfl⟩
        · have b2 : ((c : Int) == 218) = false := by rw [beq_eq_false_iff_ne]; omega
          have HE := Lib.hid (show rowU 2 c = (-1, 0, 0) by simp [rowU, h0, h1, h2])
          rw [HE.out]
          go_enter Tryz.func191, Tryz.ntmps191
          go_wp2
          all_goals refine bodyPost_ret (v := .tuple #[.int .i64 (-1), .int .u64 0, .int .u64 0]) (by simp [results, Tryz.results191, go_sem, *]) rfl ⟨rfl, rfl⟩
  · clear hs
    by_cases h0 : 144 ≤ c ∧ c < 160
    · have b0 : decide ((c : Int) ≥ 144) = true := decide_eq_true (by omega)
      have d0 : decide ((c : Int) < 160) = true := decide_eq_true (by omega)
      have e0 : (c : Int) - 144 = ((c - 144 : Nat) : Int) := by omega
      have HE := Lib.hid (show rowU 3 c = (0, c - 144, 0) by simp [rowU, h0])
      rw [HE.out]
      go_enter Tryz.func191, Tryz.ntmps191
      go_wp2
      all_goals refine bodyPost_ret (v := .tuple #[.int .i64 0, .int .u64 ((c - 144 : Nat) : Int), .int .u64 0]) (by simp [results, Tryz.results191, go_sem, *]) rfl ⟨rfl, rfl⟩
    · have b0 : (decide ((c : Int) ≥ 144) && decide ((c : Int) < 160)) = false := by rw [← Bool.not_eq_true]; simp; omega
      by_cases h1 : c = 220
      · subst h1
        have HE := Lib.hid (show rowU 3 220 = (2, 0, 16) by rfl)
        rw [HE.out]
        go_enter Tryz.func191, Tryz.ntmps191
        go_wp2
        all_goals refine bodyPost_ret (v := .tuple #[.int .i64 2, .int .u64 0, .int .u64 16]) (by simp [results, Tryz.results191, go_sem, *]) rfl ⟨rfl, rfl⟩
      · have b1 : ((c : Int) == 220) = false := by rw [beq_eq_false_iff_ne]; omega
        have HE := Lib.hid (show rowU 3 c = (-1, 0, 0) by simp [rowU, h0, h1])
        rw [HE.out]
        go_enter Tryz.func191, Tryz.ntmps191
        go_wp2
        all_goals refine bodyPost_ret (v := .tuple #[.int .i64 (-1), .int .u64 0, .int .u64 0]) (by simp [results, Tryz.results191, go_sem, *]) rfl ⟨rfl, rfl⟩
  · clear hs
    by_cases h0 : 128 ≤ c ∧ c < 144
    · have b0 : decide ((c : Int) ≥ 128) = true := decide_eq_true (by omega)
      have d0 : decide ((c : Int) < 144) = true := decide_eq_true (by omega)
      have e0 : (c : Int) - 128 = ((c - 128 : Nat) : Int) := by omega
      have HE := Lib.hid (show rowU 4 c = (0, c - 128, 0) by simp [rowU, h0])
      rw [HE.out]
      go_enter Tryz.func191, Tryz.ntmps191
      go_wp2
      all_goals refine bodyPost_ret (v := .tuple #[.int .i64 0, .int .u64 ((c - 128 : Nat) : Int), .int .u64 0]) (by simp [results, Tryz.results191, go_sem, *]) rfl ⟨rfl, rfl⟩
    · have b0 : (decide ((c : Int) ≥ 128) && decide ((c : Int) < 144)) = false := by rw [← Bool.not_eq_true]; simp; omega
      by_cases h1 : c = 222
      · subst h1
        have HE := Lib.hid (show rowU 4 222 = (2, 0, 16) by rfl)
        rw [HE.out]
        go_enter Tryz.func191, Tryz.ntmps191
        go_wp2
        all_goals refine bodyPost_ret (v := .tuple #[.int .i64 2, .int .u64 0, .int .u64 16]) (by simp [results, Tryz.results191, go_sem, *]) rfl ⟨rfl, rfl⟩
      · have b1 : ((c : Int) == 222) = false := by rw [beq_eq_false_iff_ne]; omega
        have HE := Lib.hid (show rowU 4 c = (-1, 0, 0) by simp [rowU, h0, h1])
        rw [HE.out]
        go_enter Tryz.func191, Tryz.ntmps191
        go_wp2
        all_goals refine bodyPost_ret (v := .tuple #[.int .i64 (-1), .int .u64 0, .int .u64 0]) (by simp [results, Tryz.results191, go_sem, *]) rfl ⟨rfl, rfl⟩
end Go.Proofs.YtbkiijndhjmkdaaGreatDoor
