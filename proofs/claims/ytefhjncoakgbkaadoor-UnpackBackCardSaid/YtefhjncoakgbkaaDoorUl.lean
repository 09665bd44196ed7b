/- What is taken was laid, sort by sort. -/
import Derived.Test.YtefhjncoakgbkaaDoorUk
namespace Go.Proofs.YtefhjncoakgbkaaDoor
open Go.RowKit

theorem was0 (S : List UInt8) (hc : (takeP S 65535 0).c = 0) : WasLaid S 0 (takeP S 65535 0) := by
  cases hS : S with
  | nil => rw [hS] at hc; cases hc
  | cons b r =>
    rw [← hS]
    have hq : b.toNat < 256 := b.toNat_lt
    by_cases h0 : b.toNat < 128
    · have hb : b = UInt8.ofNat (b.toNat) := byte_is (by omega) (by omega)
      have hr := rowU_in0 (b.toNat) (by omega)
      rw [← hb] at hr
      exact was_in hS hr (by decide) hc (by rw [laidQ, if_pos rfl, numP, if_pos (by omega), ← hb])
    · skip
      by_cases h1 : b.toNat = 204
      · have hb : b = 204 := byte_is h1 (by decide)
        subst hb
        exact was_num hS (z := 1) (least := 128) rfl (by decide) hc (fun N hl hu => by rw [laidQ, if_pos rfl, numP, if_neg (by omega), if_pos (by omega)])
      · skip
        by_cases h2 : b.toNat = 205
        · have hb : b = 205 := byte_is h2 (by decide)
          subst hb
          exact was_num hS (z := 2) (least := 256) rfl (by decide) hc (fun N hl hu => by rw [laidQ, if_pos rfl, numP, if_neg (by omega), if_neg (by omega), if_pos (by omega)])
        · skip
          by_cases h3 : b.toNat = 206
          · have hb : b = 206 := byte_is h3 (by decide)
            subst hb
            exact was_num hS (z := 4) (least := 65536) rfl (by decide) hc (fun N hl hu => by rw [laidQ, if_pos rfl, numP, if_neg (by omega), if_neg (by omega), if_neg (by omega), if_pos (by omega)])
          · skip
            by_cases h4 : b.toNat = 207
            · have hb : b = 207 := byte_is h4 (by decide)
              subst hb
              exact was_num hS (z := 8) (least := 4294967296) rfl (by decide) hc (fun N hl hu => by rw [laidQ, if_pos rfl, numP, if_neg (by omega), if_neg (by omega), if_neg (by omega), if_neg (by omega)])
            · skip
              have hn : rowU 0 b.toNat = (-1, 0, 0) := by simp [rowU, h0, h1, h2, h3, h4]
              rw [hS, no_row_c hn] at hc
              cases hc
theorem was1 (S : List UInt8) (hc : (takeP S 65535 1).c = 0) : WasLaid S 1 (takeP S 65535 1) := by
  cases hS : S with
  | nil => rw [hS] at hc; cases hc
  | cons b r =>
    rw [← hS]
    have hq : b.toNat < 256 := b.toNat_lt
    by_cases h0 : b.toNat = 196
    · have hb : b = 196 := byte_is h0 (by decide)
      subst hb
      exact was_txt hS (z := 1) (least := 0) rfl (by decide) hc (fun N hl hu T => by rw [laidQ, if_neg (by decide), if_pos (by decide), headP, if_pos (by decide), if_pos (by omega)])
    · skip
      by_cases h1 : b.toNat = 197
      · have hb : b = 197 := byte_is h1 (by decide)
        subst hb
        exact was_txt hS (z := 2) (least := 256) rfl (by decide) hc (fun N hl hu T => by rw [laidQ, if_neg (by decide), if_pos (by decide), headP, if_pos (by decide), if_neg (by omega)])
      · skip
        have hn : rowU 1 b.toNat = (-1, 0, 0) := by simp [rowU, h0, h1]
        rw [hS, no_row_c hn] at hc
        cases hc
theorem was2 (S : List UInt8) (hc : (takeP S 65535 2).c = 0) : WasLaid S 2 (takeP S 65535 2) := by
  cases hS : S with
  | nil => rw [hS] at hc; cases hc
  | cons b r =>
    rw [← hS]
    have hq : b.toNat < 256 := b.toNat_lt
    by_cases h0 : 160 ≤ b.toNat ∧ b.toNat < 192
    · have hb : b = UInt8.ofNat (160 + (b.toNat - 160)) := byte_is (by omega) (by omega)
      have hr := rowU_in2 (b.toNat - 160) (by omega)
      rw [← hb] at hr
      exact was_in2 hS hr hc (fun T => by rw [laidQ, if_neg (by decide), if_pos (by decide), headP, if_neg (by decide), if_pos (by decide), if_pos (by omega), ← hb])
    · skip
      by_cases h1 : b.toNat = 217
      · have hb : b = 217 := byte_is h1 (by decide)
        subst hb
        exact was_txt hS (z := 1) (least := 32) rfl (by decide) hc (fun N hl hu T => by rw [laidQ, if_neg (by decide), if_pos (by decide), headP, if_neg (by decide), if_pos (by decide), if_neg (by omega), if_pos (by omega)])
      · skip
        by_cases h2 : b.toNat = 218
        · have hb : b = 218 := byte_is h2 (by decide)
          subst hb
          exact was_txt hS (z := 2) (least := 256) rfl (by decide) hc (fun N hl hu T => by rw [laidQ, if_neg (by decide), if_pos (by decide), headP, if_neg (by decide), if_pos (by decide), if_neg (by omega), if_neg (by omega)])
        · skip
          have hn : rowU 2 b.toNat = (-1, 0, 0) := by simp [rowU, h0, h1, h2]
          rw [hS, no_row_c hn] at hc
          cases hc
theorem was3 (S : List UInt8) (hc : (takeP S 65535 3).c = 0) : WasLaid S 3 (takeP S 65535 3) := by
  cases hS : S with
  | nil => rw [hS] at hc; cases hc
  | cons b r =>
    rw [← hS]
    have hq : b.toNat < 256 := b.toNat_lt
    by_cases h0 : 144 ≤ b.toNat ∧ b.toNat < 160
    · have hb : b = UInt8.ofNat (144 + (b.toNat - 144)) := byte_is (by omega) (by omega)
      have hr := rowU_in3 (b.toNat - 144) (by omega)
      rw [← hb] at hr
      exact was_in hS hr (by decide) hc (by rw [laidQ, if_neg (by decide), if_neg (by decide), headP, if_neg (by decide), if_neg (by decide), if_pos (by decide), if_pos (by omega), ← hb])
    · skip
      by_cases h1 : b.toNat = 220
      · have hb : b = 220 := byte_is h1 (by decide)
        subst hb
        exact was_num hS (z := 2) (least := 16) rfl (by decide) hc (fun N hl hu => by rw [laidQ, if_neg (by decide), if_neg (by decide), headP, if_neg (by decide), if_neg (by decide), if_pos (by decide), if_neg (by omega)])
      · skip
        have hn : rowU 3 b.toNat = (-1, 0, 0) := by simp [rowU, h0, h1]
        rw [hS, no_row_c hn] at hc
        cases hc
theorem was4 (S : List UInt8) (hc : (takeP S 65535 4).c = 0) : WasLaid S 4 (takeP S 65535 4) := by
  cases hS : S with
  | nil => rw [hS] at hc; cases hc
  | cons b r =>
    rw [← hS]
    have hq : b.toNat < 256 := b.toNat_lt
    by_cases h0 : 128 ≤ b.toNat ∧ b.toNat < 144
    · have hb : b = UInt8.ofNat (128 + (b.toNat - 128)) := byte_is (by omega) (by omega)
      have hr := rowU_in4 (b.toNat - 128) (by omega)
      rw [← hb] at hr
      exact was_in hS hr (by decide) hc (by rw [laidQ, if_neg (by decide), if_neg (by decide), headP, if_neg (by decide), if_neg (by decide), if_neg (by decide), if_pos (by omega), ← hb])
    · skip
      by_cases h1 : b.toNat = 222
      · have hb : b = 222 := byte_is h1 (by decide)
        subst hb
        exact was_num hS (z := 2) (least := 16) rfl (by decide) hc (fun N hl hu => by rw [laidQ, if_neg (by decide), if_neg (by decide), headP, if_neg (by decide), if_neg (by decide), if_neg (by decide), if_neg (by omega)])
      · skip
        have hn : rowU 4 b.toNat = (-1, 0, 0) := by simp [rowU, h0, h1]
        rw [hS, no_row_c hn] at hc
        cases hc
theorem was_any (S : List UInt8) (s : Nat) (hs : s ≤ 4) (hc : (takeP S 65535 s).c = 0) : WasLaid S s (takeP S 65535 s) := by
  obtain rfl | rfl | rfl | rfl | rfl : s = 0 ∨ s = 1 ∨ s = 2 ∨ s = 3 ∨ s = 4 := by omega
  · exact was0 S hc
  · exact was1 S hc
  · exact was2 S hc
  · exact was3 S hc
  · exact was4 S hc
end Go.Proofs.YtefhjncoakgbkaaDoor
