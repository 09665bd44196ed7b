/- The document's rows: what a thing is laid as; the reference's num, head, Laid. -/
import Derived.Test.YtgdlfbphfogphaaDoorPa
namespace Go.Proofs.YtgdlfbphfogphaaDoor
open Go.RowKit

/-- a number's bytes -/
def numP (n : Nat) : List UInt8 :=
  if n < 128 then [UInt8.ofNat n] else if n < 256 then 204 :: be n 1 else if n < 65536 then 205 :: be n 2 else if n < 4294967296 then 206 :: be n 4 else 207 :: be n 8
/-- the beginning of a thing of a sort that has n bytes, things, or pairs -/
def headP (s : Int) (n : Nat) : List UInt8 :=
  if s = 1 then (if n < 256 then 196 :: be n 1 else 197 :: be n 2)
  else if s = 2 then (if n < 32 then [UInt8.ofNat (160 + n)] else if n < 256 then 217 :: be n 1 else 218 :: be n 2)
  else if s = 3 then (if n < 16 then [UInt8.ofNat (144 + n)] else 220 :: be n 2)
  else (if n < 16 then [UInt8.ofNat (128 + n)] else 222 :: be n 2)
theorem numP_len (n : Nat) : (numP n).length ≤ 9 := by
  unfold numP
  repeat' split
  all_goals simp [be_length]
theorem headP_len (s : Int) (n : Nat) : (headP s n).length ≤ 3 := by
  unfold headP
  repeat' split
  all_goals simp [be_length]

set_option maxRecDepth 100000 in
set_option maxHeartbeats 2000000 in
theorem pnum_any (n : Nat) (w : World) (hn : n < 18446744073709551616) :
    Calls Tryd.prog 26 #[.int .u64 (n : Int)] w fun e w' => e = .returned (.string ⟨(numP n).toArray⟩) ∧ Below w.heap.size w w' := by
  have hcat : ∀ (c : UInt8) (k : Nat) (w : World), k ≤ 8 → (Op.stringOp .add ⟨#[c]⟩ ⟨(be n k).toArray⟩).run Tryd.prog w = .ok (.string ⟨(c :: be n k).toArray⟩) w := fun c k w hk => run_cat [c] (be n k) (by rw [be_length]; simp; omega) w
  have HB := Lib.hid (fun (k : Nat) (w : World) (hk : k ≤ 8) => pbytes_any n k w hn hk)
  have HO := Lib.hid (fun (w : World) => pone_any n w)
  by_cases h0 : n < 128
  · have e : numP n = [UInt8.ofNat n] := by rw [numP, if_pos h0]
    have HE := Lib.hid e
    have i0 : (n : Int) < 128 := by omega
    clear e hcat
    go_enter Tryd.func26, Tryd.ntmps26
    go_wp2_with (go_at_call 36; refine (HO.out _).mono ?_; rintro e w1 ⟨rfl, hb⟩)
    go_ret
    exact ⟨by rw [HE.out]; rfl, hb⟩
  · have i0 : ¬ (n : Int) < 128 := by omega
    by_cases h1 : n < 256
    · have HE := Lib.hid (show numP n = 204 :: be n 1 by rw [numP, if_neg h0, if_pos h1])
      have i1 : (n : Int) < 256 := by omega
      have hc := fun w => hcat 204 1 w (by omega)
      clear hcat
      go_enter Tryd.func26, Tryd.ntmps26
      go_wp2_with (go_at_call 37; refine (HB.out 1 _ (by omega)).mono ?_; rintro e w1 ⟨rfl, hb⟩)
      go_ret
      exact ⟨by rw [HE.out]; rfl, hb⟩
    · have i1 : ¬ (n : Int) < 256 := by omega
      by_cases h2 : n < 65536
      · have HE := Lib.hid (show numP n = 205 :: be n 2 by rw [numP, if_neg h0, if_neg h1, if_pos h2])
        have i2 : (n : Int) < 65536 := by omega
        have hc := fun w => hcat 205 2 w (by omega)
        clear hcat
        go_enter Tryd.func26, Tryd.ntmps26
        go_wp2_with (go_at_call 37; refine (HB.out 2 _ (by omega)).mono ?_; rintro e w1 ⟨rfl, hb⟩)
        go_ret
        exact ⟨by rw [HE.out]; rfl, hb⟩
      · have i2 : ¬ (n : Int) < 65536 := by omega
        by_cases h3 : n < 4294967296
        · have HE := Lib.hid (show numP n = 206 :: be n 4 by rw [numP, if_neg h0, if_neg h1, if_neg h2, if_pos h3])
          have i3 : (n : Int) < 4294967296 := by omega
          have hc := fun w => hcat 206 4 w (by omega)
          clear hcat
          go_enter Tryd.func26, Tryd.ntmps26
          go_wp2_with (go_at_call 37; refine (HB.out 4 _ (by omega)).mono ?_; rintro e w1 ⟨rfl, hb⟩)
          go_ret
          exact ⟨by rw [HE.out]; rfl, hb⟩
        · have HE := Lib.hid (show numP n = 207 :: be n 8 by rw [numP, if_neg h0, if_neg h1, if_neg h2, if_neg h3])
          have i3 : ¬ (n : Int) < 4294967296 := by omega
          have hc := fun w => hcat 207 8 w (by omega)
          clear hcat
          go_enter Tryd.func26, Tryd.ntmps26
          go_wp2_with (go_at_call 37; refine (HB.out 8 _ (by omega)).mono ?_; rintro e w1 ⟨rfl, hb⟩)
          go_ret
          exact ⟨by rw [HE.out]; rfl, hb⟩

set_option maxRecDepth 100000 in
set_option maxHeartbeats 4000000 in
theorem phead_any (s : Int) (n : Nat) (w : World) (hn : n < 65536) :
    Calls Tryd.prog 27 #[.int .i64 s, .int .u64 (n : Int)] w fun e w' => e = .returned (.string ⟨(headP s n).toArray⟩) ∧ Below w.heap.size w w' := by
  have hcat : ∀ (c : UInt8) (k : Nat) (w : World), k ≤ 8 → (Op.stringOp .add ⟨#[c]⟩ ⟨(be n k).toArray⟩).run Tryd.prog w = .ok (.string ⟨(c :: be n k).toArray⟩) w := fun c k w hk => run_cat [c] (be n k) (by rw [be_length]; simp; omega) w
  have HB := Lib.hid (fun (k : Nat) (w : World) (hk : k ≤ 8) => pbytes_any n k w (by omega) hk)
  have HO := Lib.hid (fun (c : Nat) (w : World) => pone_any (c + n) w)
  have hw : ∀ c : Nat, c < 65536 → IntKind.u64.wrap ((c : Int) + (n : Int)) = ((c + n : Nat) : Int) := fun c hc => by simp only [IntKind.wrap, IntKind.bits, IntKind.signed]; simp; omega
  by_cases s1 : s = 1
  · by_cases h0 : n < 256
    · have HE := Lib.hid (show headP s n = 196 :: be n 1 by rw [headP, if_pos s1, if_pos h0])
      have i0 : ((n : Int) < 256) := by omega
      have hc := fun w => hcat 196 1 w (by omega)
      clear hcat hw
      subst s1
      go_enter Tryd.func27, Tryd.ntmps27
      go_wp2_with (go_at_call 37; refine (HB.out 1 _ (by omega)).mono ?_; rintro e w1 ⟨rfl, hb⟩)
      go_ret
      exact ⟨by rw [HE.out]; rfl, hb⟩
    · have HE := Lib.hid (show headP s n = 197 :: be n 2 by rw [headP, if_pos s1, if_neg h0])
      have i0 : ¬ ((n : Int) < 256) := by omega
      have hc := fun w => hcat 197 2 w (by omega)
      clear hcat hw
      subst s1
      go_enter Tryd.func27, Tryd.ntmps27
      go_wp2_with (go_at_call 37; refine (HB.out 2 _ (by omega)).mono ?_; rintro e w1 ⟨rfl, hb⟩)
      go_ret
      exact ⟨by rw [HE.out]; rfl, hb⟩
  · by_cases s2 : s = 2
    · by_cases h0 : n < 32
      · have HE := Lib.hid (show headP s n = [UInt8.ofNat (160 + n)] by rw [headP, if_neg s1, if_pos s2, if_pos h0])
        have i0 : ((n : Int) < 32) := by omega
        have hw2 := hw 160 (by omega)
        have HO2 := Lib.hid (HO.out 160)
        obtain ⟨m, hm⟩ : ∃ m, 160 + n = m := ⟨_, rfl⟩
        rw [hm] at hw2 HO2 HE
        simp only [Int.cast_ofNat_Int] at hw2
        clear hcat hw hm
        subst s2
        go_enter Tryd.func27, Tryd.ntmps27
        go_wp2_with (go_at_call 36; refine (HO2.out _).mono ?_; rintro e w1 ⟨rfl, hb⟩)
        go_ret
        exact ⟨by rw [HE.out]; rfl, hb⟩
      · by_cases h1 : n < 256
        · have HE := Lib.hid (show headP s n = 217 :: be n 1 by rw [headP, if_neg s1, if_pos s2, if_neg h0, if_pos h1])
          have i0 : ¬ ((n : Int) < 32) := by omega
          have i1 : ((n : Int) < 256) := by omega
          have hc := fun w => hcat 217 1 w (by omega)
          clear hcat hw
          subst s2
          go_enter Tryd.func27, Tryd.ntmps27
          go_wp2_with (go_at_call 37; refine (HB.out 1 _ (by omega)).mono ?_; rintro e w1 ⟨rfl, hb⟩)
          go_ret
          exact ⟨by rw [HE.out]; rfl, hb⟩
        · have HE := Lib.hid (show headP s n = 218 :: be n 2 by rw [headP, if_neg s1, if_pos s2, if_neg h0, if_neg h1])
          have i0 : ¬ ((n : Int) < 32) := by omega
          have i1 : ¬ ((n : Int) < 256) := by omega
          have hc := fun w => hcat 218 2 w (by omega)
          clear hcat hw
          subst s2
          go_enter Tryd.func27, Tryd.ntmps27
          go_wp2_with (go_at_call 37; refine (HB.out 2 _ (by omega)).mono ?_; rintro e w1 ⟨rfl, hb⟩)
          go_ret
          exact ⟨by rw [HE.out]; rfl, hb⟩
    · by_cases s3 : s = 3
      · by_cases h0 : n < 16
        · have HE := Lib.hid (show headP s n = [UInt8.ofNat (144 + n)] by rw [headP, if_neg s1, if_neg s2, if_pos s3, if_pos h0])
          have i0 : ((n : Int) < 16) := by omega
          have hw2 := hw 144 (by omega)
          have HO2 := Lib.hid (HO.out 144)
          obtain ⟨m, hm⟩ : ∃ m, 144 + n = m := ⟨_, rfl⟩
          rw [hm] at hw2 HO2 HE
          simp only [Int.cast_ofNat_Int] at hw2
          clear hcat hw hm
          subst s3
          go_enter Tryd.func27, Tryd.ntmps27
          go_wp2_with (go_at_call 36; refine (HO2.out _).mono ?_; rintro e w1 ⟨rfl, hb⟩)
          go_ret
          exact ⟨by rw [HE.out]; rfl, hb⟩
        · have HE := Lib.hid (show headP s n = 220 :: be n 2 by rw [headP, if_neg s1, if_neg s2, if_pos s3, if_neg h0])
          have i0 : ¬ ((n : Int) < 16) := by omega
          have hc := fun w => hcat 220 2 w (by omega)
          clear hcat hw
          subst s3
          go_enter Tryd.func27, Tryd.ntmps27
          go_wp2_with (go_at_call 37; refine (HB.out 2 _ (by omega)).mono ?_; rintro e w1 ⟨rfl, hb⟩)
          go_ret
          exact ⟨by rw [HE.out]; rfl, hb⟩
      · by_cases h0 : n < 16
        · have HE := Lib.hid (show headP s n = [UInt8.ofNat (128 + n)] by rw [headP, if_neg s1, if_neg s2, if_neg s3, if_pos h0])
          have i0 : ((n : Int) < 16) := by omega
          have hw2 := hw 128 (by omega)
          have HO2 := Lib.hid (HO.out 128)
          obtain ⟨m, hm⟩ : ∃ m, 128 + n = m := ⟨_, rfl⟩
          rw [hm] at hw2 HO2 HE
          simp only [Int.cast_ofNat_Int] at hw2
          clear hcat hw hm
          go_enter Tryd.func27, Tryd.ntmps27
          go_wp2_with (go_at_call 36; refine (HO2.out _).mono ?_; rintro e w1 ⟨rfl, hb⟩)
          go_ret
          exact ⟨by rw [HE.out]; rfl, hb⟩
        · have HE := Lib.hid (show headP s n = 222 :: be n 2 by rw [headP, if_neg s1, if_neg s2, if_neg s3, if_neg h0])
          have i0 : ¬ ((n : Int) < 16) := by omega
          have hc := fun w => hcat 222 2 w (by omega)
          clear hcat hw
          go_enter Tryd.func27, Tryd.ntmps27
          go_wp2_with (go_at_call 37; refine (HB.out 2 _ (by omega)).mono ?_; rintro e w1 ⟨rfl, hb⟩)
          go_ret
          exact ⟨by rw [HE.out]; rfl, hb⟩
end Go.Proofs.YtgdlfbphfogphaaDoor
