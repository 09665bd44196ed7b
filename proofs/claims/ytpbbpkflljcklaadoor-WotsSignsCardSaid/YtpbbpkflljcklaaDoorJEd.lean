/- The reference's walk along a chain. -/
import Derived.Test.YtpbbpkflljcklaaDoorJ5
import Derived.Test.YtpbbpkflljcklaaDoorJDr
import Derived.Laws.IdiomStrings
namespace Go.Proofs.YtpbbpkflljcklaaDoor
open Go.RowKit

theorem rhash3_any (tag x y z : (List UInt8)) (wz : World) (ht : tag.length ≤ 16) (hx : x.length ≤ 10000000) (hy : y.length ≤ 10000000) (hz : z.length ≤ 10000000) : Calls Tryd.prog 30 #[.string ⟨tag.toArray⟩, .slice (some ⟨wz.heap.size, 0, none⟩) 3 3] (wz.alloc (.cells #[.string ⟨x.toArray⟩, .string ⟨y.toArray⟩, .string ⟨z.toArray⟩] 9)) fun e w' => e = .returned (.string ⟨(hashL tag [x, y, z]).toArray⟩) ∧ Below wz.heap.size wz w' := by
  refine (refHash_any tag (some ⟨wz.heap.size, 0, none⟩) 3 [x, y, z] _ (strs_new wz [x, y, z] _ rfl) (by unfold maxLen; omega) (Nat.lt_of_lt_of_le (framed_short tag [x, y, z] ht (by intro u hu; simp at hu; rcases hu with rfl | rfl | rfl <;> assumption) (by simp)) (by decide))).mono ?_
  rintro e w' ⟨h1, h2⟩
  exact ⟨h1, below_next (by0 wz _) h2⟩
theorem rhash3_at (tag x y z : (List UInt8)) (wz : World) (sz : Nat) (hsz : sz = wz.heap.size) (ht : tag.length ≤ 16) (hx : x.length ≤ 10000000) (hy : y.length ≤ 10000000) (hz : z.length ≤ 10000000) : Calls Tryd.prog 30 #[.string ⟨tag.toArray⟩, .slice (some ⟨sz, 0, none⟩) 3 3] (wz.alloc (.cells #[.string ⟨x.toArray⟩, .string ⟨y.toArray⟩, .string ⟨z.toArray⟩] 9)) fun e w' => e = .returned (.string ⟨(hashL tag [x, y, z]).toArray⟩) ∧ Below wz.heap.size wz w' := by
  subst hsz
  exact rhash3_any tag x y z wz ht hx hy hz
set_option maxRecDepth 100000 in
set_option maxHeartbeats 1000000 in
theorem rwalk_any (i a b : Int) (x : (List UInt8)) (w : World) (hx : x.length ≤ 10000000) :
    Calls Tryd.prog 27 #[.int .i64 i, .int .i64 a, .int .i64 b, .string ⟨x.toArray⟩] w fun e w' => e = .returned (.string ⟨(walkV i a b x).toArray⟩) ∧ Below w.heap.size w w' := by
  by_cases hin : 0 ≤ i ∧ i ≤ 66 ∧ 0 ≤ a ∧ a ≤ b ∧ b ≤ 15
  · obtain ⟨h1, h2, h3, h4, h5⟩ := hin
    obtain ⟨i, rfl⟩ := Int.eq_ofNat_of_zero_le h1
    obtain ⟨a, rfl⟩ := Int.eq_ofNat_of_zero_le h3
    obtain ⟨b, rfl⟩ := Int.eq_ofNat_of_zero_le (Int.le_trans h3 h4)
    have HE := Lib.hid (walkV_nat i a b x (by omega) (by omega) (by omega))
    rw [HE.out]
    have i1 : ¬ (i : Int) < 0 := by omega
    have i2 : ¬ (66 : Int) < (i : Int) := by omega
    have i3 : ¬ (a : Int) < 0 := by omega
    have i4 : ¬ (b : Int) < (a : Int) := by omega
    have i5 : ¬ (15 : Int) < (b : Int) := by omega
    have HS := Lib.hid (fun n wz sz (hsz : sz = wz.heap.size) => rhash3_at chainT [UInt8.ofNat i] [UInt8.ofNat (a + n)] (walkF i a n x) wz sz hsz (by decide) (by simp) (by simp) (walkF_len i a x hx n))
    have hle : a ≤ b := by omega
    have hb15 : b ≤ 15 := by omega
    have hi66 : i ≤ 66 := by omega
    clear h1 h2 h3 h4 h5 hx
    go_enter Tryd.func27, Tryd.ntmps27
    go_wp2
    go_loopw [3, 9] (fun v3 v9 wr => ∃ n : Nat, a + n ≤ b ∧ v9 = .int .i64 ((a + n : Nat) : Int) ∧ v3 = .string ⟨(walkF i a n x).toArray⟩ ∧ Hid (Below w.heap.size w wr)) (fun _ v9 _ => b - (intOf v9).toNat)
    case atStart => exact ⟨0, hle, rfl, rfl, Lib.hid (Below.refl _ _)⟩
    case round =>
      obtain ⟨n, hn, rfl, rfl, HB⟩ := hrel
      have HSn := Lib.hid (HS.out n)
      have HN := Lib.hid (show walkF i a (n + 1) x = hashL chainT [[UInt8.ofNat i], [UInt8.ofNat (a + n)], walkF i a n x] from rfl)
      have HNE := Lib.hid (show b = a + n → b - a = n by omega)
      have HX := Lib.hid (show b - a = n → walkF i a (b - a) x = walkF i a n x from fun e => by rw [e])
      generalize walkF i a n x = X at *
      obtain ⟨k, hk⟩ : ∃ k, k = a + n := ⟨_, rfl⟩
      have HK1 := Lib.hid (show a + (n + 1) = k + 1 by omega)
      rw [← hk] at hn HSn HN HNE ⊢
      clear hk
      rw [← HN.out] at HSn
      by_cases hlt : k < b
      · have k1 : (k : Int) < (b : Int) := by omega
        have hci := conv_one i (by omega) wr
        have hcj := conv_one k (by omega) (wr.alloc (.cells #[.int .u8 (i : Int)] 5))
        rw [World.size_alloc] at hcj
        have hbe : Below wr.heap.size wr ((wr.alloc (.cells #[.int .u8 (i : Int)] 5)).alloc (.cells #[.int .u8 (k : Int)] 5)) := (by0 wr _).alloc (by simp) _
        have HBE := Lib.hid hbe
        clear HNE hbe
        go_wp2_with (go_at_call 30; go_loud (refine (HSn.out ((wr.alloc (.cells #[.int .u8 (i : Int)] 5)).alloc (.cells #[.int .u8 (k : Int)] 5)) _ (by simp)).mono ?_); rintro e w5 ⟨rfl, hb5⟩; have HB := Lib.hid (below_next HB.out (below_next HBE.out hb5)); clear hb5)
        go_roundw
        case rel => exact ⟨n + 1, by rw [HK1.out]; omega, by rw [HK1.out]; go_num, rfl, HB⟩
        case measure => simp [intOf]; omega
      · have k1 : ¬ (k : Int) < (b : Int) := by omega
        go_wp2
        go_ret
        exact ⟨by rw [HX.out (HNE.out (by omega))]; rfl, HB.out⟩
  · have HE := Lib.hid (show walkV i a b x = [] from if_neg hin)
    rw [HE.out]
    by_cases h1 : i < 0
    · go_enter Tryd.func27, Tryd.ntmps27
      go_wp2
      exact bodyPost_ret (v := .string ⟨#[]⟩) (by simp [results, Tryd.results27, go_sem]) rfl ⟨rfl, Below.refl _ _⟩
    · by_cases h2 : 66 < i
      · go_enter Tryd.func27, Tryd.ntmps27
        go_wp2
        exact bodyPost_ret (v := .string ⟨#[]⟩) (by simp [results, Tryd.results27, go_sem]) rfl ⟨rfl, Below.refl _ _⟩
      · by_cases h3 : a < 0
        · go_enter Tryd.func27, Tryd.ntmps27
          go_wp2
          exact bodyPost_ret (v := .string ⟨#[]⟩) (by simp [results, Tryd.results27, go_sem]) rfl ⟨rfl, Below.refl _ _⟩
        · by_cases h4 : b < a
          · go_enter Tryd.func27, Tryd.ntmps27
            go_wp2
            exact bodyPost_ret (v := .string ⟨#[]⟩) (by simp [results, Tryd.results27, go_sem]) rfl ⟨rfl, Below.refl _ _⟩
          · have h5 : 15 < b := by omega
            go_enter Tryd.func27, Tryd.ntmps27
            go_wp2
            exact bodyPost_ret (v := .string ⟨#[]⟩) (by simp [results, Tryd.results27, go_sem]) rfl ⟨rfl, Below.refl _ _⟩
end Go.Proofs.YtpbbpkflljcklaaDoor
