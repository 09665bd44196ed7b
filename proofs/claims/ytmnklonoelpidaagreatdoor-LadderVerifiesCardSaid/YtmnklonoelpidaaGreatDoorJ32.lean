/- The reference's walk along a chain. -/
import Derived.Test.YtmnklonoelpidaaGreatDoorJ8
import Derived.Test.YtmnklonoelpidaaGreatDoorJ9
import Derived.Laws.IdiomStrings
import Derived.Test.YtmnklonoelpidaaGreatDoorJ26
import Derived.Deep.QuietTactic
namespace Go.Proofs.YtmnklonoelpidaaGreatDoor
open Go.RowKit

theorem rhash3_any (tag x y z : (List UInt8)) (wz : World) (ht : tag.length ≤ 16) (hx : x.length ≤ 10000000) (hy : y.length ≤ 10000000) (hz : z.length ≤ 10000000) : Calls Tryz.prog 76 #[.string ⟨tag.toArray⟩, .slice (some ⟨wz.heap.size, 0, none⟩) 3 3] (wz.alloc (.cells #[.string ⟨x.toArray⟩, .string ⟨y.toArray⟩, .string ⟨z.toArray⟩] 9)) fun e w' => e = .returned (.string ⟨(hashL tag [x, y, z]).toArray⟩) ∧ Below wz.heap.size wz w' := by
  refine (refHash_any tag (some ⟨wz.heap.size, 0, none⟩) 3 [x, y, z] _ (strs_new wz [x, y, z] _ rfl) (by unfold maxLen; omega) (Nat.lt_of_lt_of_le (framed_short tag [x, y, z] ht (by intro u hu; simp at hu; rcases hu with rfl | rfl | rfl <;> assumption) (by simp)) (by decide))).mono ?_
  rintro e w' ⟨h1, h2⟩
  exact ⟨h1, below_next (by0 wz _) h2⟩
theorem rhash3_at (tag x y z : (List UInt8)) (wz : World) (sz : Nat) (hsz : sz = wz.heap.size) (ht : tag.length ≤ 16) (hx : x.length ≤ 10000000) (hy : y.length ≤ 10000000) (hz : z.length ≤ 10000000) : Calls Tryz.prog 76 #[.string ⟨tag.toArray⟩, .slice (some ⟨sz, 0, none⟩) 3 3] (wz.alloc (.cells #[.string ⟨x.toArray⟩, .string ⟨y.toArray⟩, .string ⟨z.toArray⟩] 9)) fun e w' => e = .returned (.string ⟨(hashL tag [x, y, z]).toArray⟩) ∧ Below wz.heap.size wz w' := by
  subst hsz
  exact rhash3_any tag x y z wz ht hx hy hz
set_option maxRecDepth 100000 in
set_option maxHeartbeats 1000000 in
theorem rwalk_any (i a b : Int) (x : (List UInt8)) (w : World) (hx : x.length ≤ 10000000) :
    Calls Tryz.prog 74 #[.int .i64 i, .int .i64 a, .int .i64 b, .string ⟨x.toArray⟩] w fun e w' => e = .returned (.string ⟨(walkV i a b x).toArray⟩) ∧ Below w.heap.size w w' := by
  by_cases hin : 0 ≤ i ∧ i ≤ 66 ∧ 0 ≤ a ∧ a ≤ b ∧ b ≤ 15
  · obtain ⟨h1, h2, h3, h4, h5⟩ := hin
    obtain ⟨i, rfl⟩ := Int.eq_ofNat_of_zero_le h1
    obtain ⟨a, rfl⟩ := Int.eq_ofNat_of_zero_le h3
    obtain ⟨b, rfl⟩ := Int.eq_ofNat_of_zero_le (Int.le_trans h3 h4)
    have HE := Lib.hid (walkV_nat i a b x (by omega) (by omega) (by omega))
    rw [HE.out]
    have i1 : ¬ (i : Int) < 0 := by omega
    have i2 : ¬ (66 : Int) < (i : Int) := by omega
    have i3 : ¬ (a : Int) < 0 := by omega
    have i4 : ¬ (b : Int) < (a : Int) := by omega
    have i5 : ¬ (15 : Int) < (b : Int) := by omega
    have HS := Lib.hid (fun n wz sz (hsz : sz = wz.heap.size) => rhash3_at chainT [UInt8.ofNat i] [UInt8.ofNat (a + n)] (walkF i a n x) wz sz hsz (by decide) (by simp) (by simp) (walkF_len i a x hx n))
    have hle : a ≤ b := by omega
    have hb15 : b ≤ 15 := by omega
    have hi66 : i ≤ 66 := by omega
    clear h1 h2 h3 h4 h5 hx
    go_enter Tryz.func74, Tryz.ntmps74
    go_wp2
    go_loopw [3, 9] (fun v3 v9 wr => ∃ n : Nat, a + n ≤ b ∧ v9 = .int .i64 ((a + n : Nat) : Int) ∧ v3 = .string ⟨(walkF i a n x).toArray⟩ ∧ Hid (Below w.heap.size w wr)) (fun _ v9 _ => b - (intOf v9).toNat)
    case atStart => exact ⟨0, hle, rfl, rfl, Lib.hid (Below.refl _ _)⟩
    case round =>
      obtain ⟨n, hn, rfl, rfl, HB⟩ := hrel
      have HSn := Lib.hid (HS.out n)
      have HN := Lib.hid (show walkF i a (n + 1) x = hashL chainT [[UInt8.ofNat i], [UInt8.ofNat (a + n)], walkF i a n x] from rfl)
      have HNE := Lib.hid (show b = a + n → b - a = n by omega)
      have HX := Lib.hid (show b - a = n → walkF i a (b - a) x = walkF i a n x from fun e => by rw [e])
      generalize walkF i a n x = X at *
      obtain ⟨k, hk⟩ : ∃ k, k = a + n := ⟨_, rfl⟩
      have HK1 := Lib.hid (show a + (n + 1) = k + 1 by omega)
      rw [← hk] at hn HSn HN HNE ⊢
      clear hk
      rw [← HN.out] at HSn
      by_cases hlt : k < b
      · have k1 : (k : Int) < (b : Int) := by omega
        have hci := conv_one i (by omega) wr
        have hcj := conv_one k (by omega) (wr.alloc (.cells #[.int .u8 (i : Int)] 5))
        rw [World.size_alloc] at hcj
        have hbe : Below wr.heap.size wr ((wr.alloc (.cells #[.int .u8 (i : Int)] 5)).alloc (.cells #[.int .u8 (k : Int)] 5)) := (by0 wr _).alloc (by simp) _
        have HBE := Lib.hid hbe
        clear HNE hbe
        go_wp2_with (go_at_call 76; go_loud (refine (HSn.out ((wr.alloc (.cells #[.int .u8 (i : Int)] 5)).alloc (.cells #[.int .u8 (k : Int)] 5)) _ (by simp)).mono ?_); rintro e w5 ⟨rfl, hb5⟩; have HB := Lib.hid (below_next HB.out (below_next HBE.out hb5)); clear hb5)
        go_roundw
        case rel => exact ⟨n + 1, by rw [HK1.out]; omega, by rw [HK1.out]; go_num, rfl, HB⟩
        case measure => simp [intOf]; omega
      · have k1 : ¬ (k : Int) < (b : Int) := by omega
        go_wp2
        go_ret
        exact ⟨by rw [HX.out (HNE.out (by omega))]; rfl, HB.out⟩
  · have HE := Lib.hid (show walkV i a b x = [] from if_neg hin)
    rw [HE.out]
    by_cases h1 : i < 0
    · go_enter Tryz.func74, Tryz.ntmps74
      go_wp2
      exact bodyPost_ret (v := .string ⟨#[]⟩) (by simp [results, Tryz.results74, go_sem]) rfl ⟨rfl, Below.refl _ _⟩
    · by_cases h2 : 66 < i
      · go_enter Tryz.func74, Tryz.ntmps74
        go_wp2
        exact bodyPost_ret (v := .string ⟨#[]⟩) (by simp [results, Tryz.results74, go_sem]) rfl ⟨rfl, Below.refl _ _⟩
      · by_cases h3 : a < 0
        · go_enter Tryz.func74, Tryz.ntmps74
          go_wp2
          exact bodyPost_ret (v := .string ⟨#[]⟩) (by simp [results, Tryz.results74, go_sem]) rfl ⟨rfl, Below.refl _ _⟩
        · by_cases h4 : b < a
          · go_enter Tryz.func74, Tryz.ntmps74
            go_wp2
            exact bodyPost_ret (v := .string ⟨#[]⟩) (by simp [results, Tryz.results74, go_sem]) rfl ⟨rfl, Below.refl _ _⟩
          · have h5 : 15 < b := by omega
            go_enter Tryz.func74, Tryz.ntmps74
            go_wp2
            exact bodyPost_ret (v := .string ⟨#[]⟩) (by simp [results, Tryz.results74, go_sem]) rfl ⟨rfl, Below.refl _ _⟩
end Go.Proofs.YtmnklonoelpidaaGreatDoor
/- The reference's secret, Public, Sign. -/
namespace Go.Proofs.YtmnklonoelpidaaGreatDoor
open Go.RowKit

set_option maxRecDepth 100000 in
set_option maxHeartbeats 4000000 in
theorem rsecret_any (s : (List UInt8)) (n i : Nat) (w : World) (hs : s.length ≤ 10000000) (hn : n < 18446744073709551616) (hi : i < 256) :
    Calls Tryz.prog 75 #[.string ⟨s.toArray⟩, .int .u64 (n : Int), .int .i64 (i : Int)] w fun e w' => e = .returned (.string ⟨(secF s n i).toArray⟩) ∧ Below w.heap.size w w' := by
  have HN := Lib.hid (fun wz => refNum_any n wz hn)
  have HH := Lib.hid (fun wz sz (hsz : sz = wz.heap.size) => rhash3_at secretT s (numL n) [UInt8.ofNat i] wz sz hsz (by decide) hs (by rw [numL_length]; decide) (by simp))
  have HE := Lib.hid (show secF s n i = hashL secretT [s, numL n, [UInt8.ofNat i]] from rfl)
  rw [← HE.out] at HH
  have hci : ∀ (n : Nat) (wz : World), wz.cell? ⟨n, 0, none⟩ = some (.int .u8 (i : Int)) → (convert 64 9 (.slice (some ⟨n, 0, none⟩) 1 1)).run Tryz.prog wz = .ok (.string ⟨#[UInt8.ofNat i]⟩) wz := fun n wz h => conv_at i n wz h hi
  have hwi : IntKind.u8.wrap (i : Int) = (i : Int) := IntWalk.u8_in _ (by omega)
  clear hs hn HE
  go_enter Tryz.func75, Tryz.ntmps75
  go_upto_region 1 with fail
  go_region_with
    (first
      | (go_at_call 73; refine (HN.out _).mono ?_; rintro e w1 ⟨rfl, hb1⟩; (try have hkA := keep_cells hb1 w.heap.size (by first | (simp; done) | (simp; omega))); have hs1 : Below w.heap.size w w1 := below_next (by first | (with_reducible exact (Below.refl _ _).drew) | (with_reducible exact (by0 w _).drew)) hb1)
      | (go_at_call 76; refine (HH.out _ _ ?_).mono ?_; (focus (simp; done)); rintro e w2 ⟨rfl, hb2⟩; have hs2 : Below w.heap.size w w2 := below_next (by first | (with_reducible exact hs1) | (with_reducible exact below_alloc hs1 _)) hb2))
  all_goals
    have HF := Lib.hid hs2
    go_wp2
    go_ret
    exact ⟨rfl, HF.out⟩
end Go.Proofs.YtmnklonoelpidaaGreatDoor
/- The reference's Public and Sign. -/
namespace Go.Proofs.YtmnklonoelpidaaGreatDoor
open Go.RowKit

theorem trow_len {B : Nat} {X : List (List UInt8)} {v : Value} {w : World} (h : TRow B X v w) : ∃ ao cp, v = .slice ao X.length cp ∧ Strs ao X w := strs_of_row h
set_option maxRecDepth 100000 in
set_option maxHeartbeats 4000000 in
theorem rpublic_any (s : (List UInt8)) (n : Nat) (w : World) (hs : s.length ≤ 10000000) (hn : n < 18446744073709551616) :
    Calls Tryz.prog 40 #[.string ⟨s.toArray⟩, .int .u64 (n : Int)] w fun e w' => e = .returned (.string ⟨(pubF s n).toArray⟩) ∧ Below w.heap.size w w' := by
  have HS := Lib.hid (fun (k : Nat) (hk : k < 67) wz => rsecret_any s n k wz hs hn (by omega))
  have HW := Lib.hid (fun (k : Nat) wz => show Calls Tryz.prog 74 #[.int .i64 (k : Int), .int .i64 0, .int .i64 15, .string ⟨(secF s n k).toArray⟩] wz fun e w' => e = .returned (.string ⟨(walkV k 0 15 (secF s n k)).toArray⟩) ∧ Below wz.heap.size wz w' from rwalk_any (k : Int) 0 15 (secF s n k) wz (by have := secF_len s n k; omega))
  obtain ⟨f, hf⟩ : ∃ f : Nat → (List UInt8), f = fun i : Nat => walkV (i : Int) 0 15 (secF s n i) := ⟨_, rfl⟩
  have HFL := Lib.hid (show ∀ i, i < 67 → (f i).length ≤ 10000000 from fun i _ => by have := walkV_len32 i 0 15 _ (secF_len s n i); rw [hf]; show (walkV (i : Int) ((0 : Nat) : Int) ((15 : Nat) : Int) _).length ≤ _; omega)
  have HP := Lib.hid (show pubF s n = hashL publicT (row67 f) by rw [hf]; rfl)
  have HFK := Lib.hid (fun k : Nat => show walkV k 0 15 (secF s n k) = f k by rw [hf])
  have HT := Lib.hid (fun k hk => row67_take f k hk)
  have HLN := Lib.hid (fun k => show ((row67 f).take k).length ≤ 67 by rw [List.length_take, row67_len]; omega)
  rw [HP.out]
  clear hs hn hf HP
  go_enter Tryz.func40, Tryz.ntmps40
  go_wp2
  go_loopw [5, 6] (fun v5 v6 wr => ∃ k : Nat, k ≤ 67 ∧ v6 = .int .i64 (k : Int) ∧ Hid (TRow w.heap.size ((row67 f).take k) v5 wr) ∧ Hid (Below w.heap.size w wr)) (fun _ v6 _ => 67 - (intOf v6).toNat)
  case atStart => exact ⟨0, Nat.zero_le _, rfl, Lib.hid (trow_nil _ _), Lib.hid (Below.refl _ _)⟩
  case round =>
    obtain ⟨k, hk, rfl, HI, HB⟩ := hrel
    by_cases hlt : k < 67
    · have k1 : (k : Int) < 67 := by omega
      have k0 : (0 : Int) ≤ (k : Int) := by omega
      have HSk := Lib.hid (HS.out k hlt)
      have HWk := Lib.hid (HW.out k)
      have HTk := Lib.hid (HT.out k hlt)
      rw [HFK.out k] at HWk
      have HLk := HLN.out k
      have HLT := Lib.hid hlt
      generalize secF s n k = x at *
      generalize f k = y at *
      generalize (row67 f).take k = X at *
      clear hlt hk
      go_wp2_with (first
        | (go_at_call 75; refine (HSk.out _).mono ?_; rintro e w2 ⟨rfl, hb2⟩; have HB2 := Lib.hid (below_next HB.out hb2); have HI2 := Lib.hid (trow_next HI.out hb2); clear hb2)
        | (go_at_call 74; refine (HWk.out _).mono ?_; rintro e w3 ⟨rfl, hb3⟩; have HB3 := Lib.hid (below_next HB2.out hb3); have HI3 := Lib.hid (trow_next HI2.out hb3); clear hb3)
        | (at_builtin; refine append_txt (t := y) rfl _ _ rfl rfl rfl HI3.out (by omega) HB3.out.size ?_; intro g5 c5 w5 ho5 hg5 _; have HO5 := Lib.hid ho5; have HB5 := Lib.hid (HB3.out.grown hg5 HB3.out.size (fun j e => (HI3.out.lt j e).1)); clear ho5 hg5))
      go_roundw
      case rel => exact ⟨k + 1, HLT.out, by go_num, Lib.hid (by rw [HTk.out]; exact HO5.out), HB5⟩
      case measure => have := HLT.out; simp [intOf]; omega
    · have k1 : ¬ (k : Int) < 67 := by omega
      have ek : (row67 f).take k = row67 f := List.take_of_length_le (by rw [row67_len]; omega)
      rw [ek] at HI
      obtain ⟨ao, cp, rfl, hS⟩ := trow_len HI.out
      have HH := Lib.hid (refHash_any publicT ao cp (row67 f) wr hS (by decide) (by have := framed67 publicT f (by decide) HFL.out; omega))
      clear hS ek hlt hk
      go_wp2_with (go_at_call 76; refine HH.out.mono ?_; rintro e w2 ⟨rfl, hb2⟩; have HB2 := Lib.hid (below_next HB.out hb2); clear hb2)
      go_ret
      exact ⟨rfl, HB2.out⟩
end Go.Proofs.YtmnklonoelpidaaGreatDoor
