/- Layer 14's law: LadderKeys. -/
import Derived.Test.YtmnklonoelpidaaGreatDoorJLadl
import Derived.Test.YtmnklonoelpidaaGreatDoorJ20
import Derived.Test.YtmnklonoelpidaaGreatDoorJ8
namespace Go.Proofs.YtmnklonoelpidaaGreatDoor
open Go.RowKit

set_option maxRecDepth 100000 in
set_option maxHeartbeats 8000000 in
theorem ladderKeys_any {Ld : Nat → (List UInt8) → Nat → Nat → Nat → World → Prop} (L : LadderC Ld) (C : WotsC) (HWK : WorksL) (s d z F E : Nat) (K : Int) (R wt : Nat) (w : World) (hg : Glob w) (hs : s < 256) (hF : F < 18446744073709551616) (hE : E < 18446744073709551616) (hK : -9223372036854775808 ≤ K ∧ K ≤ 9223372036854775807) :
    Calls Tryz.prog 6 #[.agg (madeV s d z F E K R wt)] w fun e w' => e = .returned (.bool true) ∧ Below w.heap.size w w' := by
  have HWO := Lib.hid (fun wz (h : Below w.heap.size w wz) => HWK wz (hg.below hg.size h))
  have HGB := Lib.hid (fun wz (h : Below w.heap.size w wz) => hg.below hg.size h)
  obtain ⟨M, hM⟩ : ∃ M : Nat, M = K.toNat := ⟨_, rfl⟩
  have hmax : max 0 K = (M : Int) := by omega
  obtain ⟨m8, hm8⟩ : ∃ m, m = M % 6 := ⟨_, rfl⟩
  obtain ⟨m6, hm6⟩ : ∃ m, m = E % 40 := ⟨_, rfl⟩
  obtain ⟨n, hn⟩ : ∃ n, n = 1 + m8 := ⟨_, rfl⟩
  obtain ⟨l, hl⟩ : ∃ l, l = 1 + m6 := ⟨_, rfl⟩
  obtain ⟨f, hf⟩ : ∃ f, f = F / 2 := ⟨_, rfl⟩
  have hn8 : n ≤ 6 := by omega
  have hl6 : l ≤ 40 := by omega
  have hn1 : 1 ≤ n := by omega
  have hl1 : 0 < l := by omega
  obtain ⟨a, ha⟩ : ∃ a, a = l * n := ⟨_, rfl⟩
  have ha48 : a ≤ 240 := by rw [ha]; exact Nat.mul_le_mul hl6 hn8
  have hf63 : f ≤ 9223372036854775807 := by omega
  obtain ⟨g, hgg⟩ : ∃ g, g = f + a := ⟨_, rfl⟩
  have hgf : g - f = a := by omega
  have HKY := Lib.hid (show ∀ q k i, q = f + l * k + i → i < l → k < n → keyF f l n q = (k, true) from fun q k i hq hi hk => by
    have h1 : (q - f) / l = k := by
      rw [hq, show f + l * k + i - f = l * k + i by omega, Nat.mul_add_div hl1, Nat.div_eq_of_lt hi, Nat.add_zero]
    rw [keyF_yes (by omega) (by rw [h1]; exact hk), h1])
  have hkg : keyF f l n g = (0, false) := keyF_no (.inr (by rw [hgf, ha, Nat.mul_div_cancel_left _ hl1]; exact Nat.le_refl _))
  obtain ⟨h, hh⟩ : ∃ h, h = if f = 0 then 18446744073709551615 else f - 1 := ⟨_, rfl⟩
  have hhl : h < 18446744073709551616 := by rw [hh]; split <;> omega
  have hkh : keyF f l n h = (0, false) := by
    by_cases h0 : f = 0
    · rw [if_pos h0] at hh
      refine keyF_no (.inr ?_)
      rw [Nat.le_div_iff_mul_le hl1, Nat.mul_comm, ← ha]
      omega
    · rw [if_neg h0] at hh
      exact keyF_no (.inl (by omega))
  have hwh : IntKind.u64.wrap ((f : Int) - 1) = (h : Int) := by
    rw [IntKind.wrap_u64]
    by_cases h0 : f = 0
    · rw [if_pos h0] at hh
      omega
    · rw [if_neg h0] at hh
      omega
  obtain ⟨S, hS⟩ : ∃ S, S = txtF s 32 := ⟨_, rfl⟩
  have hsl : S.length = 32 := by rw [hS, txtF_len]
  have HTS := Lib.hid (fun wz => show Calls Tryz.prog 9 #[.int .u8 (s : Int), .int .i64 32] wz fun e w' => e = .returned (.string ⟨S.toArray⟩) ∧ Below wz.heap.size wz w' by rw [hS]; exact text14_any s 32 wz hs (by decide))
  have HFI := Lib.hid (show FineL S f l n from ⟨hsl, hl1, hn1, by omega, by rw [← ha]; omega⟩)
  have HNW := Lib.hid (fun wz (h : Below w.heap.size w wz) => show Calls Tryz.prog 10 #[.string ⟨S.toArray⟩, .int .u64 (f : Int), .int .u64 (l : Int), .int .i64 (n : Int)] wz fun e w' => ∃ b, e = .returned (.tuple #[.pointer (some ⟨b, 0, none⟩), .int .i64 0]) ∧ Ld b S f l n w' ∧ Below wz.heap.size wz w' from L.cn S f l n wz (HGB.out wz h) HFI.out)
  have HKE := Lib.hid (fun b q wz (h : Below w.heap.size w wz) (hb : Ld b S f l n wz) (k : Nat) (t : Bool) (hk : keyF f l n q = (k, t)) (hq : q < 18446744073709551616) => show Calls Tryz.prog 18 #[.pointer (some ⟨b, 0, none⟩), .int .u64 (q : Int)] wz fun e w' => e = .returned (.tuple #[.int .u64 (k : Int), .bool t]) ∧ Below wz.heap.size wz w' by
    have h1 := L.cq b S f l n q wz (HGB.out wz h) HFI.out hb hq
    rw [hk] at h1
    exact h1)
  have HKH := Lib.hid (fun b wz (hz : Below w.heap.size w wz) (hb : Ld b S f l n wz) => show Calls Tryz.prog 18 #[.pointer (some ⟨b, 0, none⟩), .int .u64 (h : Int)] wz fun e w' => e = .returned (.tuple #[.int .u64 0, .bool false]) ∧ Below wz.heap.size wz w' from HKE.out b h wz hz hb 0 false hkh hhl)
  have HKG := Lib.hid (fun b wz (hz : Below w.heap.size w wz) (hb : Ld b S f l n wz) => show Calls Tryz.prog 18 #[.pointer (some ⟨b, 0, none⟩), .int .u64 (g : Int)] wz fun e w' => e = .returned (.tuple #[.int .u64 0, .bool false]) ∧ Below wz.heap.size wz w' from HKE.out b g wz hz hb 0 false hkg (by omega))
  have HKK := Lib.hid (fun b q k i (hq : q = f + l * k + i) (hi : i < l) (hk : k < n) wz (hz : Below w.heap.size w wz) (hb : Ld b S f l n wz) => show Calls Tryz.prog 18 #[.pointer (some ⟨b, 0, none⟩), .int .u64 (q : Int)] wz fun e w' => e = .returned (.tuple #[.int .u64 (k : Int), .bool true]) ∧ Below wz.heap.size wz w' from HKE.out b q wz hz hb k true (HKY.out q k i hq hi hk) (by
    have h2 : l * k + i < l * n := Nat.lt_of_lt_of_le (Nat.add_lt_add_left hi _) (by rw [← Nat.mul_succ]; exact Nat.mul_le_mul_left _ hk)
    omega))
  have HRO := Lib.hid (fun b wz (h : Below w.heap.size w wz) (hb : Ld b S f l n wz) => L.cr b S f l n wz (HGB.out wz h) HFI.out hb)
  have HNU := Lib.hid (fun (k : Nat) (hk : k ≤ 6) wz => num_any k wz)
  have HPU := Lib.hid (fun (k : Nat) (hk : k ≤ 6) wz (h : Below w.heap.size w wz) => C.p S k wz (HGB.out wz h) (by omega) (by omega))
  have HCT := Lib.hid (fun (k : Nat) (wz : World) => run_cat (numL k) (pubF S k) (by have : (pubF S k).length ≤ 32 := hashL_len _ _; rw [numL_length]; omega) wz)
  have HBD := Lib.hid (fun ao cp wz (h : Below w.heap.size w wz) (hp : Strs ao (rungsL S n) wz) => build_any ao cp (rungsL S n) wz (HGB.out wz h) hp (by rw [rungsL_len]; omega) (fun i hi => Nat.le_trans (rungsL_short S n _ (List.getElem_mem hi)) (by decide)))
  have HRT := Lib.hid (fun t wz h => rootT_any (rungsL S n) t wz h)
  have HRS := Lib.hid (show rootS S n = rootD (rungsL S n) from rfl)
  have HRL := Lib.hid (fun k => rungsL_len S k)
  have HRM := Lib.hid (fun k => rungsL_more S k)
  have HRG := Lib.hid (fun k => show rungF S k = numL k ++ pubF S k from rfl)
  have HAA := Lib.hid (show ∀ k, k < n → l * k + l ≤ a from fun k hk => by rw [ha, ← Nat.mul_succ]; exact Nat.mul_le_mul_left _ hk)
  have HGF := Lib.hid (show g = f + l * n by rw [hgg, ha])
  have u1 : (M : Int).tmod 6 = (m8 : Int) := by rw [Int.tmod_eq_emod_of_nonneg (by omega)]; omega
  have u2 : (M : Int) % 6 = (m8 : Int) := by omega
  have u3 : IntKind.i64.wrap (m8 : Int) = (m8 : Int) := IntWalk.i64_in _ (by omega)
  have u4 : (1 : Int) + (m8 : Int) = (n : Int) := by omega
  have u5 : IntKind.i64.wrap (n : Int) = (n : Int) := IntWalk.i64_in _ (by omega)
  have v1 : (E : Int).tmod 40 = (m6 : Int) := by rw [Int.tmod_eq_emod_of_nonneg (by omega)]; omega
  have v2 : (E : Int) % 40 = (m6 : Int) := by omega
  have v3 : IntKind.u64.wrap (m6 : Int) = (m6 : Int) := by rw [IntKind.wrap_u64]; omega
  have v4 : (1 : Int) + (m6 : Int) = (l : Int) := by omega
  have v5 : IntKind.u64.wrap (l : Int) = (l : Int) := by rw [IntKind.wrap_u64]; omega
  have x1 : (F : Int).tdiv 2 = (f : Int) := by rw [Int.tdiv_eq_ediv_of_nonneg (by omega)]; omega
  have x2 : (F : Int) / 2 = (f : Int) := by omega
  have x3 : IntKind.u64.wrap (f : Int) = (f : Int) := by rw [IntKind.wrap_u64]; omega
  have HF63 := Lib.hid (show f ≤ 9223372036854775807 ∧ a ≤ 240 ∧ n ≤ 6 from ⟨hf63, ha48, hn8⟩)
  clear hF hE hK hs hM hm8 hm6 hn hl hf hkg hkh hhl hh hgf hgg ha hsl hS hf63 ha48 hg HKY HKE
  have B0 := Lib.hid (M14.first w (madeV s d z F E K R wt))
  have HC := Lib.hid (fun wz (h : M14 w (madeV s d z F E K R wt) wz) => show wz.cell? ⟨w.heap.size, 0, none⟩ = some (.int .u8 (s : Int)) ∧ wz.cell? ⟨w.heap.size, 1, none⟩ = some (.int .u8 (d : Int)) ∧ wz.cell? ⟨w.heap.size, 3, none⟩ = some (.int .u64 (F : Int)) ∧ wz.cell? ⟨w.heap.size, 4, none⟩ = some (.int .u64 (E : Int)) ∧ wz.cell? ⟨w.heap.size, 5, none⟩ = some (.int .i64 K) ∧ wz.cell? ⟨w.heap.size, 6, none⟩ = some (.int .u64 (R : Int)) from
    ⟨(lit_cell h.m 0).trans rfl, (lit_cell h.m 1).trans rfl, (lit_cell h.m 3).trans rfl, (lit_cell h.m 4).trans rfl, (lit_cell h.m 5).trans rfl, (lit_cell h.m 6).trans rfl⟩)
  go_enter Tryz.func6, Tryz.ntmps6
  go_upto_region 3 with (go_at_call 13; with_reducible refine (HWO.out _ B0.out.o).mono ?_; rintro e w1 ⟨rfl, hb1⟩; have B1 := Lib.hid (B0.out.next hb1); clear hb1)
  have B2 := Lib.hid (B1.out.next (Below.refl w1.heap.size w1).drew)
  have hS1 := HC.out _ B2.out
  have hS1 : w1.drew.cell? ⟨w.heap.size, 3, none⟩ = some (.int .u64 (F : Int)) ∧ w1.drew.cell? ⟨w.heap.size, 4, none⟩ = some (.int .u64 (E : Int)) ∧ w1.drew.cell? ⟨w.heap.size, 5, none⟩ = some (.int .i64 K) ∧ M14 w (madeV s d z F E K R wt) w1.drew := ⟨hS1.2.2.1, hS1.2.2.2.1, hS1.2.2.2.2.1, B2.out⟩
  go_region_held3 (fun wz => wz.cell? ⟨w.heap.size, 3, none⟩ = some (.int .u64 (F : Int)) ∧ wz.cell? ⟨w.heap.size, 4, none⟩ = some (.int .u64 (E : Int)) ∧ wz.cell? ⟨w.heap.size, 5, none⟩ = some (.int .i64 K) ∧ M14 w (madeV s d z F E K R wt) wz)
    (first | (with_reducible assumption))
    (first | (fail))
  generalize w1.drew = w2 at *
  clear hS1 B1 B0 HWO
  have c0 := (HC.out _ B2.out).1
  go_upto_region 6 with (first
    | (go_at_call 9; with_reducible refine (HTS.out _).mono ?_; rintro e w4 ⟨rfl, hb4⟩; have B4 := Lib.hid (B2.out.next hb4); clear hb4)
    | (go_at_call 10; with_reducible refine (HNW.out _ B4.out.o).mono ?_; rintro e w5 ⟨b, rfl, hl5, hb5⟩; have B5 := Lib.hid (B4.out.next hb5).o; have L5 := Lib.hid hl5; clear hb5 hl5))
  clear HTS HNW c0 B4 B2 HC
  go_upto_region 11 with fail
  go_loopw [9, 10, 11] (fun v9 v10 v11 wr => ∃ (k q : Nat) (v : Value), v = v9 ∧ k ≤ n ∧ v11 = .int .i64 (k : Int) ∧ v10 = .int .u64 (q : Int) ∧ Hid (q = f + l * k) ∧ Hid (TRow w5.heap.size (rungsL S k) v9 wr) ∧ Hid (Below w5.heap.size w5 wr)) (fun _ _ v11 _ => n - (intOf v11).toNat)
  case atStart => exact ⟨0, f, _, rfl, Nat.zero_le _, rfl, rfl, Lib.hid (by rw [Nat.mul_zero, Nat.add_zero]), Lib.hid (trow_nil _ _), Lib.hid (Below.refl _ _)⟩
  case round =>
    obtain ⟨k, q, v9, rfl, hk, rfl, rfl, HQ, HI, HB⟩ := hrel
    by_cases hlt : k < n
    · have k1 : (k : Int) < (n : Int) := by omega
      have k6 : k ≤ 6 := by omega
      have hwk : IntKind.u64.wrap (k : Int) = (k : Int) := by rw [IntKind.wrap_u64]; omega
      have HLT := Lib.hid hlt
      have HNk := Lib.hid (fun wz => HNU.out k k6 wz)
      have HPk := Lib.hid (fun wz hz => HPU.out k k6 wz hz)
      have hct := fun wz => HCT.out k wz
      have HRn := Lib.hid (HRM.out k)
      have hrg := HRG.out k
      have hlen : (rungsL S k).length ≤ 6 := by rw [HRL.out k]; omega
      rw [← hrg] at hct
      clear hrg
      generalize pubF S k = pb at *
      generalize numL k = nm at *
      generalize rungF S k = rg at *
      generalize rungsL S k = X at *
      clear hlt hk k6
      go_upto_region 14 with (first
        | (go_at_call 26; with_reducible refine (HNk.out _).mono ?_; rintro e w6 ⟨rfl, hb6⟩; have HI6 := Lib.hid (trow_next HI.out hb6); have HB6 := Lib.hid (HB.out.trans (hb6.mono HB.out.size)); clear hb6)
        | (go_at_call 27; with_reducible refine (HPk.out _ (B5.out.trans (HB6.out.mono B5.out.size))).mono ?_; rintro e w7 ⟨rfl, hb7⟩; have HI7 := Lib.hid (trow_next HI6.out hb7); have HB7 := Lib.hid (HB6.out.trans (hb7.mono HB6.out.size)); clear hb7)
        | (at_builtin; refine append_txt (t := rg) rfl _ _ rfl rfl rfl HI7.out (by omega) HB7.out.size ?_; intro g8 c8 w8 ho8 hg8 _; have HO8 := Lib.hid ho8; have HB8 := Lib.hid (HB7.out.grown hg8 HB7.out.size (fun j e => (HI7.out.lt j e).1)); clear ho8 hg8))
      clear hct HNk HPk HI HB
      go_wp2
      go_loopw [10, 12] (fun v10 v12 wr => ∃ i c : Nat, i ≤ l ∧ v12 = .int .u64 (i : Int) ∧ v10 = .int .u64 (c : Int) ∧ Hid (c = q + i) ∧ Hid (TRow w5.heap.size (X ++ [rg]) (.slice (some ⟨g8, 0, none⟩) (X.length + 1) c8) wr) ∧ Hid (Below w5.heap.size w5 wr)) (fun _ v12 _ => l - (intOf v12).toNat)
      case atStart => exact ⟨0, q, Nat.zero_le _, rfl, rfl, Lib.hid rfl, HO8, HB8⟩
      case round =>
        obtain ⟨i, c, hi, rfl, rfl, HC, HI, HB⟩ := hrel
        by_cases hil : i < l
        · have i1 : (i : Int) < (l : Int) := by omega
          obtain ⟨c1, hc1⟩ : ∃ c1, c1 = c + 1 := ⟨_, rfl⟩
          obtain ⟨i2, hi2⟩ : ∃ i2, i2 = i + 1 := ⟨_, rfl⟩
          have hck : c ≤ f + a := by have := HC.out; have := HQ.out; have := HAA.out k HLT.out; omega
          have e1 : (c : Int) + 1 = (c1 : Int) := by omega
          have e2 : IntKind.u64.wrap (c1 : Int) = (c1 : Int) := by rw [IntKind.wrap_u64]; have := HF63.out; omega
          have e3 : (i : Int) + 1 = (i2 : Int) := by omega
          have e4 : IntKind.u64.wrap (i2 : Int) = (i2 : Int) := by rw [IntKind.wrap_u64]; omega
          have HIL := Lib.hid (show i < l ∧ c1 = c + 1 ∧ i2 = i + 1 from ⟨hil, hc1, hi2⟩)
          clear hil hi hc1 hi2 hck
          go_upto_region 18 with (go_at_call 18; with_reducible refine (HKK.out b c k i (by rw [HC.out, HQ.out]) HIL.out.1 HLT.out _ (B5.out.trans (HB.out.mono B5.out.size)) (L.ck L5.out HB.out)).mono ?_; rintro e w9 ⟨rfl, hb9⟩; have HI9 := Lib.hid (trow_next HI.out hb9); have HB9 := Lib.hid (HB.out.trans (hb9.mono HB.out.size)); clear hb9)
          go_wp2
          go_roundw
          case rel => exact ⟨i2, c1, by have := HIL.out; omega, rfl, rfl, Lib.hid (by have := HIL.out; have := HC.out; omega), HI9, HB9⟩
          case measure => have := HIL.out; simp [intOf]; omega
        · have i1 : ¬ (i : Int) < (l : Int) := by omega
          obtain rfl : i = l := by omega
          clear hil hi
          go_wp2
          go_roundw
          case rel => exact ⟨k + 1, c, _, rfl, HLT.out, by go_num, rfl, Lib.hid (by rw [HC.out, HQ.out, Nat.mul_succ, Nat.add_assoc]), Lib.hid (by rw [HRn.out]; exact HI.out), HB⟩
          case measure => have := HLT.out; simp [intOf]; omega
    · have k1 : ¬ (k : Int) < (n : Int) := by omega
      obtain rfl : k = n := by omega
      obtain rfl : q = g := by rw [HQ.out, HGF.out]
      obtain ⟨ao, cp, rfl, hS⟩ := strs_of_row HI.out
      have HS := Lib.hid hS
      have HRO := Lib.hid (fun b wz (h : Below w.heap.size w wz) (hb : Ld b S f l k wz) => show Calls Tryz.prog 14 #[.pointer (some ⟨b, 0, none⟩)] wz fun e w' => e = .returned (.string ⟨(rootD (rungsL S k)).toArray⟩) ∧ Below wz.heap.size wz w' by rw [← HRS.out]; exact HRO.out b wz h hb)
      clear HRS
      generalize rungsL S k = X at *
      generalize rootD X = Y at *
      clear hlt hk hS
      go_upto_region 23 with (first
        | (go_at_call 18; with_reducible refine (HKH.out b _ (B5.out.trans (HB.out.mono B5.out.size)) (L.ck L5.out HB.out)).mono ?_; rintro e w6 ⟨rfl, hb6⟩; have HS6 := Lib.hid (HS.out.below (Nat.le_refl _) hb6); have HB6 := Lib.hid (HB.out.trans (hb6.mono HB.out.size)); clear hb6)
        | (go_at_call 18; with_reducible refine (HKG.out b _ (B5.out.trans (HB6.out.mono B5.out.size)) (L.ck L5.out HB6.out)).mono ?_; rintro e w7 ⟨rfl, hb7⟩; have HS7 := Lib.hid (HS6.out.below (Nat.le_refl _) hb7); have HB7 := Lib.hid (HB6.out.trans (hb7.mono HB6.out.size)); clear hb7))
      clear HKH HKG HS
      go_upto_region 24 with (go_at_call 28; with_reducible refine (HBD.out ao cp _ (B5.out.trans (HB7.out.mono B5.out.size)) HS7.out).mono ?_; rintro e w8 ⟨t, rfl, ht8, _, hb8⟩; have HT8 := Lib.hid ht8; have HB8 := Lib.hid (HB7.out.trans (hb8.mono HB7.out.size)); clear hb8 ht8)
      go_wp2_with (first
        | (go_at_call 29; with_reducible refine (HRT.out t _ HT8.out).mono ?_; rintro e w9 ⟨rfl, rfl⟩)
        | (go_at_call 14; with_reducible refine (HRO.out b _ (B5.out.trans (HB8.out.mono B5.out.size)) (L.ck L5.out HB8.out)).mono ?_; rintro e w10 ⟨rfl, hb10⟩; have HB10 := Lib.hid (HB8.out.trans (hb10.mono HB8.out.size)); clear hb10))
      exact bodyPost_ret (v := .bool true) (by simp [results, Tryz.results6, go_sem]) rfl ⟨rfl, B5.out.trans (HB10.out.mono B5.out.size)⟩
end Go.Proofs.YtmnklonoelpidaaGreatDoor
