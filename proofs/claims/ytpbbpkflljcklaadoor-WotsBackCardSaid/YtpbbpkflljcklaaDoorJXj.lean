/- WotsBack: its walk. -/
import Derived.Test.YtpbbpkflljcklaaDoorJXg
import Derived.Test.YtpbbpkflljcklaaDoorJXh
import Derived.Test.YtpbbpkflljcklaaDoorJXi0
import Derived.Test.YtpbbpkflljcklaaDoorJXj0
import Derived.Test.YtpbbpkflljcklaaDoorJ5
import Derived.Deep.RegionHeld3
import Derived.Test.YtpbbpkflljcklaaDoorJ6
namespace Go.Proofs.YtpbbpkflljcklaaDoor
open Go.RowKit

theorem W13.put {w0 wz : World} {a b : Value} (h : W13 w0 #[a, b] wz) (c d : Value) : W13 w0 #[c, d] ((wz.setCell ⟨w0.heap.size, 0, none⟩ c).setCell ⟨w0.heap.size, 1, none⟩ d) :=
  ⟨(h.o.setCell (Nat.le_refl _) c).setCell (Nat.le_refl _) d, (lit_set d (lit_set c h.x)).trans rfl⟩
set_option maxRecDepth 100000 in
set_option maxHeartbeats 8000000 in
theorem wotsBack_any (C : WotsC) (CC : ChainC) (HWK : WorksW) (s : (List UInt8)) (n : Nat) (x : (List UInt8)) (w : World) (hg : Glob w) (hn : n < 18446744073709551616) (hs : s.length ≤ maxLen) (hx : x.length ≤ maxLen) :
    Calls Tryd.prog 5 #[.agg #[.string ⟨s.toArray⟩, .int .u64 (n : Int)], .string ⟨x.toArray⟩] w fun e w' => e = .returned (.bool true) ∧ Below w.heap.size w w' := by
  have HWO := Lib.hid (fun wz (h : Below w.heap.size w wz) => HWK wz (hg.below hg.size h))
  have HCU := Lib.hid (fun wz => lcut_any s n wz hs)
  have HDI := Lib.hid (fun wz => digest13_any x wz hx)
  have hd32 := padT_len x
  have hls : (s.take 100).length ≤ 100 := by rw [List.length_take]; omega
  generalize s.take 100 = S at *
  generalize padT x = D at *
  have HGB := Lib.hid (fun wz (h : Below w.heap.size w wz) => hg.below hg.size h)
  have hsg : signC S n D = (sigL S n D, 0) := signC_yes hd32
  have HA := Lib.hid (fun wz (h : Below w.heap.size w wz) => C.s S n D wz (HGB.out wz h) (by omega) hn (by omega))
  rw [hsg] at HA
  obtain ⟨L, hL⟩ : ∃ L, L = sigL S n D := ⟨_, rfl⟩
  have hl67 : L.length = 67 := by rw [hL, sigL, row67_len]
  have hlm : ∀ t ∈ L, t.length ≤ 32 := by
    rw [hL]; intro t ht
    obtain ⟨i, hi, rfl⟩ := List.mem_map.1 ht
    exact walkV_len32 i 0 _ _ (secF_len _ _ _)
  have hge : ∀ (i : Nat) (hi : i < 67), L[i]'(by omega) = walkV (i : Int) 0 (dgt D i : Nat) (secF S n i) := by
    intro i hi
    subst hL
    exact row67_get _ i hi
  have hrec : recC L D = (pubF S n, 0) := by
    have hs1 : isSig L = true := isSig_yes hl67 (fun k hk => by rw [hge k (by omega)]; exact walkV_32 k _ _ (by omega) (dgt_le hd32 (by omega)) (secF_32 _ _ _))
    rw [recC_yes hd32 hs1, hL, recF, rec_sig hd32]; rfl
  have HR := Lib.hid (fun wz ao cp (h : Below w.heap.size w wz) (hS : Strs ao L wz) => C.r L ao cp D wz (HGB.out wz h) hS (by omega) (fun t ht => by have := hlm t ht; omega) (by omega))
  rw [hrec] at HR
  rw [← hL] at HA
  have HA := Lib.hid HA.out
  simp only [hl67] at HA HR
  have HPU := Lib.hid (fun wz (h : Below w.heap.size w wz) => C.p S n wz (HGB.out wz h) (by omega) hn)
  have HDG := Lib.hid (fun wz (h : Below w.heap.size w wz) => CC.d D wz (HGB.out wz h) (by unfold maxLen; omega))
  have HDC := Lib.hid (show digC D = digL D from if_pos hd32)
  have HDL := Lib.hid (digL_len hd32)
  have HDA := Lib.hid (fun i (hi : i < 67) => dgt_at hd32 hi)
  have HSE := Lib.hid (fun (k : Nat) (hk : k < 67) wz (h : Below w.heap.size w wz) => lsecret_any S n k wz (HGB.out wz h) (by omega) (by omega))
  obtain ⟨f, hf⟩ : ∃ f : Nat → (List UInt8), f = fun i : Nat => walkV (i : Int) 0 15 (secF S n i) := ⟨_, rfl⟩
  have hfl : ∀ i, (f i).length ≤ 32 := fun i => by rw [hf]; exact walkV_len32 i 0 15 _ (secF_len S n i)
  have HP := Lib.hid (show pubF S n = hashL publicT (row67 f) by rw [hf]; rfl)
  have HW0 := Lib.hid (fun (k : Nat) (hk : k < 67) wz (h : Below w.heap.size w wz) => show Calls Tryd.prog 19 #[.int .i64 (k : Int), .int .i64 0, .int .i64 (dgt D k : Nat), .string ⟨(secF S n k).toArray⟩] wz fun e w' => e = .returned (.string ⟨(L[k]'(by omega)).toArray⟩) ∧ Below wz.heap.size wz w' by
    rw [hge k hk]; exact CC.k k 0 (dgt D k : Nat) (secF S n k) wz (HGB.out wz h) (by have := secF_len S n k; omega))
  have HW1 := Lib.hid (fun (k : Nat) (hk : k < 67) wz (h : Below w.heap.size w wz) => show Calls Tryd.prog 19 #[.int .i64 (k : Int), .int .i64 0, .int .i64 15, .string ⟨(secF S n k).toArray⟩] wz fun e w' => e = .returned (.string ⟨(f k).toArray⟩) ∧ Below wz.heap.size wz w' by
    rw [hf]; exact CC.k k 0 15 (secF S n k) wz (HGB.out wz h) (by have := secF_len S n k; omega))
  have HW2 := Lib.hid (fun (k : Nat) (hk : k < 67) wz (h : Below w.heap.size w wz) => show Calls Tryd.prog 19 #[.int .i64 (k : Int), .int .i64 (dgt D k : Nat), .int .i64 15, .string ⟨(L[k]'(by omega)).toArray⟩] wz fun e w' => e = .returned (.string ⟨(f k).toArray⟩) ∧ Below wz.heap.size wz w' by
    have := CC.k k (dgt D k : Nat) 15 (L[k]'(by omega)) wz (HGB.out wz h) (by have := hlm _ (List.getElem_mem (show k < L.length by omega)); omega)
    rw [show walkV (k : Int) (dgt D k : Nat) 15 (L[k]'(by omega)) = f k by
      rw [hge k hk, hf]; exact walkV_two k 0 (dgt D k) 15 _ (by omega) (by omega) (dgt_le hd32 hk) (by omega)] at this
    exact this)
  have HT := Lib.hid (fun k hk => row67_take f k hk)
  have HLN := Lib.hid (fun k => show ((row67 f).take k).length ≤ 67 by rw [List.length_take, row67_len]; omega)
  have HLL := Lib.hid hl67
  have K := Lib.hid (W13.start w #[.string ⟨s.toArray⟩, .int .u64 (n : Int)])
  have HB0 := Lib.hid (Below.refl w.heap.size w)
  rw [HP.out] at HR HPU
  have HFL := Lib.hid (framed67 publicT f (by decide) (fun i _ => by have := hfl i; omega))
  clear hs hn hx hls hg hge hlm hL hsg hrec HP hf hfl
  go_enter Tryd.func5, Tryd.ntmps5
  go_upto_region 1 with fail
  change Code.wp _ _ _ _ (w.alloc (.cells #[.string ⟨s.toArray⟩, .int .u64 (n : Int)] 24))
  generalize w.alloc (.cells #[.string ⟨s.toArray⟩, .int .u64 (n : Int)] 24) = w1 at *
  go_upto_region 3 with (go_at_call 13; refine (HWO.out _ K.out.o).mono ?_; rintro e w2 ⟨rfl, hb2⟩; have K := Lib.hid (K.out.next hb2); clear hb2)
  obtain ⟨c0, c1⟩ := K.out.get
  go_upto_region 4 with (go_at_call 16; refine (HCU.out _).mono ?_; rintro e w3 ⟨rfl, hb3⟩; have K := Lib.hid (K.out.next hb3); clear c0 c1; obtain ⟨c0, c1⟩ := K.out.get; have f0 := lit_free K.out.x 0; have f1 := lit_free K.out.x 1; clear hb3)
  have K := Lib.hid (K.out.put (.string ⟨S.toArray⟩) (.int .u64 (n : Int)))
  clear c0 c1 f0 f1
  generalize (w3.setCell ⟨w.heap.size, 0, none⟩ (.string ⟨S.toArray⟩)).setCell ⟨w.heap.size, 1, none⟩ (.int .u64 (n : Int)) = w4 at *
  go_upto_region 5 with (go_at_call 17; refine (HDI.out _).mono ?_; rintro e w5 ⟨rfl, hb5⟩; have K := Lib.hid (K.out.next hb5); clear hb5)
  obtain ⟨c0, c1⟩ := K.out.get
  go_upto_region 6 with (go_at_call 8; refine (HA.out _ K.out.o).mono ?_; rintro e w6 ⟨aa, ac, rfl, ha, -, hb6⟩; have K := Lib.hid (K.out.next hb6); have SA := Lib.hid ha; clear ha hb6)
  clear c0 c1 HA
  go_upto_region 7 with (go_at_call 14; refine (HR.out _ _ _ K.out.o SA.out).mono ?_; rintro e w7 ⟨rfl, hb7⟩; have K := Lib.hid (K.out.next hb7); have SA := Lib.hid (SA.out.below (Nat.le_refl _) hb7); clear hb7)
  go_upto_region 8 with (go_at_call 18; refine (HDG.out _ K.out.o).mono ?_; rintro e w8 ⟨da, dc, rfl, hdi, hdb⟩; have K := Lib.hid (K.out.next hdb); have SA := Lib.hid (SA.out.below (Nat.le_refl _) hdb); rw [HDC.out] at hdi; rw [HDC.out, HDL.out]; have HI := Lib.hid hdi; clear hdi hdb)
  obtain ⟨c0, c1⟩ := K.out.get
  go_upto_region 10 with (go_at_call 10; refine (HPU.out _ K.out.o).mono ?_; rintro e w9 ⟨rfl, hb9⟩; have K := Lib.hid (K.out.next hb9); have SA := Lib.hid (SA.out.below (Nat.le_refl _) hb9); have HI := Lib.hid (HI.out.next hb9); clear hb9)
  clear c0 c1
  obtain ⟨c0, c1⟩ := K.out.get
  obtain ⟨db, doff, rfl, hdv⟩ := Ints.get HI.out (by rw [HDL.out]; decide)
  have HDV := Lib.hid hdv
  have HC := Lib.hid (And.intro c0 c1)
  clear c0 c1 hdv HI HWO HCU HDI HR HPU HDG
  go_upto_region 12 with fail
  go_loopw [11, 12] (fun v11 v12 wr => ∃ (k : Nat) (v : Value), k ≤ 67 ∧ v = v11 ∧ v12 = .int .i64 (k : Int) ∧ Hid (TRow w9.heap.size ((row67 f).take k) v11 wr) ∧ Hid (Below w9.heap.size w9 wr)) (fun _ v12 _ => 67 - (intOf v12).toNat)
  case atStart => exact ⟨0, _, Nat.zero_le _, rfl, rfl, Lib.hid (trow_nil _ _), Lib.hid (Below.refl _ _)⟩
  case round =>
    obtain ⟨k, v11, hk, rfl, rfl, HI, HB⟩ := hrel
    by_cases hlt : k < 67
    · have k1 : (k : Int) < 67 := by omega
      have k0 : (0 : Int) ≤ (k : Int) := by omega
      obtain ⟨b1, o1, rfl, hc1⟩ := SA.out.cell k (by rw [HLL.out]; exact hlt)
      have hd1 := HDV.out k _ (HDA.out k hlt)
      have HSk := Lib.hid (fun wz (h : Below w9.heap.size w9 wz) => HSE.out k hlt wz (below_next K.out.o h))
      have HW0k := Lib.hid (fun wz (h : Below w9.heap.size w9 wz) => HW0.out k hlt wz (below_next K.out.o h))
      have HW1k := Lib.hid (fun wz (h : Below w9.heap.size w9 wz) => HW1.out k hlt wz (below_next K.out.o h))
      have HW2k := Lib.hid (fun wz (h : Below w9.heap.size w9 wz) => HW2.out k hlt wz (below_next K.out.o h))
      have HTk := Lib.hid (HT.out k hlt)
      have HLk := HLN.out k
      have HLT := Lib.hid hlt
      generalize secF S n k = sec at *
      generalize L[k] = y at *
      generalize f k = z at *
      generalize (row67 f).take k = X at *
      generalize dgt D k = g at *
      clear hlt hk HSE HW0 HW1 HW2 HT HLN HDV HDA
      have hk9 : ∀ wz, Below w9.heap.size w9 wz → ∀ (b o : Nat) (v : Value), w9.cell? ⟨b, o, none⟩ = some v → wz.cell? ⟨b, o, none⟩ = some v := fun wz h b o v hc => key_keep h hc
      have HST := Lib.hid (show ∀ wz wa, (wz.cell? ⟨w.heap.size, 0, none⟩ = some (.string ⟨S.toArray⟩) ∧ wz.cell? ⟨w.heap.size, 1, none⟩ = some (.int .u64 (n : Int)) ∧ wz.cell? ⟨b1, o1 + k, none⟩ = some (.string ⟨y.toArray⟩) ∧ wz.cell? ⟨db, doff + k, none⟩ = some (.int .i64 (g : Int)) ∧ TRow w9.heap.size X v11 wz ∧ Below w9.heap.size w9 wz) → Below wz.heap.size wz wa → (wa.cell? ⟨w.heap.size, 0, none⟩ = some (.string ⟨S.toArray⟩) ∧ wa.cell? ⟨w.heap.size, 1, none⟩ = some (.int .u64 (n : Int)) ∧ wa.cell? ⟨b1, o1 + k, none⟩ = some (.string ⟨y.toArray⟩) ∧ wa.cell? ⟨db, doff + k, none⟩ = some (.int .i64 (g : Int)) ∧ TRow w9.heap.size X v11 wa ∧ Below w9.heap.size w9 wa) from fun wz wa h hb => ⟨key_keep hb h.1, key_keep hb h.2.1, key_keep hb h.2.2.1, key_keep hb h.2.2.2.1, trow_next h.2.2.2.2.1 hb, below_next h.2.2.2.2.2 hb⟩)
      have hS0 : (wr.cell? ⟨w.heap.size, 0, none⟩ = some (.string ⟨S.toArray⟩) ∧ wr.cell? ⟨w.heap.size, 1, none⟩ = some (.int .u64 (n : Int)) ∧ wr.cell? ⟨b1, o1 + k, none⟩ = some (.string ⟨y.toArray⟩) ∧ wr.cell? ⟨db, doff + k, none⟩ = some (.int .i64 (g : Int)) ∧ TRow w9.heap.size X v11 wr ∧ Below w9.heap.size w9 wr) := ⟨key_keep HB.out HC.out.1, key_keep HB.out HC.out.2, key_keep HB.out hc1, key_keep HB.out hd1, HI.out, HB.out⟩
      have hS1 := HST.out _ _ hS0 (Below.refl _ _).drew
      have HSS := Lib.hid (fun wz (h : (wz.cell? ⟨w.heap.size, 0, none⟩ = some (.string ⟨S.toArray⟩) ∧ wz.cell? ⟨w.heap.size, 1, none⟩ = some (.int .u64 (n : Int)) ∧ wz.cell? ⟨b1, o1 + k, none⟩ = some (.string ⟨y.toArray⟩) ∧ wz.cell? ⟨db, doff + k, none⟩ = some (.int .i64 (g : Int)) ∧ TRow w9.heap.size X v11 wz ∧ Below w9.heap.size w9 wz)) => HSk.out wz h.2.2.2.2.2)
      have HSW0 := Lib.hid (fun wz (h : (wz.cell? ⟨w.heap.size, 0, none⟩ = some (.string ⟨S.toArray⟩) ∧ wz.cell? ⟨w.heap.size, 1, none⟩ = some (.int .u64 (n : Int)) ∧ wz.cell? ⟨b1, o1 + k, none⟩ = some (.string ⟨y.toArray⟩) ∧ wz.cell? ⟨db, doff + k, none⟩ = some (.int .i64 (g : Int)) ∧ TRow w9.heap.size X v11 wz ∧ Below w9.heap.size w9 wz)) => HW0k.out wz h.2.2.2.2.2)
      have HSW1 := Lib.hid (fun wz (h : (wz.cell? ⟨w.heap.size, 0, none⟩ = some (.string ⟨S.toArray⟩) ∧ wz.cell? ⟨w.heap.size, 1, none⟩ = some (.int .u64 (n : Int)) ∧ wz.cell? ⟨b1, o1 + k, none⟩ = some (.string ⟨y.toArray⟩) ∧ wz.cell? ⟨db, doff + k, none⟩ = some (.int .i64 (g : Int)) ∧ TRow w9.heap.size X v11 wz ∧ Below w9.heap.size w9 wz)) => HW1k.out wz h.2.2.2.2.2)
      have HSW2 := Lib.hid (fun wz (h : (wz.cell? ⟨w.heap.size, 0, none⟩ = some (.string ⟨S.toArray⟩) ∧ wz.cell? ⟨w.heap.size, 1, none⟩ = some (.int .u64 (n : Int)) ∧ wz.cell? ⟨b1, o1 + k, none⟩ = some (.string ⟨y.toArray⟩) ∧ wz.cell? ⟨db, doff + k, none⟩ = some (.int .i64 (g : Int)) ∧ TRow w9.heap.size X v11 wz ∧ Below w9.heap.size w9 wz)) => HW2k.out wz h.2.2.2.2.2)
      clear hk9 HSk HW0k HW1k HW2k hc1 hd1 hS0 HI HB
      go_upto_region 14 with fail
      go_region_held3 (fun w' => (w'.cell? ⟨w.heap.size, 0, none⟩ = some (.string ⟨S.toArray⟩) ∧ w'.cell? ⟨w.heap.size, 1, none⟩ = some (.int .u64 (n : Int)) ∧ w'.cell? ⟨b1, o1 + k, none⟩ = some (.string ⟨y.toArray⟩) ∧ w'.cell? ⟨db, doff + k, none⟩ = some (.int .i64 (g : Int)) ∧ TRow w9.heap.size X v11 w' ∧ Below w9.heap.size w9 w'))
        (first | (with_reducible assumption))
        (first
          | (go_at_call 19; with_reducible refine (HSW2.out _ (by with_reducible assumption)).mono ?_; rintro e wa ⟨rfl, hba⟩; have hSa := HST.out _ _ (by with_reducible assumption) hba))
      go_upto_region 15 with fail
      have hSa1 := HST.out _ _ hSa (Below.refl _ _).drew
      clear hSa hS1
      go_region_held3 (fun w' => (w'.cell? ⟨w.heap.size, 0, none⟩ = some (.string ⟨S.toArray⟩) ∧ w'.cell? ⟨w.heap.size, 1, none⟩ = some (.int .u64 (n : Int)) ∧ w'.cell? ⟨b1, o1 + k, none⟩ = some (.string ⟨y.toArray⟩) ∧ w'.cell? ⟨db, doff + k, none⟩ = some (.int .i64 (g : Int)) ∧ TRow w9.heap.size X v11 w' ∧ Below w9.heap.size w9 w'))
        (first | (with_reducible assumption))
        (first
          | (go_at_call 20; with_reducible refine (HSS.out _ (by with_reducible assumption)).mono ?_; rintro e wb ⟨rfl, hbb⟩; have hSb := HST.out _ _ (by with_reducible assumption) hbb)
          | (go_at_call 19; with_reducible refine (HSW0.out _ (by with_reducible assumption)).mono ?_; rintro e wc ⟨rfl, hbc⟩; have hSc := HST.out _ _ (by with_reducible assumption) hbc)
          | (go_at_call 19; with_reducible refine (HSW1.out _ (by with_reducible assumption)).mono ?_; rintro e wd ⟨rfl, hbd⟩; have hSd := HST.out _ _ (by with_reducible assumption) hbd))
      all_goals
        have HId := Lib.hid hSd.2.2.2.2.1
        have HBd := Lib.hid hSd.2.2.2.2.2
        clear HST HSS HSW0 HSW1 HSW2
        go_wp2_with (at_builtin; refine append_txt (t := z) rfl _ _ rfl rfl rfl HId.out (by omega) HBd.out.size ?_; intro g5 c5 w5' ho5 hg5 _; have HO5 := Lib.hid ho5; have HB5 := Lib.hid (HBd.out.grown hg5 HBd.out.size (fun j e => (HId.out.lt j e).1)); clear ho5 hg5)
        go_roundw
        case rel => exact ⟨k + 1, _, HLT.out, rfl, by go_num, Lib.hid (by rw [HTk.out]; exact HO5.out), HB5⟩
        case measure => have := HLT.out; simp [intOf]; omega
    · have k1 : ¬ (k : Int) < 67 := by omega
      have ek : (row67 f).take k = row67 f := List.take_of_length_le (by rw [row67_len]; omega)
      rw [ek] at HI
      obtain ⟨ao, cp, rfl, hS⟩ := strs_of_row HI.out
      have HBW := Lib.hid (below_next K.out.o HB.out)
      have HH := Lib.hid (hash_any publicT ao cp (row67 f) wr (HGB.out _ HBW.out) hS (by decide) (by have := HFL.out; omega))
      clear hS ek hlt hk
      go_wp2_with (go_at_call 21; refine HH.out.mono ?_; rintro e w2' ⟨rfl, hb2⟩; have HB2 := Lib.hid (below_next HBW.out hb2); clear hb2)
      exact bodyPost_ret (v := .bool true) (by simp [results, Tryd.results5, go_sem]) rfl ⟨rfl, HB2.out⟩
end Go.Proofs.YtpbbpkflljcklaaDoor
