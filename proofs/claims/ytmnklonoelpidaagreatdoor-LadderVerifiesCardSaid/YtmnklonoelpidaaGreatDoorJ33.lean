/- The reference's Sign. -/
import Derived.Test.YtmnklonoelpidaaGreatDoorJ32
import Derived.Test.YtmnklonoelpidaaGreatDoorJ26
import Derived.Test.YtmnklonoelpidaaGreatDoorJ8
namespace Go.Proofs.YtmnklonoelpidaaGreatDoor
open Go.RowKit

set_option maxRecDepth 100000 in
set_option maxHeartbeats 4000000 in
theorem rsign_any (s : (List UInt8)) (n : Nat) (d : (List UInt8)) (w : World) (hs : s.length ≤ 10000000) (hn : n < 18446744073709551616) :
    Calls Tryz.prog 55 #[.string ⟨s.toArray⟩, .int .u64 (n : Int), .string ⟨d.toArray⟩] w fun e w' => ∃ ao cp, e = .returned (.tuple #[.slice ao (signC s n d).1.length cp, .int .i64 (signC s n d).2]) ∧ Strs ao (signC s n d).1 w' ∧ Below w.heap.size w w' := by
  by_cases h32 : d.length = 32
  · rw [signC_yes h32]
    have h32i : (d.length : Int) = 32 := by omega
    have HDG := Lib.hid (fun wz => rdigits_any d wz)
    have HDC := Lib.hid (show digC d = digL d from if_pos h32)
    have HDL := Lib.hid (digL_len h32)
    have HS := Lib.hid (fun (k : Nat) (hk : k < 67) wz => rsecret_any s n k wz hs hn (by omega))
    have HW := Lib.hid (fun (k : Nat) wz => show Calls Tryz.prog 74 #[.int .i64 (k : Int), .int .i64 0, .int .i64 (dgt d k : Nat), .string ⟨(secF s n k).toArray⟩] wz fun e w' => e = .returned (.string ⟨(walkV k 0 (dgt d k : Nat) (secF s n k)).toArray⟩) ∧ Below wz.heap.size wz w' from rwalk_any (k : Int) 0 (dgt d k : Nat) (secF s n k) wz (by have := secF_len s n k; omega))
    obtain ⟨f, hf⟩ : ∃ f : Nat → (List UInt8), f = fun i : Nat => walkV (i : Int) 0 (dgt d i : Nat) (secF s n i) := ⟨_, rfl⟩
    have HP := Lib.hid (show sigL s n d = row67 f by rw [hf]; rfl)
    have HFK := Lib.hid (fun k : Nat => show walkV k 0 (dgt d k : Nat) (secF s n k) = f k by rw [hf])
    have HT := Lib.hid (fun k hk => row67_take f k hk)
    have HLN := Lib.hid (fun k => show ((row67 f).take k).length ≤ 67 by rw [List.length_take, row67_len]; omega)
    have HDA := Lib.hid (fun i (hi : i < 67) => dgt_at h32 hi)
    rw [HP.out]
    clear hs hn hf HP h32
    go_enter Tryz.func55, Tryz.ntmps55
    go_upto_region 4 with (go_at_call 85; refine (HDG.out _).mono ?_; rintro e w1 ⟨da, dc, rfl, hdi, -, hdb⟩; rw [HDC.out] at hdi; rw [HDC.out, HDL.out]; have HB0 := Lib.hid hdb; obtain ⟨db, doff, rfl, hdv⟩ := Ints.get hdi (by rw [HDL.out]; decide); have HDV := Lib.hid hdv; clear hdi hdb hdv)
    go_wp2
    go_loopw [9, 10] (fun v9 v10 wr => ∃ k : Nat, k ≤ 67 ∧ v10 = .int .i64 (k : Int) ∧ Hid (TRow w1.heap.size ((row67 f).take k) v9 wr) ∧ Hid (Below w1.heap.size w1 wr)) (fun _ v10 _ => 67 - (intOf v10).toNat)
    case atStart => exact ⟨0, Nat.zero_le _, rfl, Lib.hid (trow_nil _ _), Lib.hid (Below.refl _ _)⟩
    case round =>
      obtain ⟨k, hk, rfl, HI, HB⟩ := hrel
      by_cases hlt : k < 67
      · have k1 : (k : Int) < 67 := by omega
        have k0 : (0 : Int) ≤ (k : Int) := by omega
        have hd1 := HDV.out k _ (HDA.out k hlt)
        have hdb1 : db < w1.heap.size := World.block_lt_of_cell? w1 _ hd1
        have hd : wr.drew.cell? ⟨db, doff + k, none⟩ = some (.int .i64 (dgt d k : Nat)) := (World.cell?_of_block (a := ⟨db, doff + k, none⟩) (HB.out.block db hdb1)).trans hd1
        have hdb2 : db < wr.drew.heap.size := Nat.lt_of_lt_of_le hdb1 HB.out.size
        have HDB := Lib.hid hdb2
        have HBD := Lib.hid (below_drew HB.out)
        have HID := Lib.hid (trow_next HI.out (Below.refl _ _).drew)
        have HSk := Lib.hid (HS.out k hlt)
        have HWk := Lib.hid (HW.out k)
        have HTk := Lib.hid (HT.out k hlt)
        rw [HFK.out k] at HWk
        have HLk := HLN.out k
        have HLT := Lib.hid hlt
        clear hd1 hdb1 hdb2
        generalize secF s n k = x at *
        generalize f k = y at *
        generalize (row67 f).take k = X at *
        generalize dgt d k = g at *
        clear hlt hk
        go_upto_region 8 with fail
        go_region_law (first
          | (go_simp; go_at_call 75; refine (HSk.out _).mono ?_; rintro e w2 ⟨rfl, hb2⟩; have hd2 := (World.cell?_of_block (a := ⟨db, doff + k, none⟩) (hb2.block db HDB.out)).trans hd; have HB2 := Lib.hid (below_next HBD.out hb2); have HI2 := Lib.hid (trow_next HID.out hb2); clear hb2)
          | (go_simp; go_at_call 74; refine (HWk.out _).mono ?_; rintro e w3 ⟨rfl, hb3⟩; have HB3 := Lib.hid (below_next HB2.out hb3); have HI3 := Lib.hid (trow_next HI2.out hb3); clear hb3)
          | (refine step_append_txt (t := y) rfl (.tmp 20) (.tmp 31) rfl rfl rfl HI3.out (by omega) HB3.out.size ?_; intro g5 c5 w5 ho5 hg5 _; have HO5 := Lib.hid ho5; have HB5 := Lib.hid (HB3.out.grown hg5 HB3.out.size (fun j e => (HI3.out.lt j e).1)); clear ho5 hg5))
        all_goals
          go_wp2
          go_roundw
          case rel => exact ⟨k + 1, HLT.out, by go_num, Lib.hid (by rw [HTk.out]; exact HO5.out), HB5⟩
          case measure => have := HLT.out; simp [intOf]; omega
      · have k1 : ¬ (k : Int) < 67 := by omega
        have ek : (row67 f).take k = row67 f := List.take_of_length_le (by rw [row67_len]; omega)
        rw [ek] at HI
        obtain ⟨ao, cp, rfl, hS⟩ := trow_len HI.out
        have HSS := Lib.hid hS
        clear hS ek hlt hk
        go_wp2
        refine bodyPost_ret (v := .tuple #[.slice ao (row67 f).length cp, .int .i64 0]) (by simp [results, Tryz.results55, go_sem]) rfl ⟨ao, ⟨cp, rfl⟩, HSS.out, below_next HB0.out HB.out⟩
  · rw [signC_no h32]
    have h32i : ¬ (d.length : Int) = 32 := by omega
    clear h32 hs hn
    go_enter Tryz.func55, Tryz.ntmps55
    go_wp2
    refine bodyPost_ret (v := .tuple #[.slice none 0 0, .int .i64 2]) (by simp [results, Tryz.results55, go_sem]) rfl ⟨none, 0, rfl, .inl rfl, Below.refl _ _⟩
end Go.Proofs.YtmnklonoelpidaaGreatDoor
/- The reference's Recover. -/
namespace Go.Proofs.YtmnklonoelpidaaGreatDoor
open Go.RowKit

set_option maxRecDepth 100000 in
set_option maxHeartbeats 4000000 in
theorem rrecover_any (g : List (List UInt8)) (ao : Option Addr) (cp : Nat) (d : (List UInt8)) (w : World) (hS : Strs ao g w) :
    Calls Tryz.prog 63 #[.slice ao g.length cp, .string ⟨d.toArray⟩] w fun e w' => e = .returned (.tuple #[.string ⟨(recC g d).1.toArray⟩, .int .i64 (recC g d).2]) ∧ Below w.heap.size w w' := by
  by_cases h32 : d.length = 32
  · have h32i : (d.length : Int) = 32 := by omega
    by_cases h67 : g.length = 67
    · have h67i : (g.length : Int) = 67 := by omega
      have HSS := Lib.hid (fun wz (h : Below w.heap.size w wz) => hS.below (Nat.le_refl _) h)
      have HDG := Lib.hid (fun wz => rdigits_any d wz)
      have HDC := Lib.hid (show digC d = digL d from if_pos h32)
      have HDL := Lib.hid (digL_len h32)
      have H67 := Lib.hid h67
      have H32 := Lib.hid h32
      have HDA := Lib.hid (fun i (hi : i < 67) => dgt_at h32 hi)
      obtain ⟨f, hf⟩ : ∃ f : Nat → (List UInt8), f = fun i : Nat => walkV (i : Int) (dgt d i : Nat) 15 (g.getD i []) := ⟨_, rfl⟩
      have HP := Lib.hid (show recF g d = hashL publicT (row67 f) by rw [hf]; rfl)
      have HFK := Lib.hid (fun k : Nat => show walkV k (dgt d k : Nat) 15 (g.getD k []) = f k by rw [hf])
      have HT := Lib.hid (fun k hk => row67_take f k hk)
      have HLN := Lib.hid (fun k => show ((row67 f).take k).length ≤ 67 by rw [List.length_take, row67_len]; omega)
      have HGD := Lib.hid (fun k (hk : k < g.length) => show g.getD k [] = g[k] by rw [List.getD_eq_getElem?_getD, List.getElem?_eq_getElem hk]; rfl)
      obtain ⟨RC, hRC⟩ : ∃ RC, recC g d = RC := ⟨_, rfl⟩
      rw [hRC]
      have HRC := Lib.hid hRC
      clear hS hf h32 h67 hRC
      go_enter Tryz.func63, Tryz.ntmps63
      go_wp2
      go_loopw [6] (fun v6 wr => ∃ k : Nat, k ≤ g.length ∧ v6 = .int .i64 (k : Int) ∧ Hid (∀ j (hj : j < g.length), j < k → g[j].length = 32) ∧ Hid (Below w.heap.size w wr)) (fun v6 _ => g.length - (intOf v6).toNat)
      case atStart => exact ⟨0, Nat.zero_le _, rfl, Lib.hid (fun j hj h => absurd h (Nat.not_lt_zero _)), Lib.hid (Below.refl _ _)⟩
      case round =>
        obtain ⟨k, hk, rfl, HA, HB⟩ := hrel
        by_cases hlt : k < g.length
        · have k1 : (k : Int) < 67 := by have := H67.out; omega
          have k0 : (0 : Int) ≤ (k : Int) := by omega
          obtain ⟨bb, off, rfl, hcell⟩ := (HSS.out _ HB.out).cell k hlt
          have HLT := Lib.hid hlt
          by_cases hx : g[k].length = 32
          · have hxi : (g[k].length : Int) = 32 := by omega
            have HA2 := Lib.hid (show ∀ j (hj : j < g.length), j < k + 1 → g[j].length = 32 from fun j hj h => by
              by_cases e : j = k
              · subst e; exact hx
              · exact HA.out j hj (by omega))
            generalize g[k] = x at *
            clear hlt hk hx
            go_wp2
            go_roundw
            case rel => exact ⟨k + 1, HLT.out, by go_num, HA2, HB⟩
            case measure => have := HLT.out; simp [intOf]; omega
          · have hxi : ¬ (g[k].length : Int) = 32 := by omega
            have HN := Lib.hid (recC_sig H32.out (isSig_no hlt hx))
            generalize g[k] = x at *
            clear hlt hk hx
            go_wp2
            refine bodyPost_ret (v := .tuple #[.string ⟨#[]⟩, .int .i64 10]) (by simp [results, Tryz.results63, go_sem]) rfl ⟨by rw [← HRC.out, HN.out]; rfl, HB.out⟩
        · have k1 : ¬ (k : Int) < 67 := by have := H67.out; omega
          have HIS := Lib.hid (show ∀ j (hj : j < g.length), g[j].length = 32 from fun j hj => HA.out j hj (by omega))
          have HY := Lib.hid (recC_yes H32.out (isSig_yes H67.out HIS.out))
          have HEND := Lib.hid (show RC = (hashL publicT (row67 f), 0) by rw [← HRC.out, HY.out, HP.out])
          have HFL := Lib.hid (show ∀ i, i < 67 → (f i).length ≤ 10000000 from fun i hi => by
            have hi2 : i < g.length := by have := H67.out; omega
            have := walkV_len32 i (dgt d i) 15 (g.getD i []) (by rw [HGD.out i hi2, HIS.out i hi2]; decide)
            rw [← HFK.out i]
            exact Nat.le_trans this (by decide))
          have HW := Lib.hid (fun (j : Nat) (hj : j < 67) wz => show Calls Tryz.prog 74 #[.int .i64 (j : Int), .int .i64 (dgt d j : Nat), .int .i64 15, .string ⟨(g.getD j []).toArray⟩] wz fun e w' => e = .returned (.string ⟨(f j).toArray⟩) ∧ Below wz.heap.size wz w' from by
            have hj2 : j < g.length := by have := H67.out; omega
            have h1 := rwalk_any (j : Int) (dgt d j : Nat) 15 (g.getD j []) wz (by rw [HGD.out j hj2, HIS.out j hj2]; decide)
            rw [HFK.out j] at h1
            exact h1)
          clear hlt hk HA HRC HY HP HIS HFK
          go_upto_region 11 with (go_at_call 85; refine (HDG.out _).mono ?_; rintro e w1 ⟨da, dc, rfl, hdi, -, hdb⟩; rw [HDC.out] at hdi; rw [HDC.out, HDL.out]; have HB0 := Lib.hid (below_next HB.out hdb); obtain ⟨db, doff, rfl, hdv⟩ := Ints.get hdi (by rw [HDL.out]; decide); have HDV := Lib.hid hdv; clear hdi hdb hdv)
          clear HB
          go_wp2
          go_loopw [8, 9] (fun v8 v9 wx => ∃ j : Nat, j ≤ 67 ∧ v9 = .int .i64 (j : Int) ∧ Hid (TRow w1.heap.size ((row67 f).take j) v8 wx) ∧ Hid (Below w1.heap.size w1 wx)) (fun _ v9 _ => 67 - (intOf v9).toNat)
          case atStart => exact ⟨0, Nat.zero_le _, rfl, Lib.hid (trow_nil _ _), Lib.hid (Below.refl _ _)⟩
          case round =>
            obtain ⟨j, hj, rfl, HI, HB⟩ := hrel
            by_cases hlt : j < 67
            · have k1 : (j : Int) < 67 := by omega
              have k0 : (0 : Int) ≤ (j : Int) := by omega
              have hj2 : j < g.length := by have := H67.out; omega
              have hd1 := HDV.out j _ (HDA.out j hlt)
              have hdb1 : db < w1.heap.size := World.block_lt_of_cell? w1 _ hd1
              have hd : wr.drew.cell? ⟨db, doff + j, none⟩ = some (.int .i64 (dgt d j : Nat)) := (World.cell?_of_block (a := ⟨db, doff + j, none⟩) (HB.out.block db hdb1)).trans hd1
              have HBD := Lib.hid (below_drew HB.out)
              have HID := Lib.hid (trow_next HI.out (Below.refl _ _).drew)
              obtain ⟨bb, off, rfl, hcell0⟩ := (HSS.out _ (below_next HB0.out HBD.out)).cell j hj2
              have hcell : wr.drew.cell? ⟨bb, off + j, none⟩ = some (.string ⟨(g.getD j []).toArray⟩) := by rw [HGD.out j hj2]; exact hcell0
              have HWk := Lib.hid (HW.out j hlt)
              have HTk := Lib.hid (HT.out j hlt)
              have HLk := HLN.out j
              have HLT := Lib.hid hlt
              clear hd1 hdb1 hcell0 hj2
              generalize g.getD j [] = x at *
              generalize f j = y at *
              generalize (row67 f).take j = X at *
              generalize dgt d j = q at *
              clear hlt hj
              go_upto_region 15 with fail
              go_region_law (first
                | (go_simp; go_at_call 74; refine (HWk.out _).mono ?_; rintro e w3 ⟨rfl, hb3⟩; have HB3 := Lib.hid (below_next HBD.out hb3); have HI3 := Lib.hid (trow_next HID.out hb3); clear hb3)
                | (refine step_append_txt (t := y) rfl (.tmp 34) (.tmp 45) rfl rfl rfl HI3.out (by omega) HB3.out.size ?_; intro g5 c5 w5 ho5 hg5 _; have HO5 := Lib.hid ho5; have HB5 := Lib.hid (HB3.out.grown hg5 HB3.out.size (fun j e => (HI3.out.lt j e).1)); clear ho5 hg5))
              all_goals
                go_wp2
                go_roundw
                case rel => exact ⟨j + 1, HLT.out, by go_num, Lib.hid (by rw [HTk.out]; exact HO5.out), HB5⟩
                case measure => have := HLT.out; simp [intOf]; omega
            · have k1 : ¬ (j : Int) < 67 := by omega
              have ek : (row67 f).take j = row67 f := List.take_of_length_le (by rw [row67_len]; omega)
              rw [ek] at HI
              obtain ⟨ro, rc, rfl, hS⟩ := trow_len HI.out
              have HH := Lib.hid (refHash_any publicT ro rc (row67 f) wr hS (by decide) (by have := framed67 publicT f (by decide) HFL.out; omega))
              have HBB := Lib.hid (below_next HB0.out HB.out)
              clear hS ek hlt hj
              go_wp2_with (go_at_call 76; refine HH.out.mono ?_; rintro e w2 ⟨rfl, hb2⟩; have HB2 := Lib.hid (below_next HBB.out hb2); clear hb2)
              refine bodyPost_ret (v := .tuple #[.string ⟨(hashL publicT (row67 f)).toArray⟩, .int .i64 0]) (by simp [results, Tryz.results63, go_sem]) rfl ⟨by rw [HEND.out]; rfl, HB2.out⟩
    · have h67i : ¬ (g.length : Int) = 67 := by omega
      rw [recC_sig h32 (isSig_len h67)]
      clear h32 h67 hS
      go_enter Tryz.func63, Tryz.ntmps63
      go_wp2
      refine bodyPost_ret (v := .tuple #[.string ⟨#[]⟩, .int .i64 10]) (by simp [results, Tryz.results63, go_sem]) rfl ⟨rfl, Below.refl _ _⟩
  · rw [recC_arg h32]
    have h32i : ¬ (d.length : Int) = 32 := by omega
    clear h32 hS
    go_enter Tryz.func63, Tryz.ntmps63
    go_wp2
    refine bodyPost_ret (v := .tuple #[.string ⟨#[]⟩, .int .i64 2]) (by simp [results, Tryz.results63, go_sem]) rfl ⟨rfl, Below.refl _ _⟩
end Go.Proofs.YtmnklonoelpidaaGreatDoor
