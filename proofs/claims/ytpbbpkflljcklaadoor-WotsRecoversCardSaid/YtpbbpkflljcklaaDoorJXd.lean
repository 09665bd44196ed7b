/- The reference's Sign. -/
import Derived.Test.YtpbbpkflljcklaaDoorJXc
import Derived.Test.YtpbbpkflljcklaaDoorJXe0
import Derived.Test.YtpbbpkflljcklaaDoorJ5
namespace Go.Proofs.YtpbbpkflljcklaaDoor
open Go.RowKit

set_option maxRecDepth 100000 in
set_option maxHeartbeats 4000000 in
theorem rsign_any (s : (List UInt8)) (n : Nat) (d : (List UInt8)) (w : World) (hs : s.length ≤ 10000000) (hn : n < 18446744073709551616) :
    Calls Tryd.prog 9 #[.string ⟨s.toArray⟩, .int .u64 (n : Int), .string ⟨d.toArray⟩] w fun e w' => ∃ ao cp, e = .returned (.tuple #[.slice ao (signC s n d).1.length cp, .int .i64 (signC s n d).2]) ∧ Strs ao (signC s n d).1 w' ∧ Below w.heap.size w w' := by
  by_cases h32 : d.length = 32
  · rw [signC_yes h32]
    have h32i : (d.length : Int) = 32 := by omega
    have HDG := Lib.hid (fun wz => rdigits_any d wz)
    have HDC := Lib.hid (show digC d = digL d from if_pos h32)
    have HDL := Lib.hid (digL_len h32)
    have HS := Lib.hid (fun (k : Nat) (hk : k < 67) wz => rsecret_any s n k wz hs hn (by omega))
    have HW := Lib.hid (fun (k : Nat) wz => show Calls Tryd.prog 27 #[.int .i64 (k : Int), .int .i64 0, .int .i64 (dgt d k : Nat), .string ⟨(secF s n k).toArray⟩] wz fun e w' => e = .returned (.string ⟨(walkV k 0 (dgt d k : Nat) (secF s n k)).toArray⟩) ∧ Below wz.heap.size wz w' from rwalk_any (k : Int) 0 (dgt d k : Nat) (secF s n k) wz (by have := secF_len s n k; omega))
    obtain ⟨f, hf⟩ : ∃ f : Nat → (List UInt8), f = fun i : Nat => walkV (i : Int) 0 (dgt d i : Nat) (secF s n i) := ⟨_, rfl⟩
    have HP := Lib.hid (show sigL s n d = row67 f by rw [hf]; rfl)
    have HFK := Lib.hid (fun k : Nat => show walkV k 0 (dgt d k : Nat) (secF s n k) = f k by rw [hf])
    have HT := Lib.hid (fun k hk => row67_take f k hk)
    have HLN := Lib.hid (fun k => show ((row67 f).take k).length ≤ 67 by rw [List.length_take, row67_len]; omega)
    have HDA := Lib.hid (fun i (hi : i < 67) => dgt_at h32 hi)
    rw [HP.out]
    clear hs hn hf HP h32
    go_enter Tryd.func9, Tryd.ntmps9
    go_upto_region 4 with (go_at_call 26; refine (HDG.out _).mono ?_; rintro e w1 ⟨da, dc, rfl, hdi, -, hdb⟩; rw [HDC.out] at hdi; rw [HDC.out, HDL.out]; have HB0 := Lib.hid hdb; obtain ⟨db, doff, rfl, hdv⟩ := Ints.get hdi (by rw [HDL.out]; decide); have HDV := Lib.hid hdv; clear hdi hdb hdv)
    go_wp2
    go_loopw [9, 10] (fun v9 v10 wr => ∃ k : Nat, k ≤ 67 ∧ v10 = .int .i64 (k : Int) ∧ Hid (TRow w1.heap.size ((row67 f).take k) v9 wr) ∧ Hid (Below w1.heap.size w1 wr)) (fun _ v10 _ => 67 - (intOf v10).toNat)
    case atStart => exact ⟨0, Nat.zero_le _, rfl, Lib.hid (trow_nil _ _), Lib.hid (Below.refl _ _)⟩
    case round =>
      obtain ⟨k, hk, rfl, HI, HB⟩ := hrel
      by_cases hlt : k < 67
      · have k1 : (k : Int) < 67 := by omega
        have k0 : (0 : Int) ≤ (k : Int) := by omega
        have hd1 := HDV.out k _ (HDA.out k hlt)
        have hdb1 : db < w1.heap.size := World.block_lt_of_cell? w1 _ hd1
        have hd : wr.drew.cell? ⟨db, doff + k, none⟩ = some (.int .i64 (dgt d k : Nat)) := (World.cell?_of_block (a := ⟨db, doff + k, none⟩) (HB.out.block db hdb1)).trans hd1
        have hdb2 : db < wr.drew.heap.size := Nat.lt_of_lt_of_le hdb1 HB.out.size
        have HDB := Lib.hid hdb2
        have HBD := Lib.hid (below_drew HB.out)
        have HID := Lib.hid (trow_next HI.out (Below.refl _ _).drew)
        have HSk := Lib.hid (HS.out k hlt)
        have HWk := Lib.hid (HW.out k)
        have HTk := Lib.hid (HT.out k hlt)
        rw [HFK.out k] at HWk
        have HLk := HLN.out k
        have HLT := Lib.hid hlt
        clear hd1 hdb1 hdb2
        generalize secF s n k = x at *
        generalize f k = y at *
        generalize (row67 f).take k = X at *
        generalize dgt d k = g at *
        clear hlt hk
        go_upto_region 8 with fail
        go_region_law (first
          | (go_simp; go_at_call 28; refine (HSk.out _).mono ?_; rintro e w2 ⟨rfl, hb2⟩; have hd2 := (World.cell?_of_block (a := ⟨db, doff + k, none⟩) (hb2.block db HDB.out)).trans hd; have HB2 := Lib.hid (below_next HBD.out hb2); have HI2 := Lib.hid (trow_next HID.out hb2); clear hb2)
          | (go_simp; go_at_call 27; refine (HWk.out _).mono ?_; rintro e w3 ⟨rfl, hb3⟩; have HB3 := Lib.hid (below_next HB2.out hb3); have HI3 := Lib.hid (trow_next HI2.out hb3); clear hb3)
          | (refine step_append_txt (t := y) rfl (.tmp 20) (.tmp 31) rfl rfl rfl HI3.out (by omega) HB3.out.size ?_; intro g5 c5 w5 ho5 hg5 _; have HO5 := Lib.hid ho5; have HB5 := Lib.hid (HB3.out.grown hg5 HB3.out.size (fun j e => (HI3.out.lt j e).1)); clear ho5 hg5))
        all_goals
          go_wp2
          go_roundw
          case rel => exact ⟨k + 1, HLT.out, by go_num, Lib.hid (by rw [HTk.out]; exact HO5.out), HB5⟩
          case measure => have := HLT.out; simp [intOf]; omega
      · have k1 : ¬ (k : Int) < 67 := by omega
        have ek : (row67 f).take k = row67 f := List.take_of_length_le (by rw [row67_len]; omega)
        rw [ek] at HI
        obtain ⟨ao, cp, rfl, hS⟩ := trow_len HI.out
        have HSS := Lib.hid hS
        clear hS ek hlt hk
        go_wp2
        refine bodyPost_ret (v := .tuple #[.slice ao (row67 f).length cp, .int .i64 0]) (by simp [results, Tryd.results9, go_sem]) rfl ⟨ao, ⟨cp, rfl⟩, HSS.out, below_next HB0.out HB.out⟩
  · rw [signC_no h32]
    have h32i : ¬ (d.length : Int) = 32 := by omega
    clear h32 hs hn
    go_enter Tryd.func9, Tryd.ntmps9
    go_wp2
    refine bodyPost_ret (v := .tuple #[.slice none 0 0, .int .i64 2]) (by simp [results, Tryd.results9, go_sem]) rfl ⟨none, 0, rfl, .inl rfl, Below.refl _ _⟩
end Go.Proofs.YtpbbpkflljcklaaDoor
