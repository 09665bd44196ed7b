/- The reference's Public and Sign. -/
import Derived.Test.YtpbbpkflljcklaaDoorJXb
namespace Go.Proofs.YtpbbpkflljcklaaDoor
open Go.RowKit

theorem trow_len {B : Nat} {X : List (List UInt8)} {v : Value} {w : World} (h : TRow B X v w) : ∃ ao cp, v = .slice ao X.length cp ∧ Strs ao X w := strs_of_row h
set_option maxRecDepth 100000 in
set_option maxHeartbeats 4000000 in
theorem rpublic_any (s : (List UInt8)) (n : Nat) (w : World) (hs : s.length ≤ 10000000) (hn : n < 18446744073709551616) :
    Calls Tryd.prog 11 #[.string ⟨s.toArray⟩, .int .u64 (n : Int)] w fun e w' => e = .returned (.string ⟨(pubF s n).toArray⟩) ∧ Below w.heap.size w w' := by
  have HS := Lib.hid (fun (k : Nat) (hk : k < 67) wz => rsecret_any s n k wz hs hn (by omega))
  have HW := Lib.hid (fun (k : Nat) wz => show Calls Tryd.prog 27 #[.int .i64 (k : Int), .int .i64 0, .int .i64 15, .string ⟨(secF s n k).toArray⟩] wz fun e w' => e = .returned (.string ⟨(walkV k 0 15 (secF s n k)).toArray⟩) ∧ Below wz.heap.size wz w' from rwalk_any (k : Int) 0 15 (secF s n k) wz (by have := secF_len s n k; omega))
  obtain ⟨f, hf⟩ : ∃ f : Nat → (List UInt8), f = fun i : Nat => walkV (i : Int) 0 15 (secF s n i) := ⟨_, rfl⟩
  have HFL := Lib.hid (show ∀ i, i < 67 → (f i).length ≤ 10000000 from fun i _ => by have := walkV_len32 i 0 15 _ (secF_len s n i); rw [hf]; show (walkV (i : Int) ((0 : Nat) : Int) ((15 : Nat) : Int) _).length ≤ _; omega)
  have HP := Lib.hid (show pubF s n = hashL publicT (row67 f) by rw [hf]; rfl)
  have HFK := Lib.hid (fun k : Nat => show walkV k 0 15 (secF s n k) = f k by rw [hf])
  have HT := Lib.hid (fun k hk => row67_take f k hk)
  have HLN := Lib.hid (fun k => show ((row67 f).take k).length ≤ 67 by rw [List.length_take, row67_len]; omega)
  rw [HP.out]
  clear hs hn hf HP
  go_enter Tryd.func11, Tryd.ntmps11
  go_wp2
  go_loopw [5, 6] (fun v5 v6 wr => ∃ k : Nat, k ≤ 67 ∧ v6 = .int .i64 (k : Int) ∧ Hid (TRow w.heap.size ((row67 f).take k) v5 wr) ∧ Hid (Below w.heap.size w wr)) (fun _ v6 _ => 67 - (intOf v6).toNat)
  case atStart => exact ⟨0, Nat.zero_le _, rfl, Lib.hid (trow_nil _ _), Lib.hid (Below.refl _ _)⟩
  case round =>
    obtain ⟨k, hk, rfl, HI, HB⟩ := hrel
    by_cases hlt : k < 67
    · have k1 : (k : Int) < 67 := by omega
      have k0 : (0 : Int) ≤ (k : Int) := by omega
      have HSk := Lib.hid (HS.out k hlt)
      have HWk := Lib.hid (HW.out k)
      have HTk := Lib.hid (HT.out k hlt)
      rw [HFK.out k] at HWk
      have HLk := HLN.out k
      have HLT := Lib.hid hlt
      generalize secF s n k = x at *
      generalize f k = y at *
      generalize (row67 f).take k = X at *
      clear hlt hk
      go_wp2_with (first
        | (go_at_call 28; refine (HSk.out _).mono ?_; rintro e w2 ⟨rfl, hb2⟩; have HB2 := Lib.hid (below_next HB.out hb2); have HI2 := Lib.hid (trow_next HI.out hb2); clear hb2)
        | (go_at_call 27; refine (HWk.out _).mono ?_; rintro e w3 ⟨rfl, hb3⟩; have HB3 := Lib.hid (below_next HB2.out hb3); have HI3 := Lib.hid (trow_next HI2.out hb3); clear hb3)
        | (at_builtin; refine append_txt (t := y) rfl _ _ rfl rfl rfl HI3.out (by omega) HB3.out.size ?_; intro g5 c5 w5 ho5 hg5 _; have HO5 := Lib.hid ho5; have HB5 := Lib.hid (HB3.out.grown hg5 HB3.out.size (fun j e => (HI3.out.lt j e).1)); clear ho5 hg5))
      go_roundw
      case rel => exact ⟨k + 1, HLT.out, by go_num, Lib.hid (by rw [HTk.out]; exact HO5.out), HB5⟩
      case measure => have := HLT.out; simp [intOf]; omega
    · have k1 : ¬ (k : Int) < 67 := by omega
      have ek : (row67 f).take k = row67 f := List.take_of_length_le (by rw [row67_len]; omega)
      rw [ek] at HI
      obtain ⟨ao, cp, rfl, hS⟩ := trow_len HI.out
      have HH := Lib.hid (refHash_any publicT ao cp (row67 f) wr hS (by decide) (by have := framed67 publicT f (by decide) HFL.out; omega))
      clear hS ek hlt hk
      go_wp2_with (go_at_call 30; refine HH.out.mono ?_; rintro e w2 ⟨rfl, hb2⟩; have HB2 := Lib.hid (below_next HB.out hb2); clear hb2)
      go_ret
      exact ⟨rfl, HB2.out⟩
end Go.Proofs.YtpbbpkflljcklaaDoor
