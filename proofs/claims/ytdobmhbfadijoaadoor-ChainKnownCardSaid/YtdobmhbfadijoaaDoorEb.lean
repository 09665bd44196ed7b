/- The reference's digits. -/
import Derived.Test.YtdobmhbfadijoaaDoorEb0
namespace Go.Proofs.YtdobmhbfadijoaaDoor
open Go.RowKit

theorem cindex (L : (List UInt8)) (i : Nat) (hi : i < L.length) (w : World) : (Instr.index 9 (.string ⟨L.toArray⟩) (.int .i64 (i : Int))).run Tryd.prog w = .ok (.int .u8 (L[i].toNat : Int)) w := by
  rw [run_index_string w 9 _ _ _ Tryd.underlying9, dif_pos ⟨by omega, by show (i : Int) < (L.length : Int); omega⟩]
  rfl
theorem lackL_take (s : (List UInt8)) (k : Nat) (h : k < s.length) : lackL (s.take (k + 1)) = lackL (s.take k) + (30 - s[k].toNat / 16 - s[k].toNat % 16) := by
  rw [lackL, List.take_succ_eq_append_getElem h, List.map_append, List.sum_append, ← lackL]; simp
theorem hvL_take (s : (List UInt8)) (k : Nat) (h : k < s.length) : hvL (s.take (k + 1)) = hvL (s.take k) ++ [s[k].toNat / 16, s[k].toNat % 16] := by
  rw [hvL, List.take_succ_eq_append_getElem h, List.flatMap_append, ← hvL]; simp
set_option maxRecDepth 100000 in
set_option maxHeartbeats 1000000 in
theorem rdigits_any (s : (List UInt8)) (w : World) :
    Calls Tryd.prog 11 #[.string ⟨s.toArray⟩] w fun e w' => ∃ ao cp, e = .returned (.slice ao (digC s).length cp) ∧ Ints ao (digC s) w' ∧ (digC s).length ≤ cp ∧ Below w.heap.size w w' := by
  by_cases h32 : s.length = 32
  · have HE := Lib.hid (show digC s = digL s from if_pos h32)
    have HL := Lib.hid (digL_len h32)
    rw [HE.out, HL.out]
    have h32i : (s.length : Int) = 32 := by omega
    have HS := Lib.hid h32
    clear h32
    go_enter Tryd.func11, Tryd.ntmps11
    go_wp2
    go_loopw [3, 4, 5, 6, 7] (fun v3 v4 v5 v6 v7 wr => ∃ k : Nat, k ≤ 32 ∧ v5 = .int .i64 (k : Int) ∧ v4 = .int .i64 (lackL (s.take k) : Int) ∧ Hid (IRow w.heap.size (hvL (s.take k)) v3 wr) ∧ Hid (Below w.heap.size w wr)) (fun _ _ v5 _ _ _ => 32 - (intOf v5).toNat)
    case atStart => exact ⟨0, Nat.zero_le _, rfl, rfl, Lib.hid (irow_nil _ _), Lib.hid (Below.refl _ _)⟩
    case round =>
      obtain ⟨k, hk, rfl, rfl, HI, HB⟩ := hrel
      by_cases hlt : k < 32
      · have k1 : (k : Int) < 32 := by omega
        have k0 : (0 : Int) ≤ (k : Int) := by omega
        have hks : k < s.length := by have := HS.out; omega
        have HT := Lib.hid (lackL_take s k hks)
        have HV := Lib.hid (hvL_take s k hks)
        have hix := fun w => cindex s k hks w
        have hb := b256 s[k]
        have hsum : lackL (s.take k) ≤ 960 := by
          have := lackL_le (s.take k)
          rw [List.length_take] at this
          omega
        have HLN := Lib.hid (show (hvL (s.take k)).length ≤ 64 by rw [hvL_len, List.length_take]; omega)
        generalize s[k].toNat = b at *
        generalize lackL (s.take k) = S at *
        generalize hvL (s.take k) = X at *
        obtain ⟨h, hh⟩ : ∃ h, h = b / 16 := ⟨_, rfl⟩
        obtain ⟨l, hl⟩ : ∃ l, l = b % 16 := ⟨_, rfl⟩
        have e1 : (b : Int) / 16 = (h : Int) := by omega
        have e2 : (b : Int) % 16 = (l : Int) := by omega
        have h1 : h ≤ 15 := by omega
        have l1 : l ≤ 15 := by omega
        rw [← hh, ← hl] at HT HV
        clear hh hl hb
        go_wp2
        go_quiet (fail)
        have HB := Lib.hid (below_next HB.out (by0q _ nq))
        have HI := Lib.hid (irow_next HI.out (by0q _ nq))
        generalize wr.drewN nq = wr at *
        go_wp2_with (at_builtin; refine append_ints (Y := [h, l]) rfl _ _ rfl rfl rfl rfl (by decide) HI.out (by have := HLN.out; omega) (by decide) HB.out.size ?_; intro g5 c5 w5 ho5 hg5 _; have HO5 := Lib.hid ho5; have HB5 := Lib.hid (HB.out.grown hg5 HB.out.size (fun j e => (HI.out.lt j e).1)); clear ho5 hg5)
        go_roundw
        case rel => exact ⟨k + 1, by omega, by go_num, by rw [HT.out]; go_num, Lib.hid (by rw [HV.out]; exact HO5.out), HB5⟩
        case measure => simp [intOf]; omega
      · have k1 : ¬ (k : Int) < 32 := by omega
        have ek : k = s.length := by have := HS.out; omega
        subst ek
        rw [List.take_length] at HI
        rw [List.take_length]
        have hsum := lackL_le s
        have HD := Lib.hid (show digL s = hvL s ++ [lackL s / 256, lackL s / 16 % 16, lackL s % 16] from rfl)
        have HLN := Lib.hid (show (hvL s).length = 64 by rw [hvL_len]; have := HS.out; omega)
        have h32' := HS.out
        generalize lackL s = S at *
        generalize hvL s = X at *
        obtain ⟨t, ht⟩ : ∃ t, t = S / 256 := ⟨_, rfl⟩
        obtain ⟨u, hu⟩ : ∃ u, u = S / 16 % 16 := ⟨_, rfl⟩
        obtain ⟨v, hv⟩ : ∃ v, v = S % 16 := ⟨_, rfl⟩
        have e1 : (S : Int) / 256 = (t : Int) := by omega
        have e2 : (S : Int) / 16 % 16 = (u : Int) := by omega
        have e3 : (S : Int) % 16 = (v : Int) := by omega
        have hsum2 : S ≤ 960 := by omega
        rw [← ht, ← hu, ← hv] at HD
        clear ht hu hv hsum hlt hk
        go_wp2_with (at_builtin; refine append_ints (Y := [t, u, v]) rfl _ _ rfl rfl rfl rfl (by decide) HI.out (by have := HLN.out; omega) (by decide) HB.out.size ?_; intro g5 c5 w5 ho5 hg5 _; have HO5 := Lib.hid ho5; have HB5 := Lib.hid (HB.out.grown hg5 HB.out.size (fun j e => (HI.out.lt j e).1)); clear ho5 hg5)
        obtain ⟨ao, cp, e, hi, hc⟩ := irow_ints (n := 67) HO5.out (by rw [List.length_append, HLN.out]; rfl)
        rw [HLN.out] at e
        refine bodyPost_ret (v := .slice (some ⟨g5, 0, none⟩) 67 c5) (by simp [results, Tryd.results11, go_sem, HLN.out]) rfl ?_
        exact ⟨ao, cp, by rw [← e], by rw [HD.out]; exact hi, hc, HB5.out⟩
  · have HE := Lib.hid (show digC s = [] from if_neg h32)
    rw [HE.out]
    have h32i : ¬ (s.length : Int) = 32 := by omega

    go_enter Tryd.func11, Tryd.ntmps11
    go_wp2
    exact bodyPost_ret (v := .slice none 0 0) (by simp [results, Tryd.results11, go_sem]) rfl ⟨none, 0, rfl, .inl rfl, Nat.le_refl _, Below.refl _ _⟩
end Go.Proofs.YtdobmhbfadijoaaDoor
