/- Layer 14's document: New, where all is well. -/
import Derived.Test.YtmnklonoelpidaaGreatDoorJ35
namespace Go.Proofs.YtmnklonoelpidaaGreatDoor
open Go.RowKit

set_option maxRecDepth 100000 in
set_option maxHeartbeats 8000000 in
theorem rnew_good (s : (List UInt8)) (f l N : Nat) (w : World) (hs : s.length = 32) (hl : 0 < l) (hl2 : l < 18446744073709551616) (hf : f < 18446744073709551616) (hn : 1 ≤ N) (hn2 : N ≤ 64) (ho : f + l * N ≤ 18446744073709551615) : Calls Tryz.prog 12 #[.string ⟨s.toArray⟩, .int .u64 (f : Int), .int .u64 (l : Int), .int .i64 (N : Int)] w fun e w' => ∃ b, e = .returned (.tuple #[.pointer (some ⟨b, 0, none⟩), .int .i64 0]) ∧ RLad b s f l N w' ∧ Below w.heap.size w w' := by
  have e1 : (s.length : Int) = 32 := by omega
  have e2 : ¬ (l : Int) = 0 := by omega
  have e3 : ¬ (N : Int) < 1 := by omega
  have e4 : ¬ (64 : Int) < (N : Int) := by omega
  have HO := Lib.hid (fun (k : Nat) (h : k < N) => show f + l * (k + 1) < 18446744073709551616 by have := Nat.mul_le_mul_left l (show k + 1 ≤ N from h); omega)
  have HF := Lib.hid hf
  have HN := Lib.hid hn2
  have HPU := Lib.hid (fun (k : Nat) (hk : k ≤ 64) wz => rpublic_any s k wz (by omega) (by omega))
  have HRU := Lib.hid (fun (k : Nat) (hk : k ≤ 64) wz => rung_calls k (pubF s k) wz (by omega) (by have : (pubF s k).length ≤ 32 := hashL_len _ _; omega))
  have HRE := Lib.hid (fun k => show rungF s k = numL k ++ pubF s k from rfl)
  have HRL := Lib.hid (fun k => rungsL_len s k)
  have HRM := Lib.hid (fun k => rungsL_more s k)
  obtain ⟨B, hB⟩ : ∃ B, B = w.heap.size := ⟨_, rfl⟩
  have HB1 := Lib.hid (show Below B w (w.alloc (.cells #[.string ⟨s.toArray⟩, .int .u64 (f : Int), .int .u64 (l : Int), .slice none 0 0] 43)) by rw [hB]; exact by0 w _)
  have HX1 := Lib.hid (show (w.alloc (.cells #[.string ⟨s.toArray⟩, .int .u64 (f : Int), .int .u64 (l : Int), .slice none 0 0] 43)).heap[B]? = some (.cells #[.string ⟨s.toArray⟩, .int .u64 (f : Int), .int .u64 (l : Int), .slice none 0 0] 43 (0, 0)) by rw [hB]; exact heap_alloc_new w _)
  have HBW := Lib.hid hB
  clear hs hl hl2 hf hn hn2 ho
  go_enter Tryz.func12, Tryz.ntmps12
  go_upto_region 5 with fail
  go_loopw [10, 11] (fun v10 v11 wr => ∃ k a : Nat, k ≤ N ∧ v11 = .int .i64 (k : Int) ∧ v10 = .int .u64 (a : Int) ∧ Hid (a = f + l * k ∧ a < 18446744073709551616) ∧ wr = w) (fun _ v11 _ => N - (intOf v11).toNat)
  case atStart => exact ⟨0, f, Nat.zero_le _, rfl, rfl, Lib.hid ⟨by rw [Nat.mul_zero, Nat.add_zero], HF.out⟩, rfl⟩
  case round =>
    obtain ⟨k, a, hk, rfl, rfl, HA, hww⟩ := hrel
    have hww := hww.symm
    subst hww
    by_cases hlt : k < N
    · have k1 : (k : Int) < (N : Int) := by omega
      have HLT := Lib.hid (And.intro hlt (show k ≤ 64 by have := HN.out; omega))
      have hk64 : (k : Int) ≤ 64 := by have := HN.out; omega
      obtain ⟨c, hc⟩ : ∃ c, c = a + l := ⟨_, rfl⟩
      have HC := Lib.hid (show c = f + l * (k + 1) ∧ c < 18446744073709551616 by
        have h1 : c = f + l * (k + 1) := by rw [hc, HA.out.1, Nat.mul_succ, Nat.add_assoc]
        exact ⟨h1, by rw [h1]; exact HO.out k hlt⟩)
      have hw : IntKind.u64.wrap ((a : Int) + (l : Int)) = (c : Int) := by rw [IntKind.wrap_u64]; have := HC.out.2; omega
      have hcl : ¬ (c : Int) < (a : Int) := by omega
      clear hc hlt hk
      go_wp2
      go_roundw
      case rel => exact ⟨k + 1, c, HLT.out.1, by go_num, rfl, HC, trivial⟩
      case measure => have := HLT.out; simp [intOf]; omega
    · have k1 : ¬ (k : Int) < (N : Int) := by omega
      clear hlt hk HA hB
      go_upto_region 12 with fail
      rw [← HBW.out]
      generalize w.alloc (.cells #[.string ⟨s.toArray⟩, .int .u64 (f : Int), .int .u64 (l : Int), .slice none 0 0] 43) = w1 at *
      go_loopw [13] (fun v13 wy => ∃ (k : Nat) (v : Value), k ≤ N ∧ v13 = .int .i64 (k : Int) ∧ Hid (wy.heap[B]? = some (.cells #[.string ⟨s.toArray⟩, .int .u64 (f : Int), .int .u64 (l : Int), v] 43 (0, 0))) ∧ Hid (TRow (B + 1) (rungsL s k) v wy) ∧ Hid (Below B w wy)) (fun v13 _ => N - (intOf v13).toNat)
      case atStart => exact ⟨0, _, Nat.zero_le _, rfl, HX1, Lib.hid (trow_nil _ _), HB1⟩
      case round =>
        obtain ⟨k, v, hk, rfl, HX, HI, HB⟩ := hrel
        by_cases hlt : k < N
        · have k1 : (k : Int) < (N : Int) := by omega
          have hk64 : k ≤ 64 := by have := HN.out; omega
          have hk64i : (k : Int) ≤ 64 := by omega
          have k0 : (0 : Int) ≤ (k : Int) := by omega
          have HLT := Lib.hid hlt
          have hwk : IntKind.u64.wrap (k : Int) = (k : Int) := by rw [IntKind.wrap_u64]; omega
          have HPk := Lib.hid (fun wz => HPU.out k hk64 wz)
          have HRk := Lib.hid (fun wz => HRU.out k hk64 wz)
          rw [← HRE.out k] at HRk
          have HRn := Lib.hid (HRM.out k)
          have hlen := HRL.out k
          have hlk : (rungsL s k).length ≤ 64 := by omega
          clear hlen
          have c3 : wr.drew.cell? ⟨B, 3, none⟩ = some v := (lit_cell HX.out 3).trans rfl
          have HXD := Lib.hid (show wr.drew.heap[B]? = some (.cells #[.string ⟨s.toArray⟩, .int .u64 (f : Int), .int .u64 (l : Int), v] 43 (0, 0)) from HX.out)
          have HID := Lib.hid (trow_next HI.out (Below.refl _ _).drew)
          have HBD := Lib.hid HB.out.drew
          generalize pubF s k = p at *
          generalize rungF s k = r at *
          generalize rungsL s k = X at *
          clear hlt hk
          go_upto_region 14 with fail
          go_region_law (first
            | (go_simp; go_at_call 40; with_reducible refine (HPk.out _).mono ?_; rintro e w2 ⟨rfl, hb2⟩; have c3a := key_keep hb2 c3; have HI2 := Lib.hid (trow_next HID.out hb2); have HX2 := Lib.hid ((hb2.block _ (lit_lt HXD.out)).trans HXD.out); have HB2 := Lib.hid (HBD.out.trans (hb2.mono (by rw [HBW.out]; exact HBD.out.size))); clear hb2)
            | (go_simp; go_at_call 39; with_reducible refine (HRk.out _).mono ?_; rintro e w3 ⟨rfl, hb3⟩; have c3b := key_keep hb3 c3a; have HI3 := Lib.hid (trow_next HI2.out hb3); have HX3 := Lib.hid ((hb3.block _ (lit_lt HX2.out)).trans HX2.out); have HB3 := Lib.hid (HB2.out.trans (hb3.mono (by rw [HBW.out]; exact HB2.out.size))); have c3c : ∀ o, (w3.alloc o).cell? ⟨B, 3, none⟩ = some v := fun o => key_keep (by0 w3 o) c3b; clear hb3)
            | (refine step_append_txt (t := r) rfl (.tmp 57) (.tmp 65) rfl rfl rfl HI3.out (by omega) (by have := lit_lt HX3.out; omega) ?_; intro g5 cq w5 ho5 hg5 _; have HO5 := Lib.hid ho5; have hX5 := (hg5.block _ (lit_lt HX3.out) (fun e => by have := (HI3.out.lt _ e.symm).1; omega)).trans HX3.out; have HB5 := Lib.hid (HB3.out.grown hg5 (by rw [HBW.out]; exact HB3.out.size) (fun j e => by have := (HI3.out.lt j e).1; omega)); have c5 := (lit_cell hX5 3).trans rfl; have f5 := lit_free hX5 3; have HX5 := Lib.hid hX5; clear ho5 hg5 hX5))
          all_goals
            have HXn := Lib.hid (show (w5.setCell ⟨B, 3, none⟩ (.slice (some ⟨g5, 0, none⟩) (X.length + 1) cq)).heap[B]? = some (.cells #[.string ⟨s.toArray⟩, .int .u64 (f : Int), .int .u64 (l : Int), .slice (some ⟨g5, 0, none⟩) (X.length + 1) cq] 43 (0, 0)) from lit_set (k := 3) _ HX5.out)
            have HOn := Lib.hid (own_kept (S := fun j => j ≠ B) HO5.out ((Kept.refl _ w5).setCell B 3 (.slice (some ⟨g5, 0, none⟩) (X.length + 1) cq) (fun _ h => h rfl)) (fun j hj => by omega))
            have HBn := Lib.hid (HB5.out.setCell (p := ⟨B, 3, none⟩) (Nat.le_refl _) (.slice (some ⟨g5, 0, none⟩) (X.length + 1) cq))
            clear c5 f5
            go_wp2
            go_roundw
            case rel => exact ⟨k + 1, _, HLT.out, by go_num, HXn, Lib.hid (by rw [HRn.out]; exact HOn.out), HBn⟩
            case measure => have := HLT.out; simp [intOf]; omega
        · have k1 : ¬ (k : Int) < (N : Int) := by omega
          obtain rfl : k = N := by omega
          obtain ⟨ao, cp, rfl, hS⟩ := strs_of_row HI.out
          have HE := Lib.hid (show RLad B s f l k wr from ⟨ao, cp, by rw [← HRL.out k]; rw [HRL.out k] ; rw [HRL.out k] at HX; exact HX.out, hS⟩)
          clear hS hlt hk
          go_wp2
          exact bodyPost_ret (v := .tuple #[.pointer (some ⟨B, 0, none⟩), .int .i64 0]) (by simp [results, Tryz.results12, go_sem]) rfl ⟨B, rfl, HE.out, by rw [← HBW.out]; exact HB.out⟩
end Go.Proofs.YtmnklonoelpidaaGreatDoor
