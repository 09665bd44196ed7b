/- The document's numbers, frames and hashes. -/
import Derived.Test.YtpbbpkflljcklaaDoorJ4
import Derived.Test.YtpbbpkflljcklaaDoorJTx
import Derived.Deep.RegionHeld3
namespace Go.Proofs.YtpbbpkflljcklaaDoor
open Go.RowKit

theorem numL_drop (n k q : Nat) (hk : k < 8) (hq : n / 256 ^ k = q) : [UInt8.ofNat q] ++ (numL n).drop (8 - k) = (numL n).drop (8 - (k + 1)) := by
  have hl : 8 - (k + 1) < (numL n).length := by rw [numL_length]; omega
  rw [List.drop_eq_getElem_cons hl, show 8 - (k + 1) + 1 = 8 - k by omega]
  have e := numL_get n (8 - (k + 1)) (by omega)
  rw [List.getElem?_eq_getElem hl, Option.some.injEq] at e
  rw [e, ← hq, show 56 - 8 * (8 - (k + 1)) = 8 * k by omega, Nat.pow_mul]
  rfl


set_option maxRecDepth 100000 in
set_option maxHeartbeats 1000000 in
theorem refNum_any (n : Nat) (w : World) (hn : n < 18446744073709551616) :
    Calls Tryd.prog 41 #[.int .u64 (n : Int)] w fun e w' => e = .returned (.string ⟨(numL n).toArray⟩) ∧ Below w.heap.size w w' := by
  go_enter Tryd.func41, Tryd.ntmps41
  go_wp2
  go_loopw [0, 3, 4] (fun v s i wr => ∃ k q : Nat, ∃ D : List UInt8, k ≤ 8 ∧ Hid (n / 256 ^ k = q) ∧ Hid (D = (numL n).drop (8 - k)) ∧ D.length = k ∧ v = .int .u64 (q : Int) ∧ s = .string ⟨D.toArray⟩ ∧ i = .int .i64 (k : Int) ∧ Below w.heap.size w wr)
    (fun _ _ i _ => 8 - (intOf i).toNat)
  case atStart => exact ⟨0, n, [], by omega, Lib.hid (by simp), Lib.hid (by rw [List.drop_of_length_le (by rw [numL_length]; omega)]), rfl, rfl, rfl, rfl, Below.refl _ _⟩
  case round =>
    obtain ⟨k, q, D, hk, HQ, HD, hDl, rfl, rfl, rfl, hbe⟩ := hrel
    have hqn : q < 18446744073709551616 := by have := Nat.div_le_self n (256 ^ k); rw [HQ.out] at this; omega
    by_cases hlt : k < 8
    · have hz := hbe.size
      have hX : (q : Int) % (256 : Int) = ((UInt8.ofNat q).toNat : Int) := by rw [UInt8.toNat_ofNat']; omega
      have HP := Lib.hid (strAdd [UInt8.ofNat q] D)
      have HD2 := Lib.hid (show [UInt8.ofNat q] ++ D = (numL n).drop (8 - (k + 1)) by rw [HD.out, numL_drop n k q hlt HQ.out])
      have hconv := run_convert_bytes_back (P := Tryd.prog) (wr.alloc (.cells #[.int .u8 ((q : Int) % (256 : Int))] 5)) 33 9 5 ⟨wr.heap.size, 0, none⟩ 1 [UInt8.ofNat q] Tryd.underlying33 Tryd.underlying5 Tryd.underlying9 (oneByte wr _ _ hX)
      simp only [List.length_cons, List.length_nil, Nat.zero_add] at hconv
      clear hX
      go_wp2
      go_roundw
      case rel => exact ⟨k + 1, q / 256, [UInt8.ofNat q] ++ D, by omega, Lib.hid (by rw [Nat.pow_succ, ← Nat.div_div_eq_div_mul, HQ.out]), HD2, by simp; omega, by go_num, congrArg Value.string HP.out, by go_num, hbe.alloc hz _⟩
      case measure => simp [intOf]; omega
    · have ek : k = 8 := by omega
      go_wp2
      go_ret
      exact ⟨by rw [HD.out, ek]; rfl, hbe⟩


set_option maxHeartbeats 400000 in
theorem refFrame_bad (tag : List UInt8) (v : Value) (w : World) (h : tag.length < 1 ∨ 16 < tag.length) (hm : tag.length ≤ maxLen) :
    Calls Tryd.prog 43 #[.string ⟨tag.toArray⟩, v] w fun e w' => e = .returned (.string ⟨#[]⟩) ∧ w = w' := by
  unfold maxLen at hm
  rcases h with h | h
  · go_enter Tryd.func43, Tryd.ntmps43
    go_wp2
    go_ret
    exact ⟨rfl, rfl⟩
  · have h1 : ¬ tag.length < 1 := by omega
    go_enter Tryd.func43, Tryd.ntmps43
    go_wp2
    go_ret
    exact ⟨rfl, rfl⟩


set_option maxRecDepth 100000 in
set_option maxHeartbeats 1000000 in
theorem refFrame_good (tag : List UInt8) (ao : Option Addr) (cap : Nat) (L : List (List UInt8)) (w : World) (hs : Strs ao L w) (h1 : 1 ≤ tag.length) (h16 : tag.length ≤ 16) (hlen : (framed tag L).length < 100000000000) :
    Calls Tryd.prog 43 #[.string ⟨tag.toArray⟩, .slice ao L.length cap] w fun e w' => e = .returned (.string ⟨(framed tag L).toArray⟩) ∧ Below w.heap.size w w' := by
  have hc := framed_count tag L L.length (Nat.le_refl _)
  rw [List.take_length] at hc
  have HS := Lib.hid hs
  clear hs
  have hX : (tag.length : Int) = ((UInt8.ofNat tag.length).toNat : Int) := by rw [UInt8.toNat_ofNat']; omega
  have hconv := run_convert_bytes_back (P := Tryd.prog) (w.alloc (.cells #[.int .u8 (tag.length : Int)] 5)) 33 9 5 ⟨w.heap.size, 0, none⟩ 1 [UInt8.ofNat tag.length] Tryd.underlying33 Tryd.underlying5 Tryd.underlying9 (oneByte w _ _ hX)
  simp only [List.length_cons, List.length_nil, Nat.zero_add] at hconv
  clear hX
  have HP := Lib.hid (strAdd [UInt8.ofNat tag.length] tag)
  go_enter Tryd.func43, Tryd.ntmps43
  go_wp2
  clear hconv
  go_loopw [5, 6] (fun s i wr => ∃ k : Nat, ∃ T : List UInt8, k ≤ L.length ∧ i = .int .i64 (k : Int) ∧ s = .string ⟨T.toArray⟩ ∧ Hid (T = framed tag (L.take k)) ∧ Below w.heap.size w wr)
    (fun _ i _ => L.length - (intOf i).toNat)
  case atStart => exact ⟨0, _, by omega, rfl, congrArg Value.string HP.out, Lib.hid (by rw [List.take_zero, framed_nil]; rfl), (Below.refl _ _).alloc (Nat.le_refl _) _⟩
  case round =>
    obtain ⟨k, T, hk, rfl, rfl, HT, hb⟩ := hrel
    have hm1 := framed_mono tag L k
    rw [← HT.out] at hm1
    have z := hb.size
    by_cases hlt : k < L.length
    · obtain ⟨b, off, rfl, hcell⟩ := (HS.out.below (Nat.le_refl _) hb).cell k hlt
      have hblt : b < wr.heap.size := World.block_lt_of_cell? wr _ hcell
      have hm2 := framed_mono tag L (k + 1)
      rw [framed_len tag L k hlt, ← HT.out] at hm2
      have HT2 := Lib.hid (framed_snoc tag L k hlt)
      obtain ⟨X, hX⟩ : ∃ X, L[k] = X := ⟨_, rfl⟩
      rw [hX] at hcell hm2 HT2
      clear hX
      have k0 : (0 : Int) ≤ (k : Int) := by omega
      have k1 : (k : Int) < (L.length : Int) := by omega
      have hn8 : (numL X.length).length = 8 := numL_length _
      have hs1 := run_cat T (numL X.length) (by rw [hn8]; omega)
      have hs2 := run_cat (T ++ numL X.length) X (by rw [List.length_append, hn8]; omega)
      have hwr : IntKind.u64.wrap (X.length : Int) = (X.length : Int) := by rw [wrap_u64]; omega
      go_wp2
      go_region_held3 (fun w' => w'.cell? ⟨b, off + k, none⟩ = some (.string ⟨X.toArray⟩))
        (first | (exact (hb1.cell (p := ⟨b, off + k, none⟩) hblt).trans hcell) | (go_keep; done))
        (first | (go_at_call 41; (try rw [hwr]); refine (refNum_any X.length _ (by omega)).mono ?_; rintro e w1 ⟨rfl, hb1⟩))
      all_goals
        have hb2 : Below w.heap.size w w1 := hb.drew.trans (hb1.mono z)
        clear hb1
        go_wp2
        go_roundw
        case rel => exact ⟨k + 1, T ++ (numL X.length ++ X), by omega, by go_num, rfl, Lib.hid (by rw [HT2.out, ← HT.out, partL]), hb2⟩
        case measure => simp [intOf]; omega
    · have ek : k = L.length := by omega
      subst ek
      have HE := Lib.hid (show T = framed tag L by rw [HT.out, List.take_length])
      clear HT
      go_wp2
      go_ret
      exact ⟨by rw [HE.out]; rfl, hb⟩


theorem refFrameAll (tag : List UInt8) (ao : Option Addr) (cap : Nat) (L : List (List UInt8)) (w : World) (hs : Strs ao L w) (hm : tag.length ≤ maxLen) (hlen : (framed tag L).length < 100000000000) :
    Calls Tryd.prog 43 #[.string ⟨tag.toArray⟩, .slice ao L.length cap] w fun e w' => e = .returned (.string ⟨(frameL tag L).toArray⟩) ∧ Below w.heap.size w w' := by
  by_cases h : Tag tag
  · rw [frameL, if_pos h]; exact refFrame_good tag ao cap L w hs h.1 h.2 hlen
  · rw [frameL, if_neg h]
    exact (refFrame_bad tag _ w (by unfold Tag at h; omega) hm).mono fun e w' ⟨he, hw⟩ => ⟨he, hw ▸ Below.refl _ _⟩


set_option maxHeartbeats 1000000 in
theorem refHash_any (tag : List UInt8) (ao : Option Addr) (cap : Nat) (L : List (List UInt8)) (w : World) (hs : Strs ao L w) (hm : tag.length ≤ maxLen) (hlen : (framed tag L).length < 10000000000) :
    Calls Tryd.prog 30 #[.string ⟨tag.toArray⟩, .slice ao L.length cap] w fun e w' => e = .returned (.string ⟨(hashL tag L).toArray⟩) ∧ Below w.heap.size w w' := by
  by_cases h : Tag tag
  · rw [hashL, if_pos h]
    have hf := refFrameAll tag ao cap L w hs hm (by omega)
    rw [frameL, if_pos h] at hf
    obtain ⟨F, hF⟩ : ∃ F, framed tag L = F := ⟨_, rfl⟩
    have hne := not_empty F (by rw [← hF]; exact List.cons_ne_nil _ _)
    rw [hF] at hlen hf ⊢
    clear hF
    go_enter Tryd.func30, Tryd.ntmps30
    go_wp2_with fail
    refine hf.mono ?_
    rintro e w1 ⟨rfl, hb1⟩
    clear hf
    go_wp2_with fail
    refine (refSum_any F w1 hlen).mono ?_
    rintro e w2 ⟨rfl, hb2⟩
    go_wp2
    go_ret
    exact ⟨rfl, hb1.trans (hb2.mono hb1.size)⟩
  · rw [hashL, if_neg h]
    have hf := refFrameAll tag ao cap L w hs hm (by omega)
    rw [frameL, if_neg h] at hf
    go_enter Tryd.func30, Tryd.ntmps30
    go_wp2_with fail
    refine hf.mono ?_
    rintro e w1 ⟨rfl, hb1⟩
    clear hf
    go_wp2
    go_ret
    exact ⟨rfl, hb1⟩
end Go.Proofs.YtpbbpkflljcklaaDoor
