/- The law's TreeWith. -/
import Derived.Test.YtjfhcckadibhgaaDoorAr
namespace Go.Proofs.YtjfhcckadibhgaaDoor
open Go.RowKit

/-- what the walk keeps: a tree, and two of the list with another element -/
structure Tz (w0 : World) (L M : List (List UInt8)) (t u v : Nat) (wz : World) : Prop where
  k : Wl w0 wz
  t : TreeM L wz t
  u : TreeM M wz u
  v : TreeM M wz v
theorem Tz.next {w0 wz wa : World} {L M : List (List UInt8)} {t u v : Nat} (h : Tz w0 L M t u v wz) (hb : Below wz.heap.size wz wa) : Tz w0 L M t u v wa := ⟨h.k.next hb, h.t.below hb, h.u.below hb, h.v.below hb⟩
/-- off the way the digests are those that were there -/
theorem dg_off {L : List (List UInt8)} {D i v k : Nat} {E : (List UInt8)} (hD : D ≤ 16) (hi : i < L.length) (hid : i < 2 ^ D) (hv : v ≤ D) (hk : k < 2 ^ (D - v)) (hne : k ≠ turnB i (D : Int) / 2 ^ v) : dg (gl L D) v k = dg (gl (L.set i E) D) v k := dg_congr v k fun j h1 h2 => by
  have hjk := range_of h1 h2
  have hj : j < 2 ^ D := by
    have e : 2 ^ D = 2 ^ (D - v) * 2 ^ v := by rw [← Nat.pow_add, Nat.sub_add_cancel hv]
    rw [e]
    exact Nat.lt_of_lt_of_le h2 (Nat.mul_le_mul_right _ hk)
  rw [← gl_set hD hi hid hj]
  unfold gSet
  rw [if_neg]
  rintro rfl
  exact hne hjk.symm
theorem own_empty (w : World) (B : Nat) (h : w.heap[B]? = some (Obj.cells #[] 9 (0, 0))) : w.ownsRow B 9 1 (.slice (some ⟨B, 0, none⟩) 0 0) 0 [] := ⟨rfl, .inr ⟨B, 0, #[], rfl, Nat.le_refl _, h, Nat.le_refl _, Nat.zero_le _, rfl, rfl⟩⟩
set_option maxRecDepth 100000 in
set_option maxHeartbeats 4000000 in
theorem treeWith_any (ao : Option Addr) (cap : Nat) (S : List (List UInt8)) (i : Nat) (e0 : (List UInt8)) (w : World) (hg : Glob w) (hs : Strs ao S w) (hS : S.length ≤ maxLen) (hl : ∀ i (h : i < S.length), S[i].length ≤ maxLen) (hi64 : i < 18446744073709551616) (_he : e0.length ≤ maxLen) :
    Calls Tryd.prog 6 #[.slice ao S.length cap, .int .u64 (i : Int), .string ⟨e0.toArray⟩] w fun e w' => e = .returned (.bool true) ∧ Below w.heap.size w w' := by
  have HF := Lib.hid (fun wz h => few9_any ao cap 100 S wz (by decide) hS hl h)
  have HS0 := Lib.hid hs
  have hlen := (cutTo_len S 100).1
  have hsh := cutTo_short S 100
  generalize cutTo S 100 = L at *
  have hL6 : L.length ≤ 65536 := by omega
  have hl7 : ∀ i (h : i < L.length), L[i].length ≤ 10000000 := fun i h => Nat.le_trans (hsh i h) (by decide)
  have hd := dep_le L.length hL6
  obtain ⟨m, hm1, hm2, hm3⟩ := cut_text e0
  have m0 : (0 : Int) ≤ (m : Int) := by omega
  have m1 : (m : Int) ≤ (e0.length : Int) := by omega
  have Hm3 := Lib.hid hm3
  have hel : (e0.take 60).length ≤ 10000000 := by rw [List.length_take]; omega
  clear hm3
  generalize e0.take 60 = E at *
  have HB := Lib.hid (fun ao cp wz (h : Wl w wz) (hp : Strs ao L wz) => build_any ao cp L wz h.g hp hL6 hl7)
  have HW := Lib.hid (fun wz (h : Wl w wz) => works9_any wz h.g)
  have HR := Lib.hid (fun t wz (h : TreeM L wz t) => rootT_any L t wz h)
  have K := Lib.hid (show Wl w w from ⟨hg, Below.refl _ _⟩)
  have hu : IntKind.u64.wrap (L.length : Int) = (L.length : Int) := by rw [IntKind.wrap_u64]; omega
  have hl0 : (L.length : Int) ≤ 100 := by omega
  have H0 := Lib.hid (And.intro hL6 (And.intro hl7 (And.intro hd (And.intro hel hi64))))
  clear hg hs hS hl hlen hsh hL6 hl7 hel hi64
  go_enter Tryd.func6, Tryd.ntmps6
  go_upto_region 3 with (go_at_call 18; refine (HW.out _ K.out).mono ?_; rintro e w1 ⟨rfl, hb1⟩; have K := Lib.hid (K.out.next hb1); clear hb1)
  have HF1 := Lib.hid (HF.out _ (HS0.out.below (Nat.le_refl _) K.out.o))
  clear HF HS0
  go_upto_region 4 with (go_at_call 8; refine HF1.out.mono ?_; rintro e w2 ⟨a1, c1, rfl, hp, hb1⟩)
  have K := Lib.hid (K.out.next hb1)
  have P1 := Lib.hid hp
  clear hp hb1 HF1
  go_upto_region 5 with fail
  try rw [Hm3.out]
  clear m0 m1 hm1 hm2 Hm3
  go_upto_region 6 with (go_at_call 9; refine (HB.out _ _ _ K.out P1.out.strs).mono ?_; rintro e w3 ⟨t, rfl, hT, _, hb2⟩; have T := Lib.hid hT; have K := Lib.hid (K.out.next hb2); have P1 := Lib.hid (P1.out.below hb2); clear hT hb2)
  go_upto_region 9 with (go_at_call 11; refine (HR.out _ _ T.out).mono ?_; rintro e w5 ⟨rfl, rfl⟩)
  by_cases hi : i < L.length
  · have HWI := Lib.hid (withT_any L t i E _ K.out.g T.out hi H0.out.2.2.2.1)
    have k1 : ¬ (L.length : Int) ≤ (i : Int) := by omega
    go_upto_region 10 with (go_at_call 19; refine HWI.out.mono ?_; rintro e w4 ⟨u, rfl, hU, hb4⟩; have K := Lib.hid (K.out.next hb4); have T := Lib.hid (T.out.below hb4); have P1 := Lib.hid (P1.out.below hb4); have U := Lib.hid hU; clear hU hb4)
    rcases P1.out with ⟨h0, _⟩ | ⟨h0, g, cs, rfl, hglo, hgh, hgc, hgi⟩
    · rw [h0] at hi; simp at hi
    obtain ⟨i0, hi0, hz0, hz1, hz2⟩ := info_parts info_str
    have hpos : 0 < L.length := by omega
    have hl100 : L.length ≤ 100 := by omega
    have HC : Hid (∀ j x, (strC L)[j]? = some x → (w4.alloc (.cells #[] 9)).cell? ((⟨g, 0, none⟩ : Addr).add j) = some x) := Lib.hid fun j x hj => by
      have hlt : j < L.length := by have := (List.getElem?_eq_some_iff.1 hj).1; rwa [strC_len] at this
      rw [strC_get hlt] at hj
      cases hj
      rw [Addr.add_mid, Nat.zero_add, lit_cell (lit_old _ hgh)]
      exact hgi j hlt
    have HO := Lib.hid (own_empty (w4.alloc (.cells #[] 9)) w4.heap.size (heap_alloc_new w4 _))
    have HZ : Hid ((w4.alloc (.cells #[] 9)).heap.size = w4.heap.size + 1) := Lib.hid (by simp)
    clear hgh hgi hglo hgc
    go_upto_region 12 with fail
    go_upto_region 13 with (at_builtin; (refine wpList_append_own _ rfl (.tmp 65) (.tmp 66) 22 rfl w4.heap.size 9 i0 (.string ⟨#[]⟩) 1 16 Tryd.underlying22 hi0 hz0 hz1 hz2 rfl (by decide) (.slice (some ⟨w4.heap.size, 0, none⟩) 0 0) 0 [] rfl HO.out ⟨g, 0, none⟩ L.length c1 (strC L) rfl (by rw [strC_len, Nat.mul_one]) HC.out (strC_one L) (by unfold maxLen; omega) (by omega) (by rw [HZ.out]; omega) ?_); intro v2 w5 hown5 hg5 hv5; rw [Nat.zero_add] at hown5; obtain ⟨g2, cp2, cur, rfl, hg0, hgh, hgc⟩ := row_pos hown5 hpos)
    have hb5 : Below w4.heap.size w4 w5 := (by0 w4 (.cells #[] 9)).trans ⟨hg5.os, hg5.tape, hg5.output, hg5.size, fun j hj => hg5.block j (by rw [HZ.out]; omega) (by intro e; simp only [Value.ownBlock] at e; cases e; omega)⟩
    have hci := hgc i hi
    rw [List.nil_append, strC_get hi] at hci
    have d0 := (lit_cell hgh i).trans hci
    have f0 := lit_free hgh i
    have hi0' : (0 : Int) ≤ (i : Int) := by omega
    have hi1' : (i : Int) < (L.length : Int) := by omega
    have hMl : (L.set i E).length = L.length := List.length_set
    have HS6 : Hid (Strs (some ⟨g2, 0, none⟩) (L.set i E) (w5.setCell ⟨g2, i, none⟩ (.string ⟨E.toArray⟩))) := Lib.hid (.inr ⟨g2, 0, rfl, by rw [show (w5.setCell ⟨g2, i, none⟩ (.string ⟨E.toArray⟩)).heap.size = w5.heap.size by simp]; exact lit_lt hgh, fun j hj => by
      rw [hMl] at hj
      have hcj := hgc j hj
      rw [List.nil_append, strC_get hj] at hcj
      have hjs := (Array.getElem?_eq_some_iff.1 hcj).1
      rw [Nat.zero_add, lit_cell (lit_set _ hgh)]
      by_cases e : i = j
      · subst e
        rw [Array.getElem?_setIfInBounds_self_of_lt hjs, List.getElem_set_self]
      · rw [Array.getElem?_setIfInBounds_ne e, List.getElem_set_ne e]
        exact hcj⟩)
    have HB6 := Lib.hid (hb5.setCell hg0 (p := ⟨g2, i, none⟩) (.string ⟨E.toArray⟩))
    clear hb5 hci hgh hgc hg5 hown5 hv5 hg0 HO HC HZ
    go_upto_region 14 with fail
    generalize w5.setCell ⟨g2, i, none⟩ (.string ⟨E.toArray⟩) = w6 at *
    have K := Lib.hid (K.out.next HB6.out)
    have T := Lib.hid (T.out.below HB6.out)
    have U := Lib.hid (U.out.below HB6.out)
    have HBM := Lib.hid (show ∀ wz, Wl w wz → Strs (some ⟨g2, 0, none⟩) (L.set i E) wz → Calls Tryd.prog 9 #[.slice (some ⟨g2, 0, none⟩) L.length cp2] wz fun e w' => ∃ t, e = .returned (.tuple #[.pointer (some ⟨t, 0, none⟩), .int .i64 0]) ∧ TreeM (L.set i E) w' t ∧ wz.heap.size ≤ t ∧ Below wz.heap.size wz w' from fun wz h hp => by
      have h2 := build_any (some ⟨g2, 0, none⟩) cp2 (L.set i E) wz h.g hp (by rw [hMl]; exact H0.out.1) (fun j hj => by
        rw [hMl] at hj
        rw [List.getElem_set]
        split
        · exact H0.out.2.2.2.1
        · exact H0.out.2.1 j hj)
      rw [hMl] at h2
      exact h2)
    go_upto_region 15 with (go_at_call 9; refine (HBM.out _ K.out HS6.out).mono ?_; rintro e w7 ⟨v, rfl, hV, _, hb7⟩; have X := Lib.hid (show Tz w L (L.set i E) t u v w7 from ⟨K.out.next hb7, T.out.below hb7, U.out.below hb7, hV⟩); clear hV hb7)
    clear K T U HS6 HB6 HBM HB HW HWI
    have HRU := Lib.hid (fun t wz (h : TreeM (L.set i E) wz t) => rootT_any (L.set i E) t wz h)
    have HNU := Lib.hid (fun t wz (h : TreeM (L.set i E) wz t) => lenT_any (L.set i E) t wz h)
    rw [hMl] at HNU
    have HDT := Lib.hid (fun t wz (h : TreeM L wz t) => depthT_any L t wz h)
    have HDU := Lib.hid (fun t wz (h : TreeM (L.set i E) wz t) => depthT_any (L.set i E) t wz h)
    rw [hMl] at HDU
    have HLF := Lib.hid (fun w => leaf_any i H0.out.2.2.2.2 (dep L.length : Int) w)
    go_upto_region 17 with (first
      | (go_at_call 11; with_reducible refine (HRU.out _ _ X.out.u).mono ?_; rintro e wn ⟨rfl, rfl⟩)
      | (go_at_call 11; with_reducible refine (HRU.out _ _ X.out.v).mono ?_; rintro e wn ⟨rfl, rfl⟩)
      | (go_at_call 11; with_reducible refine (HR.out _ _ X.out.t).mono ?_; rintro e wn ⟨rfl, rfl⟩)
      | (go_at_call 15; with_reducible refine (HNU.out _ _ X.out.u).mono ?_; rintro e wn ⟨rfl, rfl⟩)
      | (go_at_call 13; with_reducible refine (HDU.out _ _ X.out.u).mono ?_; rintro e wn ⟨rfl, rfl⟩)
      | (go_at_call 13; with_reducible refine (HDT.out _ _ X.out.t).mono ?_; rintro e wn ⟨rfl, rfl⟩))
    have hid : i < 2 ^ dep L.length := Nat.lt_of_lt_of_le hi (dep_spec L.length H0.out.1).1
    have hWlt := turnB_lt H0.out.2.2.1 hid
    have HA := Lib.hid (fun t (v k : Nat) (hk64 : k < 18446744073709551616) wz (h : TreeM L wz t) => at_any L t (v : Int) k wz h hk64)
    have HAI := Lib.hid (fun (v k : Nat) hv hk => at_in (L := L) (v := v) (k := k) hv hk)
    have HM := Lib.hid (fun t (v k : Nat) (hk64 : k < 18446744073709551616) wz (h : TreeM (L.set i E) wz t) => at_any (L.set i E) t (v : Int) k wz h hk64)
    have HMI := Lib.hid (fun (v k : Nat) hv hk => at_in (L := L.set i E) (v := v) (k := k) hv hk)
    rw [hMl] at HMI
    have HOFF := Lib.hid (fun v k hv hk hne => dg_off (L := L) (D := dep L.length) (i := i) (v := v) (k := k) (E := E) H0.out.2.2.1 hi hid hv hk hne)
    have HPA := Lib.hid (fun k hk w => parent_any k hk w)
    have hD16 := H0.out.2.2.1
    have HWL := Lib.hid hWlt
    clear hid hWlt hMl
    generalize turnB i (dep L.length : Int) = W at *
    generalize gl L (dep L.length) = g at *
    generalize gl (L.set i E) (dep L.length) = g2' at *
    generalize hDe : dep L.length = D at *
    go_upto_region 19 with (first
      | (go_at_call 13; with_reducible refine (HDT.out _ _ X.out.t).mono ?_; rintro e wn ⟨rfl, rfl⟩)
      | (go_at_call 24; refine (HLF.out _).mono ?_; rintro e wn ⟨rfl, rfl⟩))
    go_wp2
    clear HRU HNU HDT HDU HLF HR
    go_loopw [16, 17, 18, 19, 20, 21, 22, 23, 24] (fun s16 s17 s18 s19 s20 s21 s22 s23 s24 wr => ∃ l W2 : Nat, l ≤ D + 1 ∧ s17 = .int .i64 (l : Int) ∧ s16 = .int .u64 (W2 : Int) ∧ Hid (W2 = W / 2 ^ l) ∧ Hid (Tz w L (L.set i E) t u v wr)) (fun _ s17 _ _ _ _ _ _ _ _ => D + 1 - (intOf s17).toNat)
    case atStart => exact ⟨0, W, Nat.zero_le _, rfl, rfl, Lib.hid (by simp), X⟩
    case round =>
      clear X
      obtain ⟨l, W2, hl, rfl, rfl, HW2, X⟩ := hrel
      by_cases hlt : l ≤ D
      · obtain ⟨B, hB⟩ : ∃ B, D - l = B := ⟨_, rfl⟩
        have hdv : (D : Int) - (l : Int) = (B : Int) := by omega
        have k1 : (l : Int) ≤ (D : Int) := by omega
        have hB16 : B ≤ 16 := by omega
        obtain ⟨hs1, hs2, hs3⟩ := shl_pow hB16
        have hp16 : 2 ^ D ≤ 2 ^ 16 := Nat.pow_le_pow_right (by decide) hD16
        have hW64 : W2 < 65536 := by
          rw [HW2.out]
          exact Nat.lt_of_le_of_lt (Nat.div_le_self _ _) (Nat.lt_of_lt_of_le HWL.out hp16)
        have H3 := Lib.hid (And.intro hs2 (And.intro hs3 (And.intro hl (And.intro hlt hB))))
        have HP1 := Lib.hid (fun w => HPA.out W2 (by omega) w)
        have HWN := Lib.hid (show W2 / 2 = W / 2 ^ (l + 1) by rw [HW2.out, Nat.div_div_eq_div_mul, Nat.pow_succ])
        clear hs2 hs3 hB16 hB hp16 hW64
        go_wp2
        go_loopw [18, 19, 20, 21, 22, 23, 24] (fun s18 s19 s20 s21 s22 s23 s24 wx => ∃ k : Nat, k ≤ 2 ^ B ∧ s18 = .int .u64 (k : Int) ∧ Hid (Tz w L (L.set i E) t u v wx)) (fun s18 _ _ _ _ _ _ _ => 2 ^ B - (intOf s18).toNat)
        case atStart => exact ⟨0, Nat.zero_le _, rfl, X⟩
        case round =>
          clear X
          obtain ⟨k, hk, rfl, X⟩ := hrel
          by_cases hkl : k < 2 ^ B
          · have j1 : (k : Int) < (2 : Int) ^ B := by rw [H3.out.1]; omega
            have j2 : IntKind.u64.wrap ((k : Int) + 1) = ((k + 1 : Nat) : Int) := by rw [IntKind.wrap_u64]; have := H3.out.2.1; omega
            have hk64 : k < 18446744073709551616 := by have := H3.out.2.1; omega
            have hkD : k < 2 ^ (D - l) := by rw [H3.out.2.2.2.2]; exact hkl
            have HA1 := Lib.hid (fun wz h => HA.out t l k hk64 wz h)
            rw [HAI.out l k H3.out.2.2.2.1 hkD] at HA1
            have HM1 := Lib.hid (fun t wz h => HM.out t l k hk64 wz h)
            rw [HMI.out l k H3.out.2.2.2.1 hkD] at HM1
            have HJ := Lib.hid hkl
            by_cases hkw : k = W2
            · clear hk hkl hkD hk64
              subst hkw
              generalize dg g l k = Z1 at *
              generalize dg g2' l k = Z2 at *
              go_wp2_with (first
                | (go_at_call 16; with_reducible refine (HA1.out _ X.out.t).mono ?_; rintro e wn ⟨rfl, bn⟩; have X := Lib.hid (X.out.next bn); clear bn)
                | (go_at_call 16; with_reducible refine (HM1.out _ _ X.out.u).mono ?_; rintro e wn ⟨rfl, bn⟩; have X := Lib.hid (X.out.next bn); clear bn)
                | (go_at_call 16; with_reducible refine (HM1.out _ _ X.out.v).mono ?_; rintro e wn ⟨rfl, bn⟩; have X := Lib.hid (X.out.next bn); clear bn))
              go_roundw
              case rel => exact ⟨_, HJ.out, by go_num, X⟩
              case measure => have := HJ.out; simp [intOf]; omega
            · have hOFF := HOFF.out l k H3.out.2.2.2.1 hkD (by rw [← HW2.out]; exact hkw)
              rw [← hOFF] at HM1
              have q1 : ((k : Int) == (W2 : Int)) = false := by rw [beq_eq_false_iff_ne]; omega
              have q2 : ¬ (k : Int) = (W2 : Int) := by omega
              have q3 : (k == W2) = false := by rw [beq_eq_false_iff_ne]; exact hkw
              clear hk hkl hkD hk64 hOFF
              generalize dg g l k = Z1 at *
              go_wp2_with (first
                | (go_at_call 16; with_reducible refine (HA1.out _ X.out.t).mono ?_; rintro e wn ⟨rfl, bn⟩; have X := Lib.hid (X.out.next bn); clear bn)
                | (go_at_call 16; with_reducible refine (HM1.out _ _ X.out.u).mono ?_; rintro e wn ⟨rfl, bn⟩; have X := Lib.hid (X.out.next bn); clear bn)
                | (go_at_call 16; with_reducible refine (HM1.out _ _ X.out.v).mono ?_; rintro e wn ⟨rfl, bn⟩; have X := Lib.hid (X.out.next bn); clear bn))

              go_roundw
              case rel => exact ⟨_, HJ.out, by go_num, X⟩
              case measure => have := HJ.out; simp [intOf]; omega
          · have j1 : ¬ (k : Int) < (2 : Int) ^ B := by rw [H3.out.1]; omega
            clear hk hkl
            go_wp2_with (go_at_call 25; refine (HP1.out _).mono ?_; rintro e wn ⟨rfl, rfl⟩)
            go_roundw
            case rel => exact ⟨l + 1, W2 / 2, by omega, by go_num, rfl, HWN, X⟩
            case measure => simp [intOf]; omega
      · have k1 : ¬ (l : Int) ≤ (D : Int) := by omega
        go_wp2
        go_ret
        exact ⟨rfl, X.out.k.o⟩
  · have HWI := Lib.hid (withT_bad L t i E _ T.out (by omega))
    have k1 : (L.length : Int) ≤ (i : Int) := by omega
    go_wp2_with (go_at_call 19; refine HWI.out.mono ?_; rintro e w4 ⟨rfl, hb4⟩; have K := Lib.hid (K.out.next hb4))
    go_ret
    exact ⟨rfl, K.out.o⟩
end Go.Proofs.YtjfhcckadibhgaaDoor
