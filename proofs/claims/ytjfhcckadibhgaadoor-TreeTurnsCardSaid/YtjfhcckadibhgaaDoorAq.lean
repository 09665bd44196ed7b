/- The law's TreeIs. -/
import Derived.Test.YtjfhcckadibhgaaDoorAp
import Derived.Deep.Cut
namespace Go.Proofs.YtjfhcckadibhgaaDoor
open Go.RowKit

/-- what the walks of layer 9 keep: a tree, and the document's -/
structure Tr (w0 : World) (L : List (List UInt8)) (t r : Nat) (wz : World) : Prop where
  k : Wl w0 wz
  t : TreeM L wz t
  r : RefM L wz r
theorem Tr.next {w0 wz wa : World} {L : List (List UInt8)} {t r : Nat} (h : Tr w0 L t r wz) (hb : Below wz.heap.size wz wa) : Tr w0 L t r wa := ⟨h.k.next hb, h.t.below hb, h.r.below hb⟩
set_option maxRecDepth 100000 in
set_option maxHeartbeats 4000000 in
theorem treeIs_any (ao : Option Addr) (cap : Nat) (S : List (List UInt8)) (level : Int) (k : Nat) (w : World) (hg : Glob w) (hs : Strs ao S w) (hS : S.length ≤ maxLen) (hl : ∀ i (h : i < S.length), S[i].length ≤ maxLen) (hk : k < 18446744073709551616) :
    Calls Tryd.prog 3 #[.slice ao S.length cap, .int .i64 level, .int .u64 (k : Int)] w fun e w' => e = .returned (.bool true) ∧ Below w.heap.size w w' := by
  have HF := Lib.hid (few9_any ao cap 40 S w (by decide) hS hl hs)
  have hlen := (cutTo_len S 40).1
  have hsh := cutTo_short S 40
  generalize cutTo S 40 = L at *
  have hL6 : L.length ≤ 65536 := by omega
  have hl7 : ∀ i (h : i < L.length), L[i].length ≤ 10000000 := fun i h => Nat.le_trans (hsh i h) (by decide)
  have hd := dep_le L.length hL6
  have HB := Lib.hid (fun ao cp wz (h : Wl w wz) (hp : FewP L w.heap.size ao cp wz) => build_any ao cp L wz h.g hp.strs hL6 hl7)
  have HC := Lib.hid (fun ao cp wz (hp : FewP L w.heap.size ao cp wz) => refBuild_any ao cp L wz hL6 hp.two)
  have HR := Lib.hid (fun t r wz (h : Tr w L t r wz) => rootT_any L t wz h.t)
  have HS := Lib.hid (fun t r wz (h : Tr w L t r wz) => refRoot_any L r wz h.r hL6 hl7)
  have HD := Lib.hid (fun t r wz (h : Tr w L t r wz) => depthT_any L t wz h.t)
  have HE := Lib.hid (fun t r wz (h : Tr w L t r wz) => refDepthT_any L r wz h.r hL6)
  have HN := Lib.hid (fun t r wz (h : Tr w L t r wz) => lenT_any L t wz h.t)
  have HA := Lib.hid (fun t r level k hk wz (h : Tr w L t r wz) => at_any L t level k wz h.t hk)
  have HP := Lib.hid (fun t r level k wz (h : Tr w L t r wz) => refAt_any L r level k wz h.r hL6 hl7)
  have HW := Lib.hid (fun t r wz (h : Tr w L t r wz) => works9_any wz h.k.g)
  have K := Lib.hid (show Wl w w from ⟨hg, Below.refl _ _⟩)
  have hl0 : (0 : Int) ≤ (L.length : Int) := by omega
  have HK := Lib.hid hk
  clear hg hs hS hl hlen hsh hL6 hl7 hk
  generalize rootD L = R at *
  generalize hDe : dep L.length = D at *
  go_enter Tryd.func3, Tryd.ntmps3
  go_upto_region 2 with (go_at_call 8; refine HF.out.mono ?_; rintro e w1 ⟨a1, c1, rfl, hp, hb1⟩)
  have K := Lib.hid (K.out.next hb1)
  have P1 := Lib.hid hp
  clear hp hb1 HF
  go_upto_region 4 with (first
    | (go_at_call 9; refine (HB.out _ _ _ K.out P1.out).mono ?_; rintro e w2 ⟨t, rfl, hT, _, hb2⟩; have P2 := Lib.hid (P1.out.below hb2); have T2 := Lib.hid hT; have K2 := Lib.hid (K.out.next hb2); clear hT hb2)
    | (go_at_call 10; refine (HC.out _ _ _ P2.out).mono ?_; rintro e w3 ⟨r, rfl, hR, hb3⟩; have X := Lib.hid (show Tr w L t r w3 from ⟨K2.out.next hb3, T2.out.below hb3, hR⟩); clear hR hb3))
  clear P1 P2 T2 K2 K HB HC
  go_upto_region 6 with (first
    | (go_at_call 11; refine (HR.out _ _ _ X.out).mono ?_; rintro e w4 ⟨rfl, rfl⟩)
    | (go_at_call 12; refine (HS.out _ _ _ X.out).mono ?_; rintro e w4 ⟨rfl, hb4⟩; have X := Lib.hid (X.out.next hb4))
    | (go_at_call 13; refine (HD.out _ _ _ X.out).mono ?_; rintro e w5 ⟨rfl, rfl⟩)
    | (go_at_call 14; refine (HE.out _ _ _ X.out).mono ?_; rintro e w5 ⟨rfl, rfl⟩)
    | (go_at_call 15; refine (HN.out _ _ _ X.out).mono ?_; rintro e w5 ⟨rfl, rfl⟩))
  go_wp2
  go_loopw [11, 12, 13, 14, 15, 16] (fun s11 s12 s13 s14 s15 s16 wr => ∃ i : Nat, i ≤ D + 1 ∧ s11 = .int .i64 (i : Int) ∧ Hid (Tr w L t r wr)) (fun s11 _ _ _ _ _ _ => D + 1 - (intOf s11).toNat)
  case atStart => exact ⟨0, by omega, rfl, X⟩
  case round =>
    clear X
    obtain ⟨i, hi, rfl, X⟩ := hrel
    by_cases hlt : i ≤ D
    · obtain ⟨E, hE⟩ : ∃ E, D - i = E := ⟨_, rfl⟩
      have hdi : (D : Int) - (i : Int) = (E : Int) := by omega
      have k1 : (i : Int) ≤ (D : Int) := by omega
      have hE16 : E ≤ 16 := by omega
      obtain ⟨hs1, hs2, hs3⟩ := shl_pow hE16
      have H3 := Lib.hid (And.intro hs2 (And.intro hs3 hi))
      clear hs2 hs3 hE16
      go_wp2_with (go_at_call 14; refine (HE.out _ _ _ X.out).mono ?_; rintro e w5 ⟨rfl, rfl⟩)
      go_loopw [12, 13, 14, 15, 16] (fun s12 s13 s14 s15 s16 wx => ∃ j : Nat, j ≤ 2 ^ E + 1 ∧ s12 = .int .u64 (j : Int) ∧ Hid (Tr w L t r wx)) (fun s12 _ _ _ _ _ => 2 ^ E + 1 - (intOf s12).toNat)
      case atStart => exact ⟨0, Nat.zero_le _, rfl, X⟩
      case round =>
        clear X
        obtain ⟨j, hj, rfl, X⟩ := hrel
        by_cases hjl : j ≤ 2 ^ E
        · have j1 : (j : Int) ≤ (2 : Int) ^ E := by rw [H3.out.1]; omega
          have j2 : IntKind.u64.wrap ((j : Int) + 1) = ((j + 1 : Nat) : Int) := by rw [IntKind.wrap_u64]; have := H3.out.2.1; omega
          have HA1 := Lib.hid (fun wz h => HA.out t r (i : Int) j (by have := H3.out.2.1; omega) wz h)
          have HP1 := Lib.hid (fun wz h => HP.out t r (i : Int) j wz h)
          have HJ := Lib.hid hjl
          clear hj hjl
          generalize atD L (i : Int) j = Z at *
          generalize atIn (dep L.length) (i : Int) j = Y at *
          go_wp2_with (first
            | (go_at_call 14; refine (HE.out _ _ _ X.out).mono ?_; rintro e w6 ⟨rfl, rfl⟩)
            | (go_at_call 16; refine (HA1.out _ X.out).mono ?_; rintro e w6 ⟨rfl, hb6⟩; have X := Lib.hid (X.out.next hb6); clear hb6)
            | (go_at_call 17; refine (HP1.out _ X.out).mono ?_; rintro e w7 ⟨rfl, hb7⟩; have X := Lib.hid (X.out.next hb7); clear hb7))
          go_roundw
          case rel => exact ⟨j + 1, by have := HJ.out; omega, by go_num, X⟩
          case measure => have := HJ.out; simp [intOf]; omega
        · have j1 : ¬ (j : Int) ≤ (2 : Int) ^ E := by rw [H3.out.1]; omega
          clear hj hjl
          go_wp2_with (go_at_call 14; refine (HE.out _ _ _ X.out).mono ?_; rintro e w6 ⟨rfl, rfl⟩)
          go_roundw
          case rel => exact ⟨i + 1, by omega, by go_num, X⟩
          case measure => simp [intOf]; omega
    · have k1 : ¬ (i : Int) ≤ (D : Int) := by omega
      have HA1 := Lib.hid (fun wz h => HA.out t r level k HK.out wz h)
      have HP1 := Lib.hid (fun wz h => HP.out t r level k wz h)
      generalize atD L level k = Z at *
      generalize atIn (dep L.length) level k = Y at *
      go_wp2_with (first
        | (go_at_call 14; refine (HE.out _ _ _ X.out).mono ?_; rintro e w6 ⟨rfl, rfl⟩)
        | (go_at_call 16; refine (HA1.out _ X.out).mono ?_; rintro e w6 ⟨rfl, hb6⟩; have X := Lib.hid (X.out.next hb6); clear hb6)
        | (go_at_call 17; refine (HP1.out _ X.out).mono ?_; rintro e w7 ⟨rfl, hb7⟩; have X := Lib.hid (X.out.next hb7); clear hb7)
        | (go_at_call 18; refine (HW.out _ _ _ X.out).mono ?_; rintro e w8 ⟨rfl, hb8⟩; have X := Lib.hid (X.out.next hb8); clear hb8))
      go_ret
      exact ⟨rfl, X.out.k.o⟩
end Go.Proofs.YtjfhcckadibhgaaDoor
