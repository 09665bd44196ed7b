/- The law's TreeNodes. -/
import Derived.Test.YtjfhcckadibhgaaDoorAq
namespace Go.Proofs.YtjfhcckadibhgaaDoor
open Go.RowKit

theorem at_in {L : List (List UInt8)} {v k : Nat} (hv : v ≤ dep L.length) (hk : k < 2 ^ (dep L.length - v)) : atV L (v : Int) k = .tuple #[.string ⟨(dg (gl L (dep L.length)) v k).toArray⟩, .bool true] := by
  have h : atIn (dep L.length) (v : Int) k = true := by simp [atIn]; omega
  rw [atV, atD, h, if_pos rfl, Int.toNat_natCast]
theorem at_out {L : List (List UInt8)} {v k : Nat} (hk : 2 ^ (dep L.length - v) ≤ k) : atV L (v : Int) k = .tuple #[.string ⟨#[]⟩, .bool false] := by
  have h : atIn (dep L.length) (v : Int) k = false := by simp [atIn]; omega
  rw [atV, atD, h]
  rfl
/-- what the walk keeps: a tree, and its list -/
structure Tq (w0 : World) (L : List (List UInt8)) (t : Nat) (ao : Option Addr) (wz : World) : Prop where
  k : Wl w0 wz
  t : TreeM L wz t
  s : Strs ao L wz
theorem Tq.next {w0 wz wa : World} {L : List (List UInt8)} {t : Nat} {ao : Option Addr} (h : Tq w0 L t ao wz) (hb : Below wz.heap.size wz wa) : Tq w0 L t ao wa := ⟨h.k.next hb, h.t.below hb, h.s.below (Nat.le_refl _) hb⟩
theorem pow_half {D v : Nat} (hv : v + 1 ≤ D) : 2 ^ (D - v) = 2 * 2 ^ (D - (v + 1)) := by rw [show D - v = (D - (v + 1)) + 1 by omega, Nat.pow_succ, Nat.mul_comm]
set_option maxRecDepth 100000 in
set_option maxHeartbeats 4000000 in
theorem treeNodes_any (ao : Option Addr) (cap : Nat) (S : List (List UInt8)) (w : World) (hg : Glob w) (hs : Strs ao S w) (hS : S.length ≤ maxLen) (hl : ∀ i (h : i < S.length), S[i].length ≤ maxLen) :
    Calls Tryd.prog 5 #[.slice ao S.length cap] w fun e w' => e = .returned (.bool true) ∧ Below w.heap.size w w' := by
  have HF := Lib.hid (fun wz h => few9_any ao cap 300 S wz (by decide) hS hl h)
  have HS0 := Lib.hid hs
  have hlen := (cutTo_len S 300).1
  have hsh := cutTo_short S 300
  generalize cutTo S 300 = L at *
  have hL6 : L.length ≤ 65536 := by omega
  have hl7 : ∀ i (h : i < L.length), L[i].length ≤ 10000000 := fun i h => Nat.le_trans (hsh i h) (by decide)
  have hd := dep_le L.length hL6
  have HB := Lib.hid (fun ao cp wz (h : Wl w wz) (hp : Strs ao L wz) => build_any ao cp L wz h.g hp hL6 hl7)
  have HD := Lib.hid (fun t ao wz (h : Tq w L t ao wz) => depthT_any L t wz h.t)
  have HN := Lib.hid (fun t ao wz (h : Tq w L t ao wz) => lenT_any L t wz h.t)
  have HY := Lib.hid (fun w => show Calls Tryd.prog 21 #[.int .i64 (L.length : Int)] w fun e w' => e = .returned (.int .i64 (dep L.length : Int)) ∧ w = w' from by
    have h := depth_any (L.length : Int) (by omega) w
    rwa [depthV, if_neg (by omega), Int.toNat_natCast] at h)
  have HR := Lib.hid (fun t ao wz (h : Tq w L t ao wz) => rootT_any L t wz h.t)
  have HA := Lib.hid (fun t ao (v k : Nat) (hv : v ≤ dep L.length) (hk : k < 2 ^ (dep L.length - v)) (hk64 : k < 18446744073709551616) wz (h : Tq w L t ao wz) => at_any L t (v : Int) k wz h.t hk64)
  have HAO := Lib.hid (fun t ao (v : Nat) (hk64 : 2 ^ (dep L.length - v) < 18446744073709551616) wz (h : Tq w L t ao wz) => at_any L t (v : Int) (2 ^ (dep L.length - v)) wz h.t hk64)
  have HW := Lib.hid (fun wz (h : Wl w wz) => works9_any wz h.g)
  have HH0 := Lib.hid (show ∀ wz, Wl w wz → Calls Tryd.prog 22 #[.string ⟨#[110, 111, 110, 101]⟩, .slice none 0 0] wz (fun e w' => e = .returned (.string ⟨(hashL noneT []).toArray⟩) ∧ Below wz.heap.size wz w') from fun wz h => hash_any noneT none 0 [] wz h.g (.inl rfl) (by decide) (by decide))
  have HH1 := Lib.hid (show ∀ (i : Nat) (h : i < L.length) wz, Wl w wz → Calls Tryd.prog 22 #[.string ⟨#[108, 101, 97, 102]⟩, .slice (some ⟨wz.heap.size, 0, none⟩) 1 1] (wz.alloc (.cells #[.string ⟨L[i].toArray⟩] 9)) (fun e w' => e = .returned (.string ⟨(hashL leafT [L[i]]).toArray⟩) ∧ Below wz.heap.size wz w') from fun i hi wz h => hash1_any leafT L[i] wz h.g (by decide) (hl7 i hi))
  have HH2 := Lib.hid (show ∀ (D1 D2 : (List UInt8)), D1.length ≤ 32 → D2.length ≤ 32 → ∀ wz, Wl w wz → Calls Tryd.prog 22 #[.string ⟨#[110, 111, 100, 101]⟩, .slice (some ⟨wz.heap.size, 0, none⟩) 2 2] (wz.alloc (.cells #[.string ⟨D1.toArray⟩, .string ⟨D2.toArray⟩] 9)) (fun e w' => e = .returned (.string ⟨(hashL nodeT [D1, D2]).toArray⟩) ∧ Below wz.heap.size wz w') from fun D1 D2 h1 h2 wz h => hash2_any nodeT D1 D2 wz h.g (by decide) (by omega) (by omega))
  have hgl := gl_len L (dep L.length)
  have HRD : Hid (rootD L = dg (gl L (dep L.length)) (dep L.length) 0) := Lib.hid rfl
  have HG0 := Lib.hid (show (∀ k (h : turnB k (dep L.length : Int) < L.length), gl L (dep L.length) k = hashL leafT [L[turnB k (dep L.length : Int)]]) ∧ ∀ k, ¬ turnB k (dep L.length : Int) < L.length → gl L (dep L.length) k = hashL noneT [] from ⟨fun k h => dif_pos h, fun k h => dif_neg h⟩)
  have K := Lib.hid (show Wl w w from ⟨hg, Below.refl _ _⟩)
  have hl0 : (L.length : Int) ≤ 300 := by omega
  have HAI := Lib.hid (fun (v k : Nat) hv hk => at_in (L := L) (v := v) (k := k) hv hk)
  have HAZ := Lib.hid (fun (v : Nat) => at_out (L := L) (v := v) (Nat.le_refl (2 ^ (dep L.length - v))))
  clear hg hs hS hl hlen hsh hL6 hl7
  generalize rootD L = R at *
  generalize gl L (dep L.length) = g at *
  generalize hDe : dep L.length = D at *
  go_enter Tryd.func5, Tryd.ntmps5
  go_upto_region 3 with (go_at_call 18; refine (HW.out _ K.out).mono ?_; rintro e w1 ⟨rfl, hb1⟩; have K := Lib.hid (K.out.next hb1); clear hb1)
  have HF1 := Lib.hid (HF.out _ (HS0.out.below (Nat.le_refl _) K.out.o))
  clear HF HS0
  go_upto_region 4 with (go_at_call 8; refine HF1.out.mono ?_; rintro e w2 ⟨a1, c1, rfl, hp, hb1⟩)
  have K := Lib.hid (K.out.next hb1)
  have P1 := Lib.hid hp.strs
  clear hp hb1 HF1
  go_upto_region 5 with (go_at_call 9; refine (HB.out _ _ _ K.out P1.out).mono ?_; rintro e w3 ⟨t, rfl, hT, _, hb2⟩; have X := Lib.hid (show Tq w L t a1 w3 from ⟨K.out.next hb2, hT, P1.out.below (Nat.le_refl _) hb2⟩); clear hT hb2)
  clear K P1 HB HW
  go_upto_region 8 with (first
    | (go_at_call 15; refine (HN.out _ _ _ X.out).mono ?_; rintro e w5 ⟨rfl, rfl⟩)
    | (go_at_call 13; refine (HD.out _ _ _ X.out).mono ?_; rintro e w5 ⟨rfl, rfl⟩)
    | (go_at_call 21; refine (HY.out _).mono ?_; rintro e w5 ⟨rfl, rfl⟩))
  go_wp2
  clear HD HN HY
  go_loopw [6, 7, 8, 9, 10, 11, 12, 13, 14, 15, 16, 17] (fun s6 s7 s8 s9 s10 s11 s12 s13 s14 s15 s16 s17 wr => ∃ v : Nat, v ≤ D + 1 ∧ s6 = .int .i64 (v : Int) ∧ Hid (Tq w L t a1 wr)) (fun s6 _ _ _ _ _ _ _ _ _ _ _ _ => D + 1 - (intOf s6).toNat)
  case atStart => exact ⟨0, Nat.zero_le _, rfl, X⟩
  case round =>
    clear X
    obtain ⟨v, hv, rfl, X⟩ := hrel
    by_cases hlt : v ≤ D
    · obtain ⟨E, hE⟩ : ∃ E, D - v = E := ⟨_, rfl⟩
      have hdv : (D : Int) - (v : Int) = (E : Int) := by omega
      have k1 : (v : Int) ≤ (D : Int) := by omega
      have hE16 : E ≤ 16 := by omega
      obtain ⟨hs1, hs2, hs3⟩ := shl_pow hE16
      have H3 := Lib.hid (And.intro hs2 (And.intro hs3 (And.intro hv (And.intro hlt hE))))
      have HAE := Lib.hid (show ∀ wz, Tq w L t a1 wz → Calls Tryd.prog 16 #[.pointer (some ⟨t, 0, none⟩), .int .i64 (v : Int), .int .u64 ((2 : Int) ^ E)] wz (fun e w' => e = .returned (.tuple #[.string ⟨#[]⟩, .bool false]) ∧ Below wz.heap.size wz w') from fun wz h => by
        have h2 := HAO.out t a1 v (by rw [hE]; omega) wz h
        rw [HAZ.out v, hE, ← hs2] at h2
        exact h2)
      clear hs2 hs3 hE16 hE
      go_wp2
      go_loopw [7, 8, 9, 10, 11, 12, 13, 14, 15] (fun s7 s8 s9 s10 s11 s12 s13 s14 s15 wx => ∃ k : Nat, k ≤ 2 ^ E ∧ s7 = .int .u64 (k : Int) ∧ Hid (Tq w L t a1 wx)) (fun s7 _ _ _ _ _ _ _ _ _ => 2 ^ E - (intOf s7).toNat)
      case atStart => exact ⟨0, Nat.zero_le _, rfl, X⟩
      case round =>
        clear X
        obtain ⟨k, hk, rfl, X⟩ := hrel
        by_cases hkl : k < 2 ^ E
        · have j1 : (k : Int) < (2 : Int) ^ E := by rw [H3.out.1]; omega
          have hk16 : k < 65536 := by have := H3.out.2.1; omega
          have j2 : IntKind.u64.wrap ((k : Int) + 1) = ((k + 1 : Nat) : Int) := by rw [IntKind.wrap_u64]; omega
          have hkD : k < 2 ^ (D - v) := by rw [H3.out.2.2.2.2]; exact hkl
          have HA3 := Lib.hid (fun wz h => HA.out t a1 v k H3.out.2.2.2.1 hkD (by omega) wz h)
          rw [HAI.out v k H3.out.2.2.2.1 hkD] at HA3
          have HJ := Lib.hid hkl
          by_cases hv0 : v = 0
          · have v0 : ¬ (0 : Int) < (v : Int) := by omega
            have HEL := Lib.hid (fun w => element_any k (by omega) (D : Int) w)
            have hu : IntKind.u64.wrap (L.length : Int) = (L.length : Int) := by rw [IntKind.wrap_u64]; omega
            have HG := Lib.hid (show dg g v k = g k by rw [hv0]; rfl)
            by_cases hi : turnB k (D : Int) < L.length
            · have HGK := Lib.hid (HG0.out.1 k hi)
              have HH := Lib.hid (HH1.out _ hi)
              obtain ⟨b1, o1, ha, _⟩ := X.out.s.cell _ hi
              have HCX : Hid (∀ wz, Strs a1 L wz → wz.cell? ⟨b1, o1 + turnB k (D : Int), none⟩ = some (.string ⟨L[turnB k (D : Int)].toArray⟩)) := Lib.hid fun wz h => by
                obtain ⟨b2, o2, h1, h2⟩ := h.cell _ hi
                rw [ha] at h1
                cases h1
                exact h2
              have i0 : (0 : Int) ≤ (turnB k (D : Int) : Int) := by omega
              have i1 : (turnB k (D : Int) : Int) < (L.length : Int) := by omega
              have hZ : dg g v k = hashL leafT [L[turnB k (D : Int)]] := by rw [HG.out, HGK.out]
              rw [hZ] at HA3
              subst ha
              clear hk hkl hkD hZ hk16 HGK HG hv0
              generalize hashL leafT [L[turnB k (D : Int)]] = Z at *
              generalize L[turnB k (D : Int)] = Y at *
              generalize turnB k (D : Int) = i at *
              go_wp2_with (first
                | (go_at_call 22; with_reducible refine (HH0.out _ X.out.k).mono ?_; rintro e wn ⟨rfl, bn⟩; have X := Lib.hid (X.out.next bn); clear bn; have hcx := HCX.out _ X.out.s)
                | (go_at_call 22; with_reducible refine (HH.out _ X.out.k).mono ?_; rintro e wn ⟨rfl, bn⟩; have X := Lib.hid (X.out.next bn); clear bn)
                | (go_at_call 23; refine (HEL.out _).mono ?_; rintro e wn ⟨rfl, rfl⟩)
                | (go_at_call 16; with_reducible refine (HA3.out _ X.out).mono ?_; rintro e wn ⟨rfl, bn⟩; have X := Lib.hid (X.out.next bn); clear bn))
              go_roundw
              case rel => exact ⟨k + 1, HJ.out, by go_num, X⟩
              case measure => have := HJ.out; simp [intOf]; omega
            · have HGK := Lib.hid (HG0.out.2 k hi)
              have i1 : ¬ (turnB k (D : Int) : Int) < (L.length : Int) := by omega
              have hZ : dg g v k = hashL noneT [] := by rw [HG.out, HGK.out]
              rw [hZ] at HA3
              clear hk hkl hkD hZ hk16 HGK HG hi hv0
              generalize hashL noneT [] = Z at *
              generalize turnB k (D : Int) = i at *
              go_wp2_with (first
                | (go_at_call 22; with_reducible refine (HH0.out _ X.out.k).mono ?_; rintro e wn ⟨rfl, bn⟩; have X := Lib.hid (X.out.next bn); clear bn)
                | (go_at_call 23; refine (HEL.out _).mono ?_; rintro e wn ⟨rfl, rfl⟩)
                | (go_at_call 16; with_reducible refine (HA3.out _ X.out).mono ?_; rintro e wn ⟨rfl, bn⟩; have X := Lib.hid (X.out.next bn); clear bn))
              go_roundw
              case rel => exact ⟨k + 1, HJ.out, by go_num, X⟩
              case measure => have := HJ.out; simp [intOf]; omega
          · obtain ⟨u, hu⟩ : ∃ u, v = u + 1 := ⟨v - 1, by omega⟩
            have hpw : 2 ^ (D - u) = 2 * 2 ^ (D - v) := by rw [hu]; exact pow_half (by have := H3.out.2.2.2.1; omega)
            obtain ⟨K2, hK2⟩ : ∃ K2, K2 = 2 * k := ⟨_, rfl⟩
            obtain ⟨K3, hK3⟩ : ∃ K3, K3 = 2 * k + 1 := ⟨_, rfl⟩
            have HA1 := Lib.hid (fun wz h => HA.out t a1 u K2 (by have := H3.out.2.2.2.1; omega) (by omega) (by omega) wz h)
            have HA2 := Lib.hid (fun wz h => HA.out t a1 u K3 (by have := H3.out.2.2.2.1; omega) (by omega) (by omega) wz h)
            rw [HAI.out u K2 (by have := H3.out.2.2.2.1; omega) (by omega)] at HA1
            rw [HAI.out u K3 (by have := H3.out.2.2.2.1; omega) (by omega)] at HA2
            have HH := Lib.hid (HH2.out (dg g u K2) (dg g u K3) (dg_len hgl _ _) (dg_len hgl _ _))
            have hZ : dg g v k = hashL nodeT [dg g u K2, dg g u K3] := by rw [hu, hK2, hK3]; rfl
            rw [hZ] at HA3
            have e1 : (v : Int) - 1 = (u : Int) := by omega
            have e2 : IntKind.i64.wrap (u : Int) = (u : Int) := by rw [IntKind.wrap_i64]; have := H3.out.2.2.2.1; omega
            have e3 : IntKind.u64.wrap (2 * (k : Int)) = (K2 : Int) := by rw [IntKind.wrap_u64]; omega
            have e4 : IntKind.u64.wrap ((K2 : Int) + 1) = (K3 : Int) := by rw [IntKind.wrap_u64]; omega
            have v0 : (0 : Int) < (v : Int) := by omega
            clear hk hkl hkD hpw hK2 hK3 hu hv0 hZ hk16
            generalize hashL nodeT [dg g u K2, dg g u K3] = Z at *
            generalize dg g u K2 = D1 at *
            generalize dg g u K3 = D2 at *
            go_wp2_with (first
              | (go_at_call 22; with_reducible refine (HH0.out _ X.out.k).mono ?_; rintro e wn ⟨rfl, bn⟩; have X := Lib.hid (X.out.next bn); clear bn)
              | (go_at_call 22; with_reducible refine (HH.out _ X.out.k).mono ?_; rintro e wn ⟨rfl, bn⟩; have X := Lib.hid (X.out.next bn); clear bn)
              | (go_at_call 16; with_reducible refine (HA1.out _ X.out).mono ?_; rintro e wn ⟨rfl, bn⟩; have X := Lib.hid (X.out.next bn); clear bn)
              | (go_at_call 16; with_reducible refine (HA2.out _ X.out).mono ?_; rintro e wn ⟨rfl, bn⟩; have X := Lib.hid (X.out.next bn); clear bn)
              | (go_at_call 16; with_reducible refine (HA3.out _ X.out).mono ?_; rintro e wn ⟨rfl, bn⟩; have X := Lib.hid (X.out.next bn); clear bn))
            go_roundw
            case rel => exact ⟨k + 1, HJ.out, by go_num, X⟩
            case measure => have := HJ.out; simp [intOf]; omega
        · have j1 : ¬ (k : Int) < (2 : Int) ^ E := by rw [H3.out.1]; omega
          clear hk hkl
          go_wp2_with (go_at_call 16; with_reducible refine (HAE.out _ X.out).mono ?_; rintro e wn ⟨rfl, bn⟩; have X := Lib.hid (X.out.next bn); clear bn)
          go_roundw
          case rel => exact ⟨v + 1, by omega, by go_num, X⟩
          case measure => simp [intOf]; omega
    · have k1 : ¬ (v : Int) ≤ (D : Int) := by omega
      have HA4 := Lib.hid (show ∀ wz, Tq w L t a1 wz → Calls Tryd.prog 16 #[.pointer (some ⟨t, 0, none⟩), .int .i64 (D : Int), .int .u64 0] wz (fun e w' => e = .returned (.tuple #[.string ⟨R.toArray⟩, .bool true]) ∧ Below wz.heap.size wz w') from fun wz h => by
        have h2 := HA.out t a1 D 0 (Nat.le_refl _) (Nat.two_pow_pos _) (by decide) wz h
        rw [HAI.out D 0 (Nat.le_refl _) (Nat.two_pow_pos _)] at h2
        rw [HRD.out]
        exact h2)
      go_wp2_with (first
        | (go_at_call 16; with_reducible refine (HA4.out _ X.out).mono ?_; rintro e wn ⟨rfl, bn⟩; have X := Lib.hid (X.out.next bn); clear bn)
        | (go_at_call 11; refine (HR.out _ _ _ X.out).mono ?_; rintro e wn ⟨rfl, rfl⟩))
      go_ret
      exact ⟨rfl, X.out.k.o⟩
end Go.Proofs.YtjfhcckadibhgaaDoor
