/- ChainBack: its walk. -/
import Derived.Test.YtdobmhbfadijoaaDoorEh
namespace Go.Proofs.YtdobmhbfadijoaaDoor
open Go.RowKit

def lackN (D : List Nat) (k : Nat) : Nat := ((D.take k).map (15 - ·)).sum
theorem lackN_succ (D : List Nat) (k : Nat) (h : k < D.length) : lackN D (k + 1) = lackN D k + (15 - D[k]) := by
  rw [lackN, List.take_succ_eq_append_getElem h, List.map_append, List.sum_append, ← lackN]; simp
theorem lack_hv : ∀ s : (List UInt8), ((hvL s).map (15 - ·)).sum = lackL s
  | [] => rfl
  | b :: s => by
    have h := lack_hv s
    have hb := b256 b
    rw [lackL_cons, ← h]
    simp only [hvL, List.flatMap_cons, List.map_append, List.sum_append, List.map_cons, List.map_nil, List.sum_cons, List.sum_nil]
    omega
theorem lackN_64 {s : (List UInt8)} (h : s.length = 32) : lackN (digL s) 64 = lackL s := by
  rw [lackN, digL, List.take_append_of_le_length (by rw [hvL_len]; omega), List.take_of_length_le (by rw [hvL_len]; omega), lack_hv]
theorem lackN_le (D : List Nat) (k : Nat) : lackN D k ≤ 15 * k := by
  have : ∀ L : List Nat, (L.map (15 - ·)).sum ≤ 15 * L.length := by
    intro L
    induction L with
    | nil => simp
    | cons x L ih => rw [List.map_cons, List.sum_cons, List.length_cons]; omega
  have h := this (D.take k)
  rw [List.length_take] at h
  unfold lackN
  omega
abbrev Bk (w : World) (b : Nat) (PC : Array Value) (ao : Option Addr) (D : List Nat) (wz : World) : Prop := wz.heap[b]? = some (.cells PC 5 (0, 0)) ∧ Ints ao D wz ∧ Wl w wz
theorem bk_next {w : World} {b : Nat} {PC : Array Value} {ao : Option Addr} {D : List Nat} {wz wa : World} (h : Bk w b PC ao D wz) (hb : Below wz.heap.size wz wa) : Bk w b PC ao D wa :=
  ⟨(hb.block _ (lit_lt h.1)).trans h.1, h.2.1.next hb, h.2.2.next hb⟩
set_option maxRecDepth 100000 in
set_option maxHeartbeats 2000000 in
theorem chainBack_any (C : ChainC) (s : (List UInt8)) (w : World) (hg : Glob w) : Calls Tryd.prog 6 #[.string ⟨s.toArray⟩] w fun e w' => e = .returned (.bool true) ∧ Below w.heap.size w w' := by
  have HM := Lib.hid (fun wz => make_bytes 32 (by decide) wz)
  rw [show ((32 : Nat) : Int) = 32 from rfl, show List.replicate 32 (0 : UInt8) = zero32 from rfl] at HM
  have HCP := Lib.hid (fun wz => copy_pad s wz)
  have HCV := Lib.hid (fun wz => conv_pad (pad32 s) (pad32_len s) wz)
  have hpl := pad32_len s
  have HBC := Lib.hid (fun (b : Nat) (t : TypeId) (wz : World) (h : wz.heap[b]? = some (Obj.cells (bytesC (pad32 s)).toArray t (0, 0))) k hk => bytes_cell h k hk)
  generalize pad32 s = P at *
  have HD := Lib.hid (fun wz (h : Wl w wz) => C.d P wz h.g (by rw [hpl]; decide))
  have HW := Lib.hid (works12_any C w hg)
  have hdc : digC P = digL P := if_pos hpl
  rw [hdc, digL_len hpl] at HD
  have HAT := Lib.hid (show ∀ (i : Nat) (h : i < P.length), (digL P)[2 * i]? = some (P[i].toNat / 16) ∧ (digL P)[2 * i + 1]? = some (P[i].toNat % 16) from fun i h => digL_at hpl i (by omega))
  have HTOP := Lib.hid (digL_top hpl)
  have HLE := Lib.hid (digL_le hpl)
  have H64 := Lib.hid (lackN_64 hpl)
  have HLK := Lib.hid (show lackL P ≤ 960 by have := lackL_le P; omega)
  have HDL := Lib.hid (digL_len hpl)
  have HPL := Lib.hid hpl
  generalize hD : digL P = D at *
  have HG := Lib.hid (show Wl w w from ⟨hg, Below.refl _ _⟩)
  clear hg hD hdc hpl
  go_enter Tryd.func6, Tryd.ntmps6
  go_upto_region 3 with (go_at_call 12; with_reducible refine HW.out.mono ?_; rintro e w1 ⟨rfl, hb1⟩; have HG := Lib.hid (HG.out.next hb1); clear hb1)
  have hm := HM.out w1
  have hcp := HCP.out w1
  have hcv := HCV.out w1
  have HGA := Lib.hid (show Wl w (w1.alloc (.cells (bytesC P).toArray 5)) from HG.out.next (by0 w1 _))
  have HNB := Lib.hid (heap_alloc_new w1 (.cells (bytesC P).toArray 5))
  generalize (bytesC zero32).toArray = ZC at *
  generalize hPC : (bytesC P).toArray = PC at *
  go_upto_region 8 with (first
    | (go_at_call 10; with_reducible refine (HD.out _ HGA.out).mono ?_; rintro e w2 ⟨ao, cp, rfl, hi, hb2⟩))
  have K := Lib.hid (show Bk w w1.heap.size PC ao D w2 from ⟨(hb2.block _ (lit_lt HNB.out)).trans HNB.out, hi, HGA.out.next hb2⟩)
  clear hm hcp hcv HGA HNB hi hb2 HD HM HCP HCV HG
  generalize w1.heap.size = b at *
  go_wp2
  go_loopw [5, 6] (fun v5 v6 wr => ∃ k : Nat, k ≤ 64 ∧ v6 = .int .i64 (k : Int) ∧ v5 = .int .i64 (lackN D k : Int) ∧ Hid (Bk w b PC ao D wr)) (fun _ v6 _ => 64 - (intOf v6).toNat)
  case atStart => exact ⟨0, Nat.zero_le _, rfl, rfl, K⟩
  case round =>
    clear K
    obtain ⟨k, hk, rfl, rfl, K⟩ := hrel
    have hle := lackN_le D k
    by_cases hlt : k < 64
    · have hkd : k < D.length := by have := HDL.out; omega
      have HS := Lib.hid (lackN_succ D k hkd)
      have hd := HLE.out _ (List.getElem_mem hkd)
      obtain ⟨b1, o1, rfl, c1⟩ := K.out.2.1.at hkd
      have k0 : (0 : Int) ≤ (k : Int) := by omega
      have k1 : (k : Int) < 64 := by omega
      have k2 : (k : Int) < 67 := by omega
      generalize D[k] = x at *
      generalize lackN D k = S at *
      clear hkd
      go_wp2
      go_roundw
      case rel => exact ⟨k + 1, by omega, by go_num, by rw [HS.out]; go_num, K⟩
      case measure => simp [intOf]; omega
    · have k1 : ¬ (k : Int) < 64 := by omega
      have ek : k = 64 := by omega
      subst ek
      rw [H64.out]
      have HLK2 := Lib.hid HLK.out
      obtain ⟨S, hS⟩ : ∃ S, S = lackL P := ⟨_, rfl⟩
      rw [← hS] at HTOP HLK2 ⊢
      clear hS hle hk hlt H64 HLK
      go_wp2
      go_loopw [7] (fun v7 wr => ∃ k : Nat, k ≤ 32 ∧ v7 = .int .i64 (k : Int) ∧ Hid (Bk w b PC ao D wr)) (fun v7 _ => 32 - (intOf v7).toNat)
      case atStart => exact ⟨0, Nat.zero_le _, rfl, K⟩
      case round =>
        clear K
        obtain ⟨k, hk, rfl, K⟩ := hrel
        by_cases hlt : k < 32
        · have hkp : k < P.length := by have := HPL.out; omega
          obtain ⟨h1, h2⟩ := HAT.out k hkp
          have hcb := HBC.out b 5 _ K.out.1 k hkp
          have hx := b256 P[k]
          obtain ⟨b1, o1, rfl, c⟩ := K.out.2.1.get (by rw [HDL.out]; decide)
          have c1 := c _ _ h1
          have c2 := c _ _ h2
          generalize P[k].toNat = x at *
          obtain ⟨h, hh⟩ : ∃ h, h = x / 16 := ⟨_, rfl⟩
          obtain ⟨l, hl⟩ : ∃ l, l = x % 16 := ⟨_, rfl⟩
          rw [← hh] at c1
          rw [← hl] at c2
          have e1 : (16 : Int) * (h : Int) + (l : Int) = (x : Int) := by omega
          have e0 : (16 : Int) * (h : Int) ≤ 255 := by omega
          have e2 : h ≤ 15 := by omega
          have e3 : l ≤ 15 := by omega
          have k0 : (0 : Int) ≤ (k : Int) := by omega
          have k1 : (k : Int) < 32 := by omega
          obtain ⟨j, hj⟩ : ∃ j, j = 2 * k := ⟨_, rfl⟩
          rw [← hj] at c1 c2
          have j0 : (2 : Int) * (k : Int) = (j : Int) := by omega
          obtain ⟨i, hi⟩ : ∃ i, i = j + 1 := ⟨_, rfl⟩
          rw [← hi] at c2
          have j1 : (j : Int) + 1 = (i : Int) := by omega
          have j2 : (j : Int) < 67 := by omega
          have j3 : (i : Int) < 67 := by omega
          have j4 : (0 : Int) ≤ (j : Int) := by omega
          have j5 : (0 : Int) ≤ (i : Int) := by omega
          clear hi hj hh hl c h1 h2 hkp
          go_wp2
          go_quiet (fail)
          have K := Lib.hid (bk_next K.out (by0q _ nq))
          go_wp2
          go_roundw
          case rel => exact ⟨k + 1, by omega, by go_num, K⟩
          case measure => simp [intOf]; omega
        · have k1 : ¬ (k : Int) < 32 := by omega
          obtain ⟨h1, h2, h3⟩ := HTOP.out
          obtain ⟨b1, o1, rfl, c⟩ := K.out.2.1.get (by rw [HDL.out]; decide)
          have c1 := c _ _ h1
          have c2 := c _ _ h2
          have c3 := c _ _ h3
          have hS := HLK2.out
          obtain ⟨t, ht⟩ : ∃ t, t = S / 256 := ⟨_, rfl⟩
          obtain ⟨u, hu⟩ : ∃ u, u = S / 16 % 16 := ⟨_, rfl⟩
          obtain ⟨v, hv⟩ : ∃ v, v = S % 16 := ⟨_, rfl⟩
          rw [← ht] at c1
          rw [← hu] at c2
          rw [← hv] at c3
          have e1 : (256 : Int) * (t : Int) + 16 * (u : Int) + (v : Int) = (S : Int) := by omega
          have t1 : t ≤ 3 := by omega
          have u1 : u ≤ 15 := by omega
          have v1 : v ≤ 15 := by omega
          clear ht hu hv c h1 h2 h3
          go_wp2
          go_quiet (fail)
          have K := Lib.hid (bk_next K.out (by0q _ nq))
          go_wp2
          exact bodyPost_ret (v := .bool true) (by simp [results, Tryd.results6, go_sem]) rfl ⟨rfl, K.out.2.2.o⟩
end Go.Proofs.YtdobmhbfadijoaaDoor
