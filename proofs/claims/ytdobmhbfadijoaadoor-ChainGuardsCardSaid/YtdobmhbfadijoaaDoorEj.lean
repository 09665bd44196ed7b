/- ChainGuards: its walk. -/
import Derived.Test.YtdobmhbfadijoaaDoorEi
import Derived.Test.YtdobmhbfadijoaaDoorEo
namespace Go.Proofs.YtdobmhbfadijoaaDoor
open Go.RowKit

/-- is there a digit among the first k that is less -/
def lessN (X Y : List Nat) (k : Nat) : Bool := (List.range k).any fun i => decide (X.getD i 0 < Y.getD i 0)
theorem lessN_succ (X Y : List Nat) (k : Nat) (x y : Nat) (hx : X[k]? = some x) (hy : Y[k]? = some y) : lessN X Y (k + 1) = (lessN X Y k || decide (x < y)) := by
  rw [lessN, List.range_succ, List.any_append, ← lessN]
  simp [List.getD, hx, hy]
theorem lessN_67 {a b : (List UInt8)} (la : a.length = 32) (lb : b.length = 32) : lessN (digL a) (digL b) 67 = decide (a ≠ b) := by
  by_cases h : a = b
  · subst h
    simp [lessN]
  · rw [decide_eq_true h, lessN, List.any_eq_true]
    obtain ⟨i, hi, x, y, hx, hy, hlt⟩ := dig_less la lb h
    exact ⟨i, List.mem_range.2 hi, by simp [List.getD, hx, hy, hlt]⟩
/-- thirty-two bytes in a block of their own, and what is kept -/
structure Qb (w : World) (b : Nat) (Q : (List UInt8)) (wz : World) : Prop where
  h : wz.heap[b]? = some (.cells (bytesC Q).toArray 5 (0, 0))
  k : Wl w wz
theorem Qb.next {w : World} {b : Nat} {Q : (List UInt8)} {wz wa : World} (h : Qb w b Q wz) (hb : Below wz.heap.size wz wa) : Qb w b Q wa := ⟨(hb.block _ (lit_lt h.h)).trans h.h, h.k.next hb⟩
theorem Qb.drew {w : World} {b : Nat} {Q : (List UInt8)} {wz : World} (h : Qb w b Q wz) : Qb w b Q wz.drew := h.next (Below.refl _ _).drew
theorem pair_next {w : World} {b : Nat} {QC : Array Value} {wz wa : World} (h : wz.heap[b]? = some (.cells QC 5 (0, 0)) ∧ Wl w wz) (hb : Below wz.heap.size wz wa) : wa.heap[b]? = some (.cells QC 5 (0, 0)) ∧ Wl w wa := ⟨(hb.block _ (lit_lt h.1)).trans h.1, h.2.next hb⟩
theorem rw_next {w : World} {b : Nat} {QC : Array Value} {ax ay : Option Addr} {X Y : List Nat} {wz wa : World} (h : Ints ax X wz ∧ Ints ay Y wz ∧ (wz.heap[b]? = some (.cells QC 5 (0, 0)) ∧ Wl w wz)) (hb : Below wz.heap.size wz wa) : Ints ax X wa ∧ Ints ay Y wa ∧ (wa.heap[b]? = some (.cells QC 5 (0, 0)) ∧ Wl w wa) := ⟨h.1.next hb, h.2.1.next hb, pair_next h.2.2 hb⟩
theorem Ints.cell {b off : Nat} {X : List Nat} {w : World} {k x : Nat} (h : Ints (some ⟨b, off, none⟩) X w) (hx : X[k]? = some x) : w.cell? ⟨b, off + k, none⟩ = some (.int .i64 (x : Int)) := by
  obtain ⟨b', o', e, hc⟩ := h.get (List.length_pos_iff.2 fun e => by rw [e] at hx; simp at hx)
  cases e
  exact hc k x hx
theorem prs_get {ao : Option Addr} {l : List (Nat × Nat)} {w : World} {k : Nat} (h : Prs ao l w) (hk : k < l.length) : ∃ b off, ao = some ⟨b, off, none⟩ ∧ w.cell? ⟨b, off + k * 2, none⟩ = some (.int .u8 (l[k].1 : Int)) ∧ w.cell? ⟨b, off + k * 2 + 1, none⟩ = some (.int .u8 (l[k].2 : Int)) := by
  rcases h with rfl | ⟨b, off, h1, h2, h3⟩
  · simp at hk
  · exact ⟨b, off, h1, (h3 k hk 0 (by decide)).trans rfl, (h3 k hk 1 (by decide)).trans rfl⟩
set_option maxRecDepth 100000 in
set_option maxHeartbeats 4000000 in
theorem chainGuards_any (C : ChainC) (s : (List UInt8)) (ao : Option Addr) (cp : Nat) (l : List (Nat × Nat)) (w : World) (hg : Glob w) (hl : ∀ i (h : i < l.length), l[i].1 < 256 ∧ l[i].2 < 256) (hm : l.length ≤ maxLen) (hp : Prs ao l w) : Calls Tryd.prog 5 #[.string ⟨s.toArray⟩, .slice ao l.length cp] w fun e w' => e = .returned (.bool true) ∧ Below w.heap.size w w' := by
  have HM := Lib.hid (fun wz => make_bytes 32 (by decide) wz)
  rw [show ((32 : Nat) : Int) = 32 from rfl, show List.replicate 32 (0 : UInt8) = zero32 from rfl] at HM
  have HCP := Lib.hid (fun wz => copy_pad s wz)
  have HCV := Lib.hid (fun wz => conv_pad (pad32 s) (pad32_len s) wz)
  have HPL := Lib.hid (pad32_len s)
  generalize pad32 s = P at *
  have HD := Lib.hid (show ∀ Q : (List UInt8), Q.length = 32 → ∀ wz, Wl w wz → Calls Tryd.prog 10 #[.string ⟨Q.toArray⟩] wz fun e w' => ∃ ao cp, e = .returned (.slice ao 67 cp) ∧ Ints ao (digL Q) w' ∧ Below wz.heap.size wz w' from fun Q hQ wz h => by
    have := C.d Q wz h.g (by rw [hQ]; decide)
    rw [show digC Q = digL Q from if_pos hQ, digL_len hQ] at this
    exact this)
  have HW := Lib.hid (works12_any C w hg)
  have HL := Lib.hid hl
  have HG0 := Lib.hid hg
  have HP := Lib.hid (fun wz (h : Wl w wz) => hp.below (Nat.le_refl _) h.o)
  have HG := Lib.hid (show Wl w w from ⟨hg, Below.refl _ _⟩)
  have hm2 : (l.length : Int) ≤ 9223372036854775807 := by unfold maxLen at hm; omega
  clear hg hl hp hm
  go_enter Tryd.func5, Tryd.ntmps5
  go_upto_region 3 with (go_at_call 12; with_reducible refine HW.out.mono ?_; rintro e w1 ⟨rfl, hb1⟩; have HG := Lib.hid (HG.out.next hb1); clear hb1)
  have hm := HM.out w1
  have hcp := HCP.out w1
  have hcv := HCV.out w1
  have K := Lib.hid (show ∃ Q : (List UInt8), Q.length = 32 ∧ Qb w w1.heap.size Q (w1.alloc (.cells (bytesC P).toArray 5)) from ⟨P, HPL.out, heap_alloc_new w1 _, HG.out.next (by0 w1 _)⟩)
  have HBB := Lib.hid HG.out.o.size
  generalize (bytesC zero32).toArray = ZC at *
  generalize hPC : (bytesC P).toArray = PC at *
  go_upto_region 6 with fail
  clear hm hcp hcv HG HM HCP HCV
  generalize w1.alloc (.cells PC 5) = w2 at *
  generalize w1.heap.size = b at *
  go_wp2
  go_loopw [7] (fun v7 wr => ∃ k : Nat, k ≤ l.length ∧ v7 = .int .i64 (k : Int) ∧ Hid (∃ Q : (List UInt8), Q.length = 32 ∧ Qb w b Q wr)) (fun v7 _ => l.length - (intOf v7).toNat)
  case atStart => exact ⟨0, Nat.zero_le _, rfl, K⟩
  case round =>
    clear K
    obtain ⟨k, hk, rfl, K⟩ := hrel
    have k0 : (0 : Int) ≤ (k : Int) := by omega
    by_cases hlt : k < l.length ∧ k < 10
    · obtain ⟨hl1, hl2⟩ := hlt
      have k1 : (k : Int) < (l.length : Int) := by omega
      have k2 : (k : Int) < 10 := by omega
      obtain ⟨Q, hQl, hQ⟩ := K.out
      obtain ⟨x1, y1⟩ := HL.out k hl1
      obtain ⟨pb, po, rfl, c1, c2⟩ := prs_get (HP.out _ hQ.k) hl1
      generalize l[k].1 = x at *
      generalize l[k].2 = y at *
      obtain ⟨j, hj⟩ : ∃ j, j = x % 32 := ⟨_, rfl⟩
      have e1 : (x : Int) % 32 = (j : Int) := by omega
      have j1 : (j : Int) < 32 := by omega
      have j0 : (0 : Int) ≤ (j : Int) := by omega
      have hjQ : j < Q.length := by omega
      obtain ⟨q, cb⟩ : ∃ q : Nat, wr.cell? ⟨b, j, none⟩ = some (.int .u8 (q : Int)) := ⟨_, bytes_cell hQ.h j hjQ⟩
      have fb := lit_free hQ.h j
      have K2 := Lib.hid (show ∃ Q' : (List UInt8), Q'.length = 32 ∧ Qb w b Q' (wr.setCell ⟨b, j, none⟩ (.int .u8 (y : Int))) from ⟨Q.set j (UInt8.ofNat y), by rw [List.length_set, hQl], by
        have hs := lit_set (k := j) (.int .u8 (y : Int)) hQ.h
        rw [show (y : Int) = ((UInt8.ofNat y).toNat : Int) by have := byte_mod y; omega] at hs ⊢
        rw [bytes_set] at hs
        exact hs, by
        have ho := hQ.k.o.setCell (p := ⟨b, j, none⟩) (show w.heap.size ≤ b from HBB.out) (.int .u8 (y : Int))
        exact ⟨HG0.out.below HG0.out.size ho, ho⟩⟩)
      clear hj hjQ hQ hQl
      go_wp2
      go_region
      have K3 := Lib.hid (show ∃ Q' : (List UInt8), Q'.length = 32 ∧ Qb w b Q' (wr.setCell ⟨b, j, none⟩ (.int .u8 (y : Int))).drew from K2.out.elim fun Q' h => ⟨Q', h.1, h.2.drew⟩)
      go_wp2
      go_roundw
      case rel => exact ⟨k + 1, hl1, by go_num, K3⟩
      case measure => simp [intOf]; omega
    · obtain ⟨Q, hQl, hQ⟩ := K.out
      have HX := Lib.hid (digL_len HPL.out)
      have HY := Lib.hid (digL_len hQl)
      have HXL := Lib.hid (digL_le HPL.out)
      have HYL := Lib.hid (digL_le hQl)
      have HLE := Lib.hid (lessN_67 HPL.out hQl)
      have HMO := Lib.hid (lessN_67 hQl HPL.out)
      have HD1 := Lib.hid (HD.out P HPL.out)
      have HD2 := Lib.hid (HD.out Q hQl)
      have hcv : ∀ wz : World, wz.heap[b]? = some (.cells (bytesC Q).toArray 5 (0, 0)) → (convert 31 9 (.slice (some ⟨b, 0, none⟩) 32 32)).run Tryd.prog wz = .ok (.string ⟨Q.toArray⟩) wz := fun wz h => by
        have := conv_bytes Q b 32 wz (fun j hj => bytes_cell h j hj)
        rwa [hQl] at this
      have hs0 : wr.heap[b]? = some (.cells (bytesC Q).toArray 5 (0, 0)) ∧ Wl w wr := ⟨hQ.h, hQ.k⟩
      have hs1 : wr.drew.heap[b]? = some (.cells (bytesC Q).toArray 5 (0, 0)) ∧ Wl w wr.drew := ⟨hQ.drew.h, hQ.drew.k⟩
      clear K hQ hPC HD HPL
      generalize (bytesC Q).toArray = QC at *
      generalize hX : digL P = X at *
      generalize hY : digL Q = Y at *
      clear hX hY
      rcases (show (k < l.length ∧ ¬ k < 10) ∨ ¬ k < l.length by omega) with ⟨h1, h2⟩ | h1
      · have k1 : (k : Int) < (l.length : Int) := by omega
        have k2 : ¬ (k : Int) < 10 := by omega
        clear hlt h1 h2 hk
        go_upto_region 10 with fail
        go_region_held3 (fun wz => wz.heap[b]? = some (.cells QC 5 (0, 0)) ∧ Wl w wz)
          (first | (with_reducible assumption))
          (first
            | (go_at_call 10; with_reducible refine (HD1.out _ (by with_reducible assumption : _ ∧ Wl w _).2).mono ?_; rintro e w3 ⟨a3, c3, rfl, hi3, hb3⟩; have hs3 := pair_next (by with_reducible assumption) hb3)
            | (go_at_call 10; with_reducible refine (HD2.out _ (by with_reducible assumption : _ ∧ Wl w _).2).mono ?_; rintro e w4 ⟨a4, c4, rfl, hi4, hb4⟩; have hs4 := pair_next (by with_reducible assumption) hb4))
        all_goals
          have KK := Lib.hid (show Ints a3 X w4 ∧ Ints a4 Y w4 ∧ (w4.heap[b]? = some (.cells QC 5 (0, 0)) ∧ Wl w w4) from ⟨hi3.next hb4, hi4, hs4⟩)
          clear hs0 hs1 hs3 hs4 hi3 hi4 hb3 hb4 HD1 HD2
          go_wp2
          go_loopw [10, 11, 12] (fun v10 v11 v12 wr => ∃ m : Nat, m ≤ 67 ∧ v12 = .int .i64 (m : Int) ∧ v10 = .bool (lessN X Y m) ∧ v11 = .bool (lessN Y X m) ∧ Hid (Ints a3 X wr ∧ Ints a4 Y wr ∧ (wr.heap[b]? = some (.cells QC 5 (0, 0)) ∧ Wl w wr))) (fun _ _ v12 _ => 67 - (intOf v12).toNat)
          case atStart => exact ⟨0, Nat.zero_le _, rfl, rfl, rfl, KK⟩
          case round =>
            clear KK
            obtain ⟨m, hm, rfl, rfl, rfl, KK⟩ := hrel
            by_cases hlt : m < 67
            · have mx : m < X.length := by have := HX.out; omega
              have my : m < Y.length := by have := HY.out; omega
              have x15 := HXL.out _ (List.getElem_mem mx)
              have y15 := HYL.out _ (List.getElem_mem my)
              have HS1 := Lib.hid (lessN_succ X Y m _ _ (List.getElem?_eq_getElem mx) (List.getElem?_eq_getElem my))
              have HS2 := Lib.hid (lessN_succ Y X m _ _ (List.getElem?_eq_getElem my) (List.getElem?_eq_getElem mx))
              obtain ⟨b1, o1, rfl, c1⟩ := KK.out.1.at mx
              obtain ⟨b2, o2, rfl, c2⟩ := KK.out.2.1.at my
              have HXM := Lib.hid (List.getElem?_eq_getElem mx)
              have HYM := Lib.hid (List.getElem?_eq_getElem my)
              generalize X[m] = x at *
              generalize Y[m] = y at *
              clear mx my
              have m0 : (0 : Int) ≤ (m : Int) := by omega
              have m1 : (m : Int) < 67 := by omega
              have x0 : ¬ (x : Int) < 0 := by omega
              have y0 : ¬ (y : Int) < 0 := by omega
              have x1 : ¬ (15 : Int) < (x : Int) := by omega
              have y1 : ¬ (15 : Int) < (y : Int) := by omega
              rcases Nat.lt_trichotomy x y with hxy | hxy | hxy
              · have t1 : (x : Int) < (y : Int) := by omega
                have t2 : ¬ (y : Int) < (x : Int) := by omega
                have u1 : decide (x < y) = true := by simp; omega
                have u2 : decide (y < x) = false := by simp; omega
                rw [u1] at HS1
                rw [u2] at HS2
                clear hxy
                cases hA : lessN X Y m <;> cases hB : lessN Y X m
                all_goals
                  rw [hA] at HS1
                  rw [hB] at HS2
                  clear hA hB
                  go_wp2
                  go_quiet (fail)
                  have KK := Lib.hid (rw_next KK.out (by0q _ nq))
                  generalize wr.drewN nq = wr at *
                  have c1 := KK.out.1.cell HXM.out
                  have c2 := KK.out.2.1.cell HYM.out
                  go_wp2
                  go_quiet (fail)
                  have KK := Lib.hid (rw_next KK.out (by0q _ nq))
                  go_wp2
                  go_roundw
                  case rel => exact ⟨m + 1, by omega, by go_num, by rw [HS1.out]; rfl, by rw [HS2.out]; rfl, KK⟩
                  case measure => simp [intOf]; omega
              · have t1 : ¬ (x : Int) < (y : Int) := by omega
                have t2 : ¬ (y : Int) < (x : Int) := by omega
                have u1 : decide (x < y) = false := by simp; omega
                have u2 : decide (y < x) = false := by simp; omega
                rw [u1] at HS1
                rw [u2] at HS2
                clear hxy
                cases hA : lessN X Y m <;> cases hB : lessN Y X m
                all_goals
                  rw [hA] at HS1
                  rw [hB] at HS2
                  clear hA hB
                  go_wp2
                  go_quiet (fail)
                  have KK := Lib.hid (rw_next KK.out (by0q _ nq))
                  generalize wr.drewN nq = wr at *
                  have c1 := KK.out.1.cell HXM.out
                  have c2 := KK.out.2.1.cell HYM.out
                  go_wp2
                  go_quiet (fail)
                  have KK := Lib.hid (rw_next KK.out (by0q _ nq))
                  go_wp2
                  go_roundw
                  case rel => exact ⟨m + 1, by omega, by go_num, by rw [HS1.out]; rfl, by rw [HS2.out]; rfl, KK⟩
                  case measure => simp [intOf]; omega
              · have t1 : ¬ (x : Int) < (y : Int) := by omega
                have t2 : (y : Int) < (x : Int) := by omega
                have u1 : decide (x < y) = false := by simp; omega
                have u2 : decide (y < x) = true := by simp; omega
                rw [u1] at HS1
                rw [u2] at HS2
                clear hxy
                cases hA : lessN X Y m <;> cases hB : lessN Y X m
                all_goals
                  rw [hA] at HS1
                  rw [hB] at HS2
                  clear hA hB
                  go_wp2
                  go_quiet (fail)
                  have KK := Lib.hid (rw_next KK.out (by0q _ nq))
                  generalize wr.drewN nq = wr at *
                  have c1 := KK.out.1.cell HXM.out
                  have c2 := KK.out.2.1.cell HYM.out
                  go_wp2
                  go_quiet (fail)
                  have KK := Lib.hid (rw_next KK.out (by0q _ nq))
                  go_wp2
                  go_roundw
                  case rel => exact ⟨m + 1, by omega, by go_num, by rw [HS1.out]; rfl, by rw [HS2.out]; rfl, KK⟩
                  case measure => simp [intOf]; omega
            · have m1 : ¬ (m : Int) < 67 := by omega
              have em : m = 67 := by omega
              subst em
              rw [HLE.out, HMO.out]
              have hcq := hcv _ KK.out.2.2.1
              by_cases hPQ : P = Q
              · subst hPQ
                go_wp2
                exact bodyPost_ret (v := .bool true) (by simp [results, Tryd.results5, go_sem]) rfl ⟨rfl, KK.out.2.2.2.o⟩
              · have hQP : ¬ Q = P := fun e => hPQ e.symm
                go_wp2
                exact bodyPost_ret (v := .bool true) (by simp [results, Tryd.results5, go_sem, hPQ]) rfl ⟨rfl, KK.out.2.2.2.o⟩
      · have k1 : ¬ (k : Int) < (l.length : Int) := by omega
        clear hlt h1 hk
        go_upto_region 10 with fail
        go_region_held3 (fun wz => wz.heap[b]? = some (.cells QC 5 (0, 0)) ∧ Wl w wz)
          (first | (with_reducible assumption))
          (first
            | (go_at_call 10; with_reducible refine (HD1.out _ (by with_reducible assumption : _ ∧ Wl w _).2).mono ?_; rintro e w3 ⟨a3, c3, rfl, hi3, hb3⟩; have hs3 := pair_next (by with_reducible assumption) hb3)
            | (go_at_call 10; with_reducible refine (HD2.out _ (by with_reducible assumption : _ ∧ Wl w _).2).mono ?_; rintro e w4 ⟨a4, c4, rfl, hi4, hb4⟩; have hs4 := pair_next (by with_reducible assumption) hb4))
        all_goals
          have KK := Lib.hid (show Ints a3 X w4 ∧ Ints a4 Y w4 ∧ (w4.heap[b]? = some (.cells QC 5 (0, 0)) ∧ Wl w w4) from ⟨hi3.next hb4, hi4, hs4⟩)
          clear hs0 hs1 hs3 hs4 hi3 hi4 hb3 hb4 HD1 HD2
          go_wp2
          go_loopw [10, 11, 12] (fun v10 v11 v12 wr => ∃ m : Nat, m ≤ 67 ∧ v12 = .int .i64 (m : Int) ∧ v10 = .bool (lessN X Y m) ∧ v11 = .bool (lessN Y X m) ∧ Hid (Ints a3 X wr ∧ Ints a4 Y wr ∧ (wr.heap[b]? = some (.cells QC 5 (0, 0)) ∧ Wl w wr))) (fun _ _ v12 _ => 67 - (intOf v12).toNat)
          case atStart => exact ⟨0, Nat.zero_le _, rfl, rfl, rfl, KK⟩
          case round =>
            clear KK
            obtain ⟨m, hm, rfl, rfl, rfl, KK⟩ := hrel
            by_cases hlt : m < 67
            · have mx : m < X.length := by have := HX.out; omega
              have my : m < Y.length := by have := HY.out; omega
              have x15 := HXL.out _ (List.getElem_mem mx)
              have y15 := HYL.out _ (List.getElem_mem my)
              have HS1 := Lib.hid (lessN_succ X Y m _ _ (List.getElem?_eq_getElem mx) (List.getElem?_eq_getElem my))
              have HS2 := Lib.hid (lessN_succ Y X m _ _ (List.getElem?_eq_getElem my) (List.getElem?_eq_getElem mx))
              obtain ⟨b1, o1, rfl, c1⟩ := KK.out.1.at mx
              obtain ⟨b2, o2, rfl, c2⟩ := KK.out.2.1.at my
              have HXM := Lib.hid (List.getElem?_eq_getElem mx)
              have HYM := Lib.hid (List.getElem?_eq_getElem my)
              generalize X[m] = x at *
              generalize Y[m] = y at *
              clear mx my
              have m0 : (0 : Int) ≤ (m : Int) := by omega
              have m1 : (m : Int) < 67 := by omega
              have x0 : ¬ (x : Int) < 0 := by omega
              have y0 : ¬ (y : Int) < 0 := by omega
              have x1 : ¬ (15 : Int) < (x : Int) := by omega
              have y1 : ¬ (15 : Int) < (y : Int) := by omega
              rcases Nat.lt_trichotomy x y with hxy | hxy | hxy
              · have t1 : (x : Int) < (y : Int) := by omega
                have t2 : ¬ (y : Int) < (x : Int) := by omega
                have u1 : decide (x < y) = true := by simp; omega
                have u2 : decide (y < x) = false := by simp; omega
                rw [u1] at HS1
                rw [u2] at HS2
                clear hxy
                cases hA : lessN X Y m <;> cases hB : lessN Y X m
                all_goals
                  rw [hA] at HS1
                  rw [hB] at HS2
                  clear hA hB
                  go_wp2
                  go_quiet (fail)
                  have KK := Lib.hid (rw_next KK.out (by0q _ nq))
                  generalize wr.drewN nq = wr at *
                  have c1 := KK.out.1.cell HXM.out
                  have c2 := KK.out.2.1.cell HYM.out
                  go_wp2
                  go_quiet (fail)
                  have KK := Lib.hid (rw_next KK.out (by0q _ nq))
                  go_wp2
                  go_roundw
                  case rel => exact ⟨m + 1, by omega, by go_num, by rw [HS1.out]; rfl, by rw [HS2.out]; rfl, KK⟩
                  case measure => simp [intOf]; omega
              · have t1 : ¬ (x : Int) < (y : Int) := by omega
                have t2 : ¬ (y : Int) < (x : Int) := by omega
                have u1 : decide (x < y) = false := by simp; omega
                have u2 : decide (y < x) = false := by simp; omega
                rw [u1] at HS1
                rw [u2] at HS2
                clear hxy
                cases hA : lessN X Y m <;> cases hB : lessN Y X m
                all_goals
                  rw [hA] at HS1
                  rw [hB] at HS2
                  clear hA hB
                  go_wp2
                  go_quiet (fail)
                  have KK := Lib.hid (rw_next KK.out (by0q _ nq))
                  generalize wr.drewN nq = wr at *
                  have c1 := KK.out.1.cell HXM.out
                  have c2 := KK.out.2.1.cell HYM.out
                  go_wp2
                  go_quiet (fail)
                  have KK := Lib.hid (rw_next KK.out (by0q _ nq))
                  go_wp2
                  go_roundw
                  case rel => exact ⟨m + 1, by omega, by go_num, by rw [HS1.out]; rfl, by rw [HS2.out]; rfl, KK⟩
                  case measure => simp [intOf]; omega
              · have t1 : ¬ (x : Int) < (y : Int) := by omega
                have t2 : (y : Int) < (x : Int) := by omega
                have u1 : decide (x < y) = false := by simp; omega
                have u2 : decide (y < x) = true := by simp; omega
                rw [u1] at HS1
                rw [u2] at HS2
                clear hxy
                cases hA : lessN X Y m <;> cases hB : lessN Y X m
                all_goals
                  rw [hA] at HS1
                  rw [hB] at HS2
                  clear hA hB
                  go_wp2
                  go_quiet (fail)
                  have KK := Lib.hid (rw_next KK.out (by0q _ nq))
                  generalize wr.drewN nq = wr at *
                  have c1 := KK.out.1.cell HXM.out
                  have c2 := KK.out.2.1.cell HYM.out
                  go_wp2
                  go_quiet (fail)
                  have KK := Lib.hid (rw_next KK.out (by0q _ nq))
                  go_wp2
                  go_roundw
                  case rel => exact ⟨m + 1, by omega, by go_num, by rw [HS1.out]; rfl, by rw [HS2.out]; rfl, KK⟩
                  case measure => simp [intOf]; omega
            · have m1 : ¬ (m : Int) < 67 := by omega
              have em : m = 67 := by omega
              subst em
              rw [HLE.out, HMO.out]
              have hcq := hcv _ KK.out.2.2.1
              by_cases hPQ : P = Q
              · subst hPQ
                go_wp2
                exact bodyPost_ret (v := .bool true) (by simp [results, Tryd.results5, go_sem]) rfl ⟨rfl, KK.out.2.2.2.o⟩
              · have hQP : ¬ Q = P := fun e => hPQ e.symm
                go_wp2
                exact bodyPost_ret (v := .bool true) (by simp [results, Tryd.results5, go_sem, hPQ]) rfl ⟨rfl, KK.out.2.2.2.o⟩
end Go.Proofs.YtdobmhbfadijoaaDoor
