/- The parents of a set. -/
import Derived.Test.YtblimejnjboedaaDoorJ8
namespace Go.Proofs.YtblimejnjboedaaDoor
open Go.RowKit Go.Sort

theorem nums_of_row {base : Nat} {v : Value} {L : List Nat} {w : World} (h : w.ownsRow base 33 1 v L.length (L.map encU)) : ∃ ao cap, v = .slice ao L.length cap ∧ Nums ao L w ∧ (∀ b off, ao = some ⟨b, off, none⟩ → base ≤ b ∧ some b = v.ownBlock) := by
  have h0 := h
  rcases h.2 with ⟨rfl, hl⟩ | ⟨g, cap, cur, rfl, h1, h2, h3, h4, h5, h6⟩
  · exact ⟨none, 0, by rw [hl], .inl (List.length_eq_zero_iff.1 hl), fun b off e => by cases e⟩
  · refine ⟨_, cap, rfl, .inr ⟨g, 0, rfl, (Array.getElem?_eq_some_iff.1 h2).1, fun i hi => ?_⟩, fun b off e => by cases e; exact ⟨h1, rfl⟩⟩
    have := h0.cellAt i (by simpa using hi)
    rw [Nat.zero_add]
    refine this.trans ?_
    simp [encU, hi]
set_option maxRecDepth 100000 in
set_option maxHeartbeats 2000000 in
theorem parents_any (b n : Nat) (K : List Nat) (w : World) (hs : SetU b n K w) (hn : n ≤ 100000) :
    Calls Tryd.prog 62 #[.map (some b)] w fun e w' => ∃ (v : Value) (L : List Nat), e = .returned v ∧ (∀ x, x ∈ L ↔ ∃ k ∈ K, k / 2 = x) ∧ (∀ x ∈ L, x < 18446744073709551616) ∧ L.length ≤ n ∧ w'.ownsRow w.heap.size 33 1 v L.length (L.map encU) ∧ Below w.heap.size w w' := by
  have HS := Lib.hid hs
  obtain ⟨B, hB⟩ : ∃ B, B = w.heap.size := ⟨_, rfl⟩
  have hbB : b < B := by have := hs.lt; omega
  obtain ⟨D, hown, hD⟩ := hs
  obtain ⟨i0, hi, hz0, hz1, hz2⟩ := info_parts infoU
  have hsz := hown.size_le
  obtain ⟨c, hc⟩ : ∃ c, Maps.size D = c := ⟨_, rfl⟩
  obtain ⟨w1, hrun, ho1, hg1⟩ := run_make_own (P := Tryd.prog) w B 22 33 i0 (.int .u64 0) 1 Tryd.underlying22 hi hz0 hz1 .i64 .i64 c (by rw [hz2]; omega) (by unfold maxLen; omega) (by omega)
  have HO1 := Lib.hid ho1
  have HG1 := Lib.hid hg1
  have HS1 := Lib.hid (HS.out.kept hg1 (by simp))
  clear hD hsz ho1 hg1 hi hz0 hz1 hz2
  go_enter Tryd.func62, Tryd.ntmps62
  go_wp2_with (first | (at_len; refine wpList_len_own _ rfl _ 70 rfl 33 109 Tryd.underlying70 unitElem b n D rfl hown ?_; rw [hc]) | (at_range; refine wpList_range_set _ rfl _ 70 rfl 109 keyU Tryd.underlying70 b n K rfl HS1.out ?_; intro w0 hrg0 hg0 hs0))
  obtain ⟨r, hr⟩ : ∃ r, r = w1.heap.size := ⟨_, rfl⟩
  rw [← hr] at hrg0 hs0 ⊢
  have hBr : B ≤ r := by have := HG1.out.size; omega
  have HR0 := Lib.hid hrg0
  have HG0 := Lib.hid (((Below.refl B w).grown HG1.out (by omega) (fun k e => by cases e)).grown hg0 (by omega) (fun k e => by cases e))
  have HV0 := Lib.hid (HO1.out.kept hg0 (Classical.em _))
  have hz0 : B ≤ w0.heap.size := by omega
  have HB := Lib.hid hB
  clear hrg0 hg0 hs0 hB hr hrun hown hc
  go_frame
  go_loopw [3] (fun v wr => ∃ V : List Nat, Hid (RangeU b r n K V wr) ∧ Hid (wr.ownsRow B 33 1 v (V.map (· / 2)).length ((V.map (· / 2)).map encU)) ∧ Hid (Below B w wr) ∧ Hid (B ≤ wr.heap.size)) (fun _ wr => wr.rangeLeft b r)
  case atStart => exact ⟨[], HR0, HV0, HG0, Lib.hid hz0⟩
  case round =>
    obtain ⟨V, HR, HV, HL, HZ⟩ := hrel
    have HSH := Lib.hid HR.out.short
    go_wp2_with (at_next; refine wpList_next_set _ rfl _ rfl keyU Tryd.underlying33 b r n K V rfl HR.out ?_ ?_)
    · intro hdone
      have HD := Lib.hid hdone
      clear hdone
      go_wp2
      go_ret
      refine ⟨_, V.map (· / 2), rfl, fun x => ?_, fun x hx => ?_, by rw [List.length_map]; exact HSH.out.1, by rw [← HB.out]; exact HV.out, by rw [← HB.out]; exact HL.out⟩
      · simp [HD.out]
      · obtain ⟨_, _, _, _, _, _, _, _, h6, _⟩ := HR.out
        obtain ⟨k, hk, rfl⟩ := List.mem_map.1 hx
        have := h6 k hk
        omega
    · intro x w2 hx64 hxK hxV hrg2 hlt2 hgr2 hsz2 hen
      have HM := Lib.hid hlt2
      have HR2 := Lib.hid hrg2
      have HZ2 := Lib.hid (show B ≤ w2.heap.size by have := HZ.out; omega)
      have HV2 := Lib.hid (HV.out.kept hgr2 (.inr (ranges_row HR.out HV.out).2.symm))
      have HC := Lib.hid (parent_any x hx64 w2)
      have HL2 := Lib.hid (HL.out.grown hgr2 (by have := HZ.out; omega) (fun k e => by cases e; exact hBr))
      have HE := Lib.hid (show V.map (· / 2) ++ [x / 2] = (V ++ [x]).map (· / 2) by simp)
      clear hlt2 hrg2 hgr2 hsz2 hxK hxV hx64
      generalize x / 2 = px at *
      go_wp2_with (first | (go_at_call 67; refine HC.out.mono ?_; rintro e w2 ⟨rfl, rfl⟩) |
          (at_builtin; refine append_num rfl _ _ rfl rfl rfl HV2.out (by have := HSH.out.1; rw [List.length_map]; omega) HZ2.out ?_; intro v3 w3 ho3 hg3; have HO3 := Lib.hid ho3; have HG3 := Lib.hid hg3; clear ho3 hg3))
      go_roundw
      case rel =>
        have hrr := ranges_row HR2.out HV2.out
        exact ⟨V ++ [x], Lib.hid (HR2.out.kept HG3.out hrr.1 hrr.2), Lib.hid (by rw [← HE.out]; exact HO3.out), Lib.hid (HL2.out.grown HG3.out HZ2.out (fun k e => row_low HV2.out (Nat.le_refl _) k e)), Lib.hid (by have := HG3.out.size; have := HZ2.out; omega)⟩
      case measure =>
        have hrr := ranges_row HR2.out HV2.out
        have hz := HR2.out
        have h1 : b < w2.heap.size := HR2.out.set.lt
        have h2 : r < w2.heap.size := by obtain ⟨_, _, _, h, _⟩ := HR2.out; exact h.lt
        rw [left_kept (HG3.out.block b h1 hrr.1) (HG3.out.block r h2 hrr.2)]
        exact HM.out
end Go.Proofs.YtblimejnjboedaaDoor
/- The levels: an iterator that hands its set over, and makes the parents of it. -/
namespace Go.Proofs.YtblimejnjboedaaDoor
open Go.RowKit Go.Sort
attribute [local go_sem] Oper.semAt_some

theorem clear_eq {b n : Nat} {K : List Nat} {w : World} (h : SetU b n K w) : ∃ w', (∀ ty, (Builtin.clear_ #[70] ty #[.map (some b)]).run Tryd.prog w = .ok (.tuple #[]) w') ∧ SetU b 0 [] w' ∧ w.grownBy w' (some b) ∧ w'.heap.size = w.heap.size := by
  obtain ⟨w', h1, h2⟩ := h.clear 70 Tryd.underlying70 0
  exact ⟨w', fun ty => h1, h2⟩
theorem set_next {m n k : Nat} {L L2 : List Nat} {w5 : World} (h : SetU m (0 + L2.length) ([] ++ L2) w5) (hl : L2.length ≤ n) (he : ∀ x, x ∈ L2 ↔ ∃ j ∈ upTo L k, j / 2 = x) : SetU m n (upTo L (k + 1)) w5 :=
  (h.mono (by omega)).of fun x => by rw [List.nil_append, he, mem_upTo_succ]
set_option maxRecDepth 100000 in
set_option maxHeartbeats 2000000 in
theorem levels_hands (b1 b2 : Nat) (ao : Option Addr) (cap : Nat) (L : List Nat) (d : Nat) (hL : ∀ x ∈ L, x < 18446744073709551616) (hn : L.length ≤ 100000) (hd : d ≤ 16) :
    HandsOwn Tryd.prog 60 #[.pointer (some ⟨b1, 0, none⟩), .pointer (some ⟨b2, 0, none⟩)] (fun m => #[.map (some m)]) [] (fun m k W => SetU m L.length (upTo L k) W) d
      (fun W => W.cell? ⟨b1, 0, none⟩ = some (.slice ao L.length cap) ∧ W.cell? ⟨b2, 0, none⟩ = some (.int .i64 (d : Int)) ∧ Nums ao L W) := by
  rintro l J W ⟨hc1, hc2, hN⟩ - hY h0
  obtain ⟨m, hm⟩ : ∃ m, m = W.heap.size := ⟨_, rfl⟩
  rw [← hm] at hY ⊢
  have hb1 : b1 < W.heap.size := World.block_lt_of_cell? W _ hc1
  have hb2 : b2 < W.heap.size := World.block_lt_of_cell? W _ hc2
  have HY := Lib.hid hY
  have HJ0 := Lib.hid h0
  have hS0 := SetAt.made Tryd.prog 33 W
  have hN0 : Nums ao L (W.alloc (.map #[] 0)) := hN.grown (World.grownBy_alloc W _ none) (fun _ _ _ => by simp)
  have hK0 : Kept (· ≠ m) W (W.alloc (.map #[] 0)) := (Kept.refl _ W).alloc _
  have hz0 : (W.alloc (.map #[] 0)).heap.size = m + 1 := by simp [hm]
  have d1 : (W.alloc (.map #[] 0)).cell? ⟨b1, 0, none⟩ = some (.slice ao L.length cap) := (World.cell?_alloc_lt _ _ _ hb1).trans hc1
  have d2 : (W.alloc (.map #[] 0)).cell? ⟨b2, 0, none⟩ = some (.int .i64 (d : Int)) := (World.cell?_alloc_lt _ _ _ hb2).trans hc2
  rw [← hm] at hS0
  have HG := Lib.hid (gather_any m 0 [] L ao cap _ hS0 hN0 hL (by omega))
  have HK0 := Lib.hid hK0
  have HZ0 := Lib.hid hz0
  have hmm := @run_makeMap Tryd.prog
  refine (callsIn_wide (n := 1)).1 ?_
  refine callsIn_of_wp Tryd.func60 rfl trivial ?_ rfl
  simp only [Tryd.ntmps60, List.size_toArray, List.length_cons, List.length_nil, Nat.reduceAdd, Nat.reduceSub, Array.replicate_succ, Array.replicate_zero, List.push_toArray, List.append_toArray, List.nil_append, List.cons_append]
  clear hY h0 hS0 hN0 hK0 hz0 hN hc1 hc2
  have HM := Lib.hid hm
  clear hm
  gi_wp2_with (refine ⟨trivial, ?_⟩; gi_at_call 61; rw [← HM.out]; refine (callsIn_wide.2 HG.out).mono ?_; rintro e w1 ⟨rfl, hs1, hg1⟩; have e2 := (World.cell?_of_block (a := ⟨b2, 0, none⟩) (hg1.block b2 (by rw [HZ0.out]; have := HM.out; omega) (fun e => by have := HM.out; cases e; omega))).trans d2; have HS1 := Lib.hid hs1; have HG1 := Lib.hid hg1; clear hs1 hg1)
  have hs1 := HS1.out
  rw [List.nil_append, Nat.zero_add] at hs1
  have HS := Lib.hid hs1
  have HK1 := Lib.hid (HK0.out.grown HG1.out (fun j e _ h => by cases e; exact h rfl))
  have HZ1 := Lib.hid (show m < w1.heap.size by have := HG1.out.size; have := HZ0.out; omega)
  clear hs1 HS1 HG1 HK0 HZ0 e2 d1 d2
  gi_loopw [11] (fun i wr => ∃ k : Nat, k ≤ d ∧ i = .int .i64 (k : Int) ∧ Hid (∃ W1, J k W1 ∧ Kept (· ≠ m) W1 wr) ∧ Hid (SetU m L.length (upTo L k) wr) ∧ Hid (m < wr.heap.size)) (fun i _ => d - (intOf i).toNat)
  case atStart => exact ⟨0, by omega, rfl, Lib.hid ⟨W, HJ0.out, HK1.out⟩, Lib.hid (by rw [upTo_zero]; exact HS.out), HZ1⟩
  case round =>
    obtain ⟨k, hk, rfl, HJ, HS, HZ⟩ := hrel
    by_cases hlt : k < d
    · have hl : (k : Int) < (d : Int) := by omega
      obtain ⟨W1, hj1, hk1⟩ := HJ.out
      have HY2 := HY.out k W1 wr hlt hj1 hk1 HZ.out HS.out
      clear hj1 hk1
      obtain ⟨fn, tmps, assign, body, hy, hR⟩ := HY2
      gi_wp2
      refine hR.mono ?_
      rintro e w2 ⟨rfl, hj2, hk2⟩
      clear hR hy
      have HJ2 := Lib.hid hj2
      have hs2 : SetU m L.length (upTo L k) w2 := HS.out.block (hk2.block m HZ.out (.inr rfl))
      have HP := Lib.hid (parents_any m L.length (upTo L k) w2 hs2 hn)
      have HS2 := Lib.hid hs2
      have HZ2 := Lib.hid hs2.lt
      clear hj2 hk2 hs2
      gi_wp2_with (first
        | (refine ⟨trivial, ?_⟩; gi_at_call 62; refine (callsIn_wide.2 HP.out).mono ?_; rintro e w3 ⟨v, L2, rfl, hm2, h64, hlen, hrow, hb3⟩;
           obtain ⟨w4, hclr, hs4, hg4, hz4⟩ := clear_eq (HS2.out.block (hb3.block m HZ2.out));
           obtain ⟨ao2, cap2, rfl, hn3, hfar⟩ := nums_of_row hrow;
           have HG2 := Lib.hid (gather_any m 0 [] L2 ao2 cap2 w4 hs4 (hn3.grown hg4 (fun b off e h => by have h1 := (hfar b off e).1; have h2 := HZ2.out; cases h; omega)) h64 (by omega));
           have HK4 := Lib.hid (((Kept.of_below hb3 (S := (fun x => x ≠ m ∧ x < w2.heap.size)) (fun j h => h.2)).grown hg4 (fun j e _ h => by cases e; exact h.1 rfl)).less (T := (· ≠ m)) (fun j hj h => ⟨h, hj⟩));
           have HM2 := Lib.hid hm2; have HLN := Lib.hid hlen; clear hm2 h64 hlen hrow hb3 hs4 hg4 hz4 hn3 hfar)
        | (refine ⟨trivial, ?_⟩; gi_at_call 61; refine (callsIn_wide.2 HG2.out).mono ?_; rintro e w5 ⟨rfl, hs5, hg5⟩; have HS5 := Lib.hid hs5; have HG5 := Lib.hid hg5; clear hs5 hg5))
      go_roundw
      case rel => exact ⟨k + 1, hlt, by go_num, Lib.hid ⟨w2, HJ2.out, HK4.out.grown HG5.out (fun j e _ h => by cases e; exact h rfl)⟩, Lib.hid (set_next HS5.out HLN.out HM2.out), Lib.hid HS5.out.lt⟩
      case measure => simp [intOf] <;> omega
    · have hl : ¬ (k : Int) < (d : Int) := by omega
      have hkd : k = d := by omega
      subst hkd
      gi_wp2
      go_end0
      exact ⟨⟨_, rfl⟩, HJ.out⟩
end Go.Proofs.YtblimejnjboedaaDoor
/- Is there a leaf that does not stand? -/
namespace Go.Proofs.YtblimejnjboedaaDoor
open Go.RowKit Go.Sort

theorem lacksf_any (k : Nat) (b3 : Nat) (d : Int) (w : World) (hc : w.cell? ⟨b3, 0, none⟩ = some (.int .i64 d)) : Calls Tryd.prog 34 #[.int .u64 (k : Int), .pointer (some ⟨b3, 0, none⟩)] w fun e w' => e = .returned (.bool (!standsB k d)) ∧ w = w' := by
  have HC := Lib.hid (stands_any k d w)
  generalize standsB k d = s at *
  go_enter Tryd.func34, Tryd.ntmps34
  go_wp2_with (go_at_call 35; refine HC.out.mono ?_; rintro e w' ⟨rfl, rfl⟩)
  go_ret
  exact ⟨rfl, rfl⟩
set_option maxRecDepth 100000 in
set_option maxHeartbeats 1000000 in
theorem index_any (ao : Option Addr) (cap : Nat) (L : List Nat) (b3 : Nat) (d : Int) (w : World) (hN : Nums ao L w) (hn : L.length ≤ 100000) (hc : w.cell? ⟨b3, 0, none⟩ = some (.int .i64 d)) :
    Calls Tryd.prog 59 #[.slice ao L.length cap, .func (.func 34) #[] #[.pointer (some ⟨b3, 0, none⟩)]] w fun e w' => ∃ r : Int, e = .returned (.int .i64 r) ∧ (0 ≤ r ↔ ∃ x ∈ L, standsB x d = false) ∧ w = w' := by
  have HN := Lib.hid hN
  have HC := Lib.hid hc
  have n1 : (L.length : Int) ≤ 100000 := by omega
  clear hN hc
  go_enter Tryd.func59, Tryd.ntmps59
  go_wp2
  go_loopw [8] (fun i wr => ∃ k : Nat, k ≤ L.length ∧ i = .int .i64 (k : Int) ∧ Hid (∀ x ∈ L.take k, standsB x d = true) ∧ w = wr) (fun i _ => (L.length : Int).toNat - (intOf i).toNat)
  case atStart => exact ⟨0, Nat.zero_le _, rfl, Lib.hid (by simp), rfl⟩
  case round =>
    obtain ⟨k, hk, rfl, HA, rfl⟩ := hrel
    by_cases hke : k = L.length
    · have hl : ¬ (k : Int) < (L.length : Int) := by omega
      have HE := Lib.hid (show ¬ ∃ x ∈ L, standsB x d = false by
        rintro ⟨x, hx, hs⟩
        have := HA.out x (by rw [hke, List.take_length]; exact hx)
        rw [hs] at this; cases this)
      clear hk hke
      go_wp2
      go_ret
      exact ⟨-1, rfl, ⟨fun h => absurd h (by decide), fun h => absurd h HE.out⟩, rfl⟩
    · have hkl : k < L.length := by omega
      have hl : (k : Int) < (L.length : Int) := by omega
      have i0 : (0 : Int) ≤ (k : Int) := by omega
      obtain ⟨x, hx⟩ : ∃ x, L[k] = x := ⟨_, rfl⟩
      have HX := Lib.hid hx
      rcases HN.out with h0 | ⟨bb, off, rfl, hbb, hcell⟩
      · subst h0; simp at hkl
      · have hcx : w.cell? ⟨bb, off + k, none⟩ = some (.int .u64 (x : Int)) := by rw [← hx]; exact hcell k hkl
        have HP := Lib.hid (lacksf_any x b3 d w HC.out)
        have HM := Lib.hid (show x ∈ L by rw [← hx]; exact List.getElem_mem hkl)
        clear hx hcell hke
        cases hs : standsB x d with
        | true =>
          rw [hs] at HP
          have HS := Lib.hid hs
          clear hs
          go_wp2_with (go_at_call 34; refine HP.out.mono ?_; rintro e w' ⟨rfl, rfl⟩)
          go_roundw
          case rel =>
            refine ⟨k + 1, hkl, by go_num, Lib.hid ?_, trivial⟩
            rw [← List.take_append_getElem hkl]
            intro y hy
            rcases List.mem_append.1 hy with h | h
            · exact HA.out y h
            · simp at h; subst h; rw [HX.out]; exact HS.out
          case measure => simp [intOf] <;> omega
        | false =>
          rw [hs] at HP
          have HS := Lib.hid hs
          clear hs
          go_wp2_with (go_at_call 34; refine HP.out.mono ?_; rintro e w' ⟨rfl, rfl⟩)
          go_ret
          exact ⟨_, rfl, ⟨fun _ => ⟨x, HM.out, HS.out⟩, fun _ => i0⟩, rfl⟩
theorem contains_any (ao : Option Addr) (cap : Nat) (L : List Nat) (b3 : Nat) (d : Int) (w : World) (hN : Nums ao L w) (hn : L.length ≤ 100000) (hc : w.cell? ⟨b3, 0, none⟩ = some (.int .i64 d)) :
    Calls Tryd.prog 36 #[.slice ao L.length cap, .func (.func 34) #[] #[.pointer (some ⟨b3, 0, none⟩)]] w fun e w' => e = .returned (.bool (L.any fun x => !standsB x d)) ∧ w = w' := by
  have HC := Lib.hid (index_any ao cap L b3 d w hN hn hc)
  have he : ∀ r : Int, (0 ≤ r ↔ ∃ x ∈ L, standsB x d = false) → decide (r ≥ 0) = L.any fun x => !standsB x d := by
    intro r hr
    rw [Bool.eq_iff_iff]
    simp [hr]
  have HE := Lib.hid he
  generalize (L.any fun x => !standsB x d) = y at *
  clear he hN hc
  go_enter Tryd.func36, Tryd.ntmps36
  go_wp2_with (go_at_call 59; refine HC.out.mono ?_; rintro e w1 ⟨r, rfl, hr, rfl⟩; have HR := Lib.hid hr; clear hr)
  go_ret
  exact ⟨by rw [← HE.out _ HR.out]; rfl, rfl⟩
theorem levels_any (ao : Option Addr) (n cap : Nat) (d : Int) (w : World) : Calls Tryd.prog 37 #[.slice ao n cap, .int .i64 d] w fun e w' => e = .returned (.func (.func 60) #[] #[.pointer (some ⟨w.heap.size, 0, none⟩), .pointer (some ⟨w.heap.size + 1, 0, none⟩)]) ∧ w' = (w.alloc (.cells #[.slice ao n cap] 22)).alloc (.cells #[.int .i64 d] 3) := by
  go_enter Tryd.func37, Tryd.ntmps37
  go_wp2
  go_ret
  exact ⟨by simp, rfl⟩
end Go.Proofs.YtblimejnjboedaaDoor
/- What is needed of some leaves: the program's answer. -/
namespace Go.Proofs.YtblimejnjboedaaDoor
open Go.RowKit Go.Sort
attribute [local go_sem] Oper.semAt_some

/-- needed, and no more than twelve -/
def Need12 (K N : List Nat) : Prop := Need K N ∧ N.length ≤ 12
/-- the needed ones of k levels: the variable at b4 holds a row of rows -/
def NeedsAt (base b4 : Nat) (L : List Nat) (k : Nat) (W : World) : Prop :=
  ∃ (v : Value) (vs : List Value) (Ms : List (List Nat)), W.heap[b4]? = some (.cells #[v] 42 (0, 0)) ∧ W.ownsRow base 22 1 v k vs ∧ Ms.length = k ∧
    ∀ (i : Nat) (x : Value) (N : List Nat), vs[i]? = some x → Ms[i]? = some N → W.ownsRow base 33 1 x N.length (N.map encU) ∧ Need12 (upTo L i) N
theorem NeedsAt.kept {S : Nat → Prop} {base b4 : Nat} {L : List Nat} {k : Nat} {W W' : World} (h : NeedsAt base b4 L k W) (hk : Kept S W W') (h4 : S b4) (hS : ∀ j, base ≤ j → S j) : NeedsAt base b4 L k W' := by
  obtain ⟨v, vs, Ms, h1, h2, h3, h5⟩ := h
  exact ⟨v, vs, Ms, (hk.block b4 (Array.getElem?_eq_some_iff.1 h1).1 h4).trans h1, own_kept h2 hk hS, h3, fun i x N hx hN => ⟨own_kept (h5 i x N hx hN).1 hk hS, (h5 i x N hx hN).2⟩⟩
theorem infoW : (Tryd.prog.info? 22).map (fun i => (i.zero, i.size, i.bytes)) = some (some (.slice none 0 0), 1, 24) := by kernel_rfl
theorem own_apart {w : World} {b1 b2 e1 e2 n m : Nat} {v x : Value} {xs ys : List Value} (h : w.ownsRow b1 e1 1 v n xs) (k : w.ownsRow b2 e2 1 x m ys) (hne : e1 ≠ e2) : x.ownBlock = none ∨ x.ownBlock ≠ v.ownBlock := by
  rcases k.2 with ⟨rfl, _⟩ | ⟨g, cap, cur, rfl, _, hg, _⟩
  · exact .inl rfl
  · refine .inr fun e => ?_
    rcases h.2 with ⟨rfl, _⟩ | ⟨g2, cap2, cur2, rfl, _, hg2, _⟩
    · cases e
    · cases e
      rw [hg] at hg2
      cases hg2
      exact hne rfl
theorem own_one {w : World} {b e n : Nat} {v : Value} {xs : List Value} (h : w.ownsRow b e 1 v n xs) : v.oneCell' = true := by
  rcases h.2 with ⟨rfl, _⟩ | ⟨g, cap, cur, rfl, _⟩ <;> rfl
/-- one level more: what the append and the store leave -/
theorem needs_step {lo b4 k : Nat} {L : List Nat} {W w1 : World} {v x : Value} {vs : List Value} {Ms : List (List Nat)} {N : List Nat} (h4 : b4 < lo) (hz : lo + 3 ≤ W.heap.size) (hk : k ≤ 100)
    (hcell : W.heap[b4]? = some (.cells #[v] 42 (0, 0))) (hown : W.ownsRow (lo + 3) 22 1 v k vs) (hMs : Ms.length = k)
    (hrows : ∀ (i : Nat) (x : Value) (N : List Nat), vs[i]? = some x → Ms[i]? = some N → W.ownsRow (lo + 3) 33 1 x N.length (N.map encU) ∧ Need12 (upTo L i) N)
    (hb : Below W.heap.size W w1) (hx : w1.ownsRow W.heap.size 33 1 x N.length (N.map encU)) (hN : Need12 (upTo L k) N) :
    ∃ (g cp : Nat) (w2 : World), (Builtin.append_ #[42, 42] 42 #[v, .slice (some ⟨w1.heap.size, 0, none⟩) 1 1]).run Tryd.prog (w1.alloc (.cells #[x] 22)) = .ok (.slice (some ⟨g, 0, none⟩) (k + 1) cp) w2 ∧
      w1.cell? ⟨b4, 0, none⟩ = some v ∧ w2.cell? ⟨b4, 0, none⟩ = some v ∧ w2.frozen? ⟨b4, 0, none⟩ = false ∧
      Kept (fun j => (j < lo ∧ j ∉ [b4]) ∨ (lo ≤ j ∧ j < lo + 3)) W (w2.setCell ⟨b4, 0, none⟩ (.slice (some ⟨g, 0, none⟩) (k + 1) cp)) ∧
      NeedsAt (lo + 3) b4 L (k + 1) (w2.setCell ⟨b4, 0, none⟩ (.slice (some ⟨g, 0, none⟩) (k + 1) cp)) := by
  obtain ⟨i0, hi, hz0, hz1, hz2⟩ := info_parts infoW
  have hsz := hb.size
  have kb : Kept (fun j => j < W.heap.size) W w1 := Kept.of_below hb fun j h => h
  have ka : Kept (fun j => j < W.heap.size) W (w1.alloc (.cells #[x] 22)) := kb.alloc _
  have ho1 : w1.ownsRow (lo + 3) 22 1 v k vs := by
    refine ⟨hown.1, ?_⟩
    rcases hown.2 with h | ⟨g, cap, cur, h0, h1, h2, h3⟩
    · exact .inl h
    · exact .inr ⟨g, cap, cur, h0, h1, (hb.block g (Array.getElem?_eq_some_iff.1 h2).1).trans h2, h3⟩
  obtain ⟨v2, w2, hrun, ho2, hg2, _⟩ := run_append_own (P := Tryd.prog) (w := w1.alloc (.cells #[x] 22)) (lo + 3) 42 42 22 i0 (.slice none 0 0) 1 24 Tryd.underlying42 hi hz0 hz1 hz2 rfl (by decide) v k vs (ho1.alloc _) ⟨w1.heap.size, 0, none⟩ 1 1 [x] rfl (cell_one_new _ _ _)
    (by intro u hu; simp at hu; subst hu; exact own_one hx) (by unfold maxLen; omega) (by omega) (by simp; omega)
  obtain ⟨g, cp, rfl⟩ := ownsRow_succ ho2
  have hv4 : ∀ j, some j = v.ownBlock → lo + 3 ≤ j := fun j e => (hown.lt j e.symm).1
  have kw : Kept (fun j => j < lo + 3) W w2 := (ka.less (fun j _ h => by omega)).grown hg2 (fun j e _ h => by have := hv4 j e; omega)
  have c2 : w2.heap[b4]? = some (.cells #[v] 42 (0, 0)) := (kw.block b4 (by omega) (by omega)).trans hcell
  have ks : Kept (fun j => (j < lo ∧ j ∉ [b4]) ∨ (lo ≤ j ∧ j < lo + 3)) W (w2.setCell ⟨b4, 0, none⟩ (.slice (some ⟨g, 0, none⟩) (k + 1) cp)) := (kw.less (fun j _ h => by rcases h with h | h <;> omega)).setCell b4 0 _ (fun _ h => h.elim (fun h => h.2 (by simp)) (fun h => by omega))
  refine ⟨g, cp, w2, hrun, by simp [World.cell?, (kb.block b4 (by omega) (by omega)).trans hcell], by simp [World.cell?, c2], by simp [World.frozen?, c2], ks, ?_⟩
  have hset : ∀ j, j ≠ b4 → (w2.setCell ⟨b4, 0, none⟩ (.slice (some ⟨g, 0, none⟩) (k + 1) cp)).heap[j]? = w2.heap[j]? := fun j hj => Below.heap_setCell _ _ _ _ (show j ≠ b4 from hj)
  have k2 : Kept (fun j => j ≠ b4) w2 (w2.setCell ⟨b4, 0, none⟩ (.slice (some ⟨g, 0, none⟩) (k + 1) cp)) := (Kept.refl _ w2).setCell b4 0 _ (fun _ h => h rfl)
  refine ⟨_, vs ++ [x], Ms ++ [N], ?_, own_kept ho2 k2 (fun j hj => by omega), by simp [hMs], ?_⟩
  · show (w2.heap.modify b4 _)[b4]? = _
    rw [Array.getElem?_modify, if_pos rfl, c2]
    rfl
  · intro i y N' hy hN'
    by_cases hik : i < k
    · have hvl : vs.length = k := by simpa using hown.1
      rw [List.getElem?_append_left (by omega)] at hy hN'
      have := hrows i y N' hy hN'
      have hr1 : w1.ownsRow (lo + 3) 33 1 y N'.length (N'.map encU) := by
        refine ⟨this.1.1, ?_⟩
        rcases this.1.2 with h | ⟨g, cap, cur, h0, h1, h2, h3⟩
        · exact .inl h
        · exact .inr ⟨g, cap, cur, h0, h1, (hb.block g (Array.getElem?_eq_some_iff.1 h2).1).trans h2, h3⟩
      have hr2 := (hr1.alloc (.cells #[x] 22)).kept hg2 (own_apart (w := w1.alloc (.cells #[x] 22)) (ho1.alloc _) (hr1.alloc _) (by decide))
      exact ⟨own_kept hr2 k2 (fun j hj => by omega), this.2⟩
    · have hvl : vs.length = k := by simpa using hown.1
      have hi : i = k := by
        have h := (List.getElem?_eq_some_iff.1 hy).1
        simp at h; omega
      subst hi
      rw [← hvl, List.getElem?_concat_length] at hy
      rw [← hMs, List.getElem?_concat_length] at hN'
      cases hy
      cases hN'
      have hr2 := (hx.alloc (.cells #[x] 22)).kept hg2 (own_apart (w := w1.alloc (.cells #[x] 22)) (ho1.alloc _) (hx.alloc _) (by decide))
      exact ⟨own_kept (row_base hr2 hz) k2 (fun j hj => by omega), hN⟩
theorem needed_sl (b n : Nat) (K : List Nat) (w : World) (hs : SetU b n K w) (hn : n ≤ 12) :
    Calls Tryd.prog 38 #[.map (some b)] w fun e w' => ∃ (ao : Option Addr) (cp : Nat) (N : List Nat), e = .returned (.slice ao N.length cp) ∧ Need12 K N ∧ w'.ownsRow w.heap.size 33 1 (.slice ao N.length cp) N.length (N.map encU) ∧ Below w.heap.size w w' := by
  refine (needed_any b n K w hs hn).mono ?_
  rintro e w' ⟨v, N, rfl, h1, h2, h3, h4⟩
  obtain ⟨ao, cp, rfl, _, _⟩ := nums_of_row h3
  exact ⟨ao, cp, N, rfl, ⟨h1, by omega⟩, h3, h4⟩
set_option maxRecDepth 100000 in
set_option maxHeartbeats 2000000 in
theorem needs_any (ao : Option Addr) (cap : Nat) (L : List Nat) (d : Nat) (w : World) (hN : Nums ao L w) (hL : ∀ x ∈ L, x < 18446744073709551616) (h0 : L ≠ []) (hn : L.length ≤ 12) (hs : ∀ x ∈ L, standsB x (d : Int) = true) (hd : d ≤ 16) :
    Calls Tryd.prog 18 #[.slice ao L.length cap, .int .i64 (d : Int)] w fun e w' => ∃ (v : Value) (vs : List Value) (Ms : List (List Nat)), e = .returned v ∧ w'.ownsRow w.heap.size 22 1 v d vs ∧ Ms.length = d ∧
      (∀ (i : Nat) (x : Value) (N : List Nat), vs[i]? = some x → Ms[i]? = some N → w'.ownsRow w.heap.size 33 1 x N.length (N.map encU) ∧ Need12 (upTo L i) N) ∧ Below w.heap.size w w' := by
  obtain ⟨B, hB⟩ : ∃ B, B = w.heap.size := ⟨_, rfl⟩
  have hlen : 0 < L.length := List.length_pos_iff.2 h0
  have hl0 : ((L.length : Int) == 0) = false := by rw [beq_eq_false_iff_ne]; omega
  obtain ⟨w1, hw1⟩ : ∃ w1, w.alloc (.cells #[.int .i64 (d : Int)] 3) = w1 := ⟨_, rfl⟩
  have hz1 : w1.heap.size = B + 1 := by rw [← hw1, World.size_alloc, hB]
  have hN1 : Nums ao L w1 := by rw [← hw1]; exact hN.grown (World.grownBy_alloc _ _ none) (fun _ _ _ => by simp)
  have hc1 : w1.cell? ⟨B, 0, none⟩ = some (.int .i64 (d : Int)) := by rw [← hw1, hB]; simp
  have hb1 : Below B w w1 := by rw [← hw1]; exact (Below.refl _ _).alloc (by omega) _
  obtain ⟨w2, hw2⟩ : ∃ w2, w1.alloc (.cells #[.slice none 0 0] 42) = w2 := ⟨_, rfl⟩
  have hz2 : w2.heap.size = B + 2 := by rw [← hw2, World.size_alloc, hz1]
  have hc2 : w2.cell? ⟨B, 0, none⟩ = some (.int .i64 (d : Int)) := by rw [← hw2]; exact (World.cell?_alloc_lt _ _ _ (by show B < _; omega)).trans hc1
  have hn2 : w2.heap[B + 1]? = some (.cells #[.slice none 0 0] 42 (0, 0)) := by rw [← hw2, ← hz1]; exact World.alloc_heap_new _ _
  have hb2 : Below B w w2 := by rw [← hw2]; exact hb1.alloc (by omega) _
  have hN2 : Nums ao L w2 := by rw [← hw2]; exact hN1.grown (World.grownBy_alloc _ _ none) (fun _ _ _ => by simp)
  obtain ⟨w3, hw3⟩ : ∃ w3, (w2.alloc (.cells #[.slice ao L.length cap] 22)).alloc (.cells #[.int .i64 (d : Int)] 3) = w3 := ⟨_, rfl⟩
  have hz3 : w3.heap.size = B + 4 := by rw [← hw3, World.size_alloc, World.size_alloc, hz2]
  have hk3 : Below (B + 2) w2 w3 := by rw [← hw3]; exact ((Below.refl _ _).alloc (by omega) _).alloc (by simp; omega) _
  have hq1 : w3.cell? ⟨B + 2, 0, none⟩ = some (.slice ao L.length cap) := by
    rw [← hw3, ← hz2]; exact (World.cell?_alloc_lt _ _ _ (by simp)).trans (by simp)
  have hq2 : w3.cell? ⟨B + 3, 0, none⟩ = some (.int .i64 (d : Int)) := by
    rw [← hw3, show B + 3 = (w2.alloc (.cells #[.slice ao L.length cap] 22)).heap.size by simp; omega]; simp
  have hb3 : Below B w w3 := hb2.trans (hk3.mono (by omega))
  have hn3 : w3.heap[B + 1]? = some (.cells #[.slice none 0 0] 42 (0, 0)) := (hk3.block _ (by omega)).trans hn2
  have hN3 : Nums ao L w3 := by
    rcases hN with h | ⟨b, off, rfl, h2, h3⟩
    · exact .inl h
    · exact .inr ⟨b, off, rfl, by omega, fun i hi => (hb3.cell (p := ⟨b, off + i, none⟩) (by show b < B; omega)).trans (h3 i hi)⟩
  have HC := Lib.hid (contains_any ao cap L B d w1 hN1 (by omega) hc1)
  have hany : (L.any fun x => !standsB x (d : Int)) = false := by
    rw [Bool.eq_false_iff]
    intro h
    obtain ⟨x, hx, hh⟩ := List.any_eq_true.1 h
    rw [hs x hx] at hh
    cases hh
  rw [hany] at HC
  have HV := Lib.hid (levels_any ao L.length cap (d : Int) w2)
  rw [hw3, hz2] at HV
  have HW := Lib.hid (And.intro hb3 (And.intro hn3 (And.intro hN3 (And.intro hq1 hq2))))
  have HB := Lib.hid hB
  have HZ3 := Lib.hid hz3
  have hB' : w.heap.size = B := hB.symm
  clear hany hN hN1 hN2 hN3 hb1 hb2 hb3 hn2 hn3 hq1 hq2 hk3 hc1 hw3 hB hz2 hz3
  refine calls_of_wp_marks Tryd.func18 rfl ?_
  simp only [Tryd.ntmps18, List.size_toArray, List.length_cons, List.length_nil, Nat.reduceAdd, Nat.reduceSub, Array.replicate_succ, Array.replicate_zero, List.push_toArray, List.append_toArray, List.nil_append, List.cons_append]
  go_wp2_with (first | (go_at_call 36; refine HC.out.mono ?_; rintro e w2 ⟨rfl, rfl⟩) | (go_at_call 37; refine HV.out.mono ?_; rintro e w2 ⟨rfl, rfl⟩))
  obtain ⟨hb3, hn3, hN3, hq1, hq2⟩ := HW.out
  refine wp_rangeFunc_own (gf := 60) (lb := #[.pointer (some ⟨B + 2, 0, none⟩), .pointer (some ⟨B + 3, 0, none⟩)]) rfl (enters_of Tryd.func60 (by kernel_rfl) rfl)
    (levels_hands (B + 2) (B + 3) ao cap L d hL (by omega) hd) (fun _ => rfl) (B + 4) HZ3.out ?ok (by simp) [B + 1] (by simp) (fun k W W' h e => h.block e)
    (fun k W => NeedsAt (B + 7) (B + 1) L k W ∧ B + 4 ≤ W.heap.size) ?keep ?start
    (fun m => { tmps := #[.slice ao L.length cap, .int .i64 (d : Int), undef, .pointer (some ⟨B, 0, none⟩), .slice none 0 0, .func (.func 34) #[] #[.pointer (some ⟨B, 0, none⟩)], .pointer (some ⟨B + 1, 0, none⟩), .map (some m),
      .func (.func 34) #[] #[.pointer (some ⟨B, 0, none⟩)], .slice ao L.length cap, .int .i64 (L.length : Int), .bool false, .bool false, .slice ao L.length cap, .func (.func 34) #[] #[.pointer (some ⟨B, 0, none⟩)], .bool false, .bool false,
      .slice ao L.length cap, .int .i64 (d : Int), .func (.func 60) #[] #[.pointer (some ⟨B + 2, 0, none⟩), .pointer (some ⟨B + 3, 0, none⟩)], .map (some m), undef, undef, undef, undef, undef, undef], defers := [] }) ?assign ?body ?done
  case ok =>
    intro W' hW'
    have hz := HZ3.out
    refine ⟨(hW'.cell (p := ⟨B + 2, 0, none⟩) (by show B + 2 < B + 4; omega)).trans hq1, (hW'.cell (p := ⟨B + 3, 0, none⟩) (by show B + 3 < B + 4; omega)).trans hq2, ?_⟩
    rcases hN3 with h | ⟨b, off, rfl, h2, h3⟩
    · exact .inl h
    · exact .inr ⟨b, off, rfl, by have := hW'.size; omega, fun i hi => (hW'.cell (p := ⟨b, off + i, none⟩) (by show b < B + 4; omega)).trans (h3 i hi)⟩
  case keep =>
    rintro k W W' ⟨h, hz⟩ hk
    exact ⟨h.kept hk (.inl (by omega)) (fun j hj => .inr (by omega)), by have := hk.size; omega⟩
  case start => exact ⟨⟨.slice none 0 0, [], [], hn3, World.ownsRow_nil _ _ _ _, rfl, fun i x N h => by simp at h⟩, by rw [HZ3.out]; omega⟩
  case assign =>
    intro l W K hK
    gi_wp2
    exact hK
  case body =>
    rintro l k W hkd hWz ⟨⟨v, vs, Ms, hcell, hown, hMs, hrows⟩, hz⟩ hset
    have hset2 : SetU (B + 4 + 2) L.length (upTo L k) W.drew := hset.block rfl
    have HND := Lib.hid (needed_sl (B + 4 + 2) L.length (upTo L k) W.drew hset2 hn)
    have hc4 : W.cell? ⟨B + 1, 0, none⟩ = some v := by simp [World.cell?, hcell]
    have HST := Lib.hid (fun (w1 : World) (x : Value) (N : List Nat) => needs_step (lo := B + 4) (b4 := B + 1) (k := k) (L := L) (W := W.drew) (w1 := w1) (v := v) (x := x) (vs := vs) (Ms := Ms) (N := N) (by omega) hWz (by omega) hcell (own_kept hown (Kept.refl _ W).drew (fun _ _ => trivial)) hMs
      (fun i x N hx hN => ⟨own_kept (hrows i x N hx hN).1 (S := fun _ => True) (Kept.refl _ W).drew (fun _ _ => trivial), (hrows i x N hx hN).2⟩))
    have hmo : Tryd.prog.follows .mixedOrders = true := by kernel_rfl
    clear hset hset2 hrows hown hcell
    gi_wp2
    refine wpIn_region_any hmo ?_
    change wpAnyIn _ _ _ _ _ _ _ _ _ (World.drew _)
    refine wpAnyIn_ready (rs := [0, 1]) (by kernel_rfl) (by simp) (AllReadyIn.cons rfl (fun K hK => ?_) (AllReadyIn.cons rfl (fun K hK => ?_) AllReadyIn.nil))
    · go_simp
      refine hK _ _ ?_
      clear hK K
      refine wpAnyIn_ready (rs := [1]) (by kernel_rfl) (by simp) (AllReadyIn.cons rfl (fun K hK => ?_) AllReadyIn.nil)
      go_simp
      refine hK _ _ ?_
      clear hK K
      refine wpAnyIn_ready (rs := [2]) (by kernel_rfl) (by simp) (AllReadyIn.cons rfl (fun K hK => ?_) AllReadyIn.nil)
      go_simp
      refine ⟨trivial, rfl, (CallsIn.inRound l (callsIn_wide.2 HND.out)).mono ?_⟩
      rintro e w1 ⟨ax, cx, N, rfl, hneed, hxrow, hbel⟩
      obtain ⟨g, cp, w2, hrun, e1, e2, e3, hkp, hat⟩ := HST.out w1 _ N hbel hxrow hneed
      have HKP := Lib.hid ((Kept.refl _ W).drew.trans hkp)
      have HAT := Lib.hid hat
      have e4 : (w1.alloc (.cells #[.slice ax N.length cx] 22)).cell? ⟨B + 1, 0, none⟩ = some v := (World.cell?_alloc_lt _ _ _ (World.block_lt_of_cell? w1 _ e1)).trans e1
      clear hkp hat hneed hxrow hbel
      refine hK _ _ ?_
      clear hK K
      refine wpAnyIn_ready (rs := [3]) (by kernel_rfl) (by simp) (AllReadyIn.cons rfl (fun K hK => ?_) AllReadyIn.nil)
      go_simp
      refine hK _ _ ?_
      clear hK K
      refine wpAnyIn_ready (rs := [4]) (by kernel_rfl) (by simp) (AllReadyIn.cons rfl (fun K hK => ?_) AllReadyIn.nil)
      refine step_append_in rfl _ _ 42 rfl rfl rfl hrun ?_
      go_frame
      refine hK _ _ ?_
      clear hK K
      refine wpAnyIn_ready (rs := [5]) (by kernel_rfl) (by simp) (AllReadyIn.cons rfl (fun K hK => ?_) AllReadyIn.nil)
      go_simp
      refine hK _ _ ?_
      clear hK K
      refine wpAnyIn_done (by kernel_rfl) ?_ _
      exact ⟨HKP.out, HAT.out, by have := HKP.out.size; omega⟩
    · go_simp
      refine hK _ _ ?_
      clear hK K
      refine wpAnyIn_ready (rs := [0, 2]) (by kernel_rfl) (by simp) (AllReadyIn.cons rfl (fun K hK => ?_) (AllReadyIn.cons rfl (fun K hK => ?_) AllReadyIn.nil))
      · go_simp
        refine hK _ _ ?_
        clear hK K
        refine wpAnyIn_ready (rs := [2]) (by kernel_rfl) (by simp) (AllReadyIn.cons rfl (fun K hK => ?_) AllReadyIn.nil)
        go_simp
        refine ⟨trivial, rfl, (CallsIn.inRound l (callsIn_wide.2 HND.out)).mono ?_⟩
        rintro e w1 ⟨ax, cx, N, rfl, hneed, hxrow, hbel⟩
        obtain ⟨g, cp, w2, hrun, e1, e2, e3, hkp, hat⟩ := HST.out w1 _ N hbel hxrow hneed
        have HKP := Lib.hid ((Kept.refl _ W).drew.trans hkp)
        have HAT := Lib.hid hat
        have e4 : (w1.alloc (.cells #[.slice ax N.length cx] 22)).cell? ⟨B + 1, 0, none⟩ = some v := (World.cell?_alloc_lt _ _ _ (World.block_lt_of_cell? w1 _ e1)).trans e1
        clear hkp hat hneed hxrow hbel
        refine hK _ _ ?_
        clear hK K
        refine wpAnyIn_ready (rs := [3]) (by kernel_rfl) (by simp) (AllReadyIn.cons rfl (fun K hK => ?_) AllReadyIn.nil)
        go_simp
        refine hK _ _ ?_
        clear hK K
        refine wpAnyIn_ready (rs := [4]) (by kernel_rfl) (by simp) (AllReadyIn.cons rfl (fun K hK => ?_) AllReadyIn.nil)
        refine step_append_in rfl _ _ 42 rfl rfl rfl hrun ?_
        go_frame
        refine hK _ _ ?_
        clear hK K
        refine wpAnyIn_ready (rs := [5]) (by kernel_rfl) (by simp) (AllReadyIn.cons rfl (fun K hK => ?_) AllReadyIn.nil)
        go_simp
        refine hK _ _ ?_
        clear hK K
        refine wpAnyIn_done (by kernel_rfl) ?_ _
        exact ⟨HKP.out, HAT.out, by have := HKP.out.size; omega⟩
      · go_simp
        refine ⟨trivial, rfl, (CallsIn.inRound l (callsIn_wide.2 HND.out)).mono ?_⟩
        rintro e w1 ⟨ax, cx, N, rfl, hneed, hxrow, hbel⟩
        obtain ⟨g, cp, w2, hrun, e1, e2, e3, hkp, hat⟩ := HST.out w1 _ N hbel hxrow hneed
        have HKP := Lib.hid ((Kept.refl _ W).drew.trans hkp)
        have HAT := Lib.hid hat
        have e4 : (w1.alloc (.cells #[.slice ax N.length cx] 22)).cell? ⟨B + 1, 0, none⟩ = some v := (World.cell?_alloc_lt _ _ _ (World.block_lt_of_cell? w1 _ e1)).trans e1
        clear hkp hat hneed hxrow hbel
        refine hK _ _ ?_
        clear hK K
        refine wpAnyIn_ready (rs := [0, 3]) (by kernel_rfl) (by simp) (AllReadyIn.cons rfl (fun K hK => ?_) (AllReadyIn.cons rfl (fun K hK => ?_) AllReadyIn.nil))
        · go_simp
          refine hK _ _ ?_
          clear hK K
          refine wpAnyIn_ready (rs := [3]) (by kernel_rfl) (by simp) (AllReadyIn.cons rfl (fun K hK => ?_) AllReadyIn.nil)
          go_simp
          refine hK _ _ ?_
          clear hK K
          refine wpAnyIn_ready (rs := [4]) (by kernel_rfl) (by simp) (AllReadyIn.cons rfl (fun K hK => ?_) AllReadyIn.nil)
          refine step_append_in rfl _ _ 42 rfl rfl rfl hrun ?_
          go_frame
          refine hK _ _ ?_
          clear hK K
          refine wpAnyIn_ready (rs := [5]) (by kernel_rfl) (by simp) (AllReadyIn.cons rfl (fun K hK => ?_) AllReadyIn.nil)
          go_simp
          refine hK _ _ ?_
          clear hK K
          refine wpAnyIn_done (by kernel_rfl) ?_ _
          exact ⟨HKP.out, HAT.out, by have := HKP.out.size; omega⟩
        · go_simp
          refine hK _ _ ?_
          clear hK K
          refine wpAnyIn_ready (rs := [0]) (by kernel_rfl) (by simp) (AllReadyIn.cons rfl (fun K hK => ?_) AllReadyIn.nil)
          go_simp
          refine hK _ _ ?_
          clear hK K
          refine wpAnyIn_ready (rs := [4]) (by kernel_rfl) (by simp) (AllReadyIn.cons rfl (fun K hK => ?_) AllReadyIn.nil)
          refine step_append_in rfl _ _ 42 rfl rfl rfl hrun ?_
          go_frame
          refine hK _ _ ?_
          clear hK K
          refine wpAnyIn_ready (rs := [5]) (by kernel_rfl) (by simp) (AllReadyIn.cons rfl (fun K hK => ?_) AllReadyIn.nil)
          go_simp
          refine hK _ _ ?_
          clear hK K
          refine wpAnyIn_done (by kernel_rfl) ?_ _
          exact ⟨HKP.out, HAT.out, by have := HKP.out.size; omega⟩
  case done =>
    rintro W ⟨⟨v, vs, Ms, hcell, hown, hMs, hrows⟩, hz⟩ hkept hdef
    have hc4 : W.cell? ⟨B + 1, 0, none⟩ = some v := by simp [World.cell?, hcell]
    have HR := Lib.hid (And.intro hown (And.intro hMs hrows))
    have HK := Lib.hid hkept
    have HH3 := Lib.hid hb3
    clear hcell hown hrows hkept
    go_wp2
    refine ⟨by simp, .inl ⟨_, _, rfl, run_takeDeferred hdef, ?_⟩⟩
    obtain ⟨hown, hMs', hrows⟩ := HR.out
    have kp : Kept (fun j => j ≠ B + 4) W (W.putObj (B + 4) (.deferred none)) := Kept.putObj _ _ _ _ (by simp)
    have hbw := (HK.out.trans (kp.less (T := fun j => j < B + 4 ∧ j ∉ [B + 1]) fun j _ h => by omega)).below (B := B) (by rw [HZ3.out]; omega) (fun j h => ⟨by omega, by simp; omega⟩)
    refine ⟨_, results_tmp rfl _ _ _, v, vs, Ms, rfl, row_base (own_kept hown kp fun j h => by omega) (by have := HB.out; omega), hMs', fun i x N hx hN => ⟨row_base (own_kept (hrows i x N hx hN).1 kp fun j h => by omega) (by have := HB.out; omega), (hrows i x N hx hN).2⟩, ?_⟩
    rw [← HB.out]
    exact HH3.out.trans hbw
end Go.Proofs.YtblimejnjboedaaDoor
