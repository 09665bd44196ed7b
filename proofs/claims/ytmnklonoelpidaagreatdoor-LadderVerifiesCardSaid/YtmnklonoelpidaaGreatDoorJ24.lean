/- Layer 11's small functions: do positions stand, is a text no digest, leaves, how many digests are needed. -/
import Derived.Test.YtmnklonoelpidaaGreatDoorJ22
import Derived.Test.YtmnklonoelpidaaGreatDoorJ1
import Derived.Test.YtmnklonoelpidaaGreatDoorJ10
import Derived.LoopTactic
import Derived.LoopN
namespace Go.Proofs.YtmnklonoelpidaaGreatDoor
open Go.RowKit Go.Sort

set_option maxRecDepth 100000 in
set_option maxHeartbeats 1000000 in
theorem ostand_any (ao : Option Addr) (cap : Nat) (P : List Nat) (n : Nat) (w : World) (hN : Nums ao P w) (hn : P.length ≤ 100000) (hnn : n ≤ 1000000) :
    Calls Tryz.prog 149 #[.slice ao P.length cap, .int .i64 (n : Int)] w fun e w' => e = .returned (.bool (standsP P n)) ∧ w = w' := by
  have hwn : IntKind.u64.wrap (n : Int) = (n : Int) := by rw [IntKind.wrap_u64]; omega
  have HN := Lib.hid hN
  have n1 : (P.length : Int) ≤ 100000 := by omega
  clear hN hnn
  go_enter Tryz.func149, Tryz.ntmps149
  go_wp2
  go_loopw [5, 6, 9] (fun _ _ vi wr => ∃ i : Nat, vi = .int .i64 (i : Int) ∧ i ≤ P.length ∧ Hid (∀ t (h : t < P.length), t < i → P[t] < n) ∧ Hid (∀ t (h : t + 1 < P.length), t + 1 < i → P[t] < P[t + 1]) ∧ w = wr) (fun _ _ vi _ => P.length - (intOf vi).toNat)
  case atStart => exact ⟨0, rfl, Nat.zero_le _, Lib.hid (fun t _ h => by omega), Lib.hid (fun t _ h => by omega), rfl⟩
  case round =>
    obtain ⟨i, rfl, hi, HA, HR, rfl⟩ := hrel
    by_cases hie : i < P.length
    · have hl : (i : Int) < (P.length : Int) := by omega
      have i0 : (0 : Int) ≤ (i : Int) := by omega
      have HN2 := HN.out
      obtain ⟨b, off, rfl, hc⟩ := nums_at HN2 i hie
      obtain ⟨x, hx⟩ : ∃ x, x = P[i] := ⟨_, rfl⟩
      rw [← hx] at hc
      by_cases hge : n ≤ x
      · have hg : (x : Int) ≥ (n : Int) := by omega
        have HS := Lib.hid (show standsP P n = false from decide_eq_false fun h => by have := h.2.2 x (by rw [hx]; exact List.getElem_mem hie); omega)
        clear hx hge HN2
        go_wp2
        go_ret
        exact ⟨by rw [HS.out]; trivial, rfl⟩
      · have hg : ¬ (x : Int) ≥ (n : Int) := by omega
        have HA2 := Lib.hid (show ∀ t (h : t < P.length), t < i + 1 → P[t] < n from fun t h ht => by
          by_cases c : t = i
          · subst c; rw [← hx]; omega
          · exact HA.out t h (by omega))
        by_cases hz : i = 0
        · have hp : ¬ (i : Int) > 0 := by omega
          have HR2 := Lib.hid (show ∀ t (h : t + 1 < P.length), t + 1 < i + 1 → P[t] < P[t + 1] from fun t _ h => by omega)
          clear hx hge hz HN2
          go_wp2
          go_roundw
          case rel => exact ⟨i + 1, by go_num, hie, HA2, HR2, trivial⟩
          case measure => simp [intOf] <;> omega
        · have hp : (i : Int) > 0 := by omega
          obtain ⟨j, hj⟩ : ∃ j, j + 1 = i := ⟨i - 1, by omega⟩
          have hsub : (i : Int) - 1 = (j : Int) := by omega
          have hl2 : (j : Int) < (P.length : Int) := by omega
          have j0 : (0 : Int) ≤ (j : Int) := by omega
          have hjl : j < P.length := by omega
          obtain ⟨b', off', e, hc'⟩ := nums_at HN2 j hjl
          cases e
          obtain ⟨y, hy⟩ : ∃ y, y = P[j] := ⟨_, rfl⟩
          rw [← hy] at hc'
          have HQ := Lib.hid (show (y < x → ∀ t (h : t + 1 < P.length), t + 1 < i + 1 → P[t] < P[t + 1]) ∧ (¬ y < x → standsP P n = false) from ⟨fun h t ht hti => by
            by_cases c : t = j
            · subst c; subst hj; rw [← hx, ← hy]; exact h
            · exact HR.out t ht (by omega), fun h => decide_eq_false fun hp => h (by have := lt_adj hp.2.1 j (by omega); subst hj; rw [hx, hy]; exact this)⟩)
          by_cases hxy : y < x
          · have hle : ¬ (x : Int) ≤ (y : Int) := by omega
            have HR2 := Lib.hid (HQ.out.1 hxy)
            clear hx hy hge hz hj HN2 hxy HQ
            go_wp2
            go_roundw
            case rel => exact ⟨i + 1, by go_num, hie, HA2, HR2, trivial⟩
            case measure => simp [intOf] <;> omega
          · have hle : (x : Int) ≤ (y : Int) := by omega
            have HS := Lib.hid (HQ.out.2 hxy)
            clear hx hy hge hz hj HN2 hxy HQ
            go_wp2
            go_ret
            exact ⟨by rw [HS.out]; trivial, rfl⟩
    · have hl : ¬ (i : Int) < (P.length : Int) := by omega
      have HS := Lib.hid (show standsP P n = decide (0 < P.length) from decide_eq_decide.2 ⟨fun h => List.length_pos_iff.2 h.1, fun h => ⟨List.length_pos_iff.1 h, adj_lt fun t ht => HR.out t ht (by omega), fun x hx => by
        obtain ⟨t, ht, rfl⟩ := List.getElem_of_mem hx
        exact HA.out t ht (by omega)⟩⟩)
      go_wp2
      go_ret
      exact ⟨by rw [HS.out]; rfl, rfl⟩
theorem isno_any (x : (List UInt8)) (w : World) (_ : x.length ≤ 1000000000) : Calls Tryz.prog 150 #[.string ⟨x.toArray⟩] w fun e w' => e = .returned (.bool (decide (x.length ≠ 32))) ∧ w = w' := by
  have HE := Lib.hid (show decide (x.length ≠ 32) = ((x.length : Int) != 32) by
    by_cases h : x.length = 32
    · simp [h]
    · have : (x.length : Int) ≠ 32 := by omega
      simp [h, this])
  go_enter Tryz.func150, Tryz.ntmps150
  go_wp2
  go_ret
  exact ⟨by rw [HE.out]; rfl, rfl⟩
set_option maxRecDepth 100000 in
set_option maxHeartbeats 1000000 in
theorem oindex_any (ao : Option Addr) (cap : Nat) (L : List (List UInt8)) (w : World) (hN : Strs ao L w) (hn : L.length ≤ 100000) (hl : ∀ i (h : i < L.length), L[i].length ≤ 1000000000) :
    Calls Tryz.prog 173 #[.slice ao L.length cap, .func (.func 150) #[] #[]] w fun e w' => ∃ r : Int, e = .returned (.int .i64 r) ∧ (0 ≤ r ↔ ∃ x ∈ L, x.length ≠ 32) ∧ w = w' := by
  have HN := Lib.hid hN
  have HL := Lib.hid hl
  have n1 : (L.length : Int) ≤ 100000 := by omega
  clear hN hl
  go_enter Tryz.func173, Tryz.ntmps173
  go_wp2
  go_loopw [5, 8] (fun _ i wr => ∃ k : Nat, k ≤ L.length ∧ i = .int .i64 (k : Int) ∧ Hid (∀ x ∈ L.take k, x.length = 32) ∧ w = wr) (fun _ i _ => (L.length : Int).toNat - (intOf i).toNat)
  case atStart => exact ⟨0, Nat.zero_le _, rfl, Lib.hid (by simp), rfl⟩
  case round =>
    obtain ⟨k, hk, rfl, HA, rfl⟩ := hrel
    by_cases hke : k = L.length
    · have hl : ¬ (k : Int) < (L.length : Int) := by omega
      have HE := Lib.hid (show ¬ ∃ x ∈ L, x.length ≠ 32 by
        rintro ⟨x, hx, hs⟩
        exact hs (HA.out x (by rw [hke, List.take_length]; exact hx)))
      clear hk hke
      go_wp2
      go_ret
      exact ⟨-1, rfl, ⟨fun h => absurd h (by decide), fun h => absurd h HE.out⟩, rfl⟩
    · have hkl : k < L.length := by omega
      have hl : (k : Int) < (L.length : Int) := by omega
      have i0 : (0 : Int) ≤ (k : Int) := by omega
      obtain ⟨bb, off, rfl, hcx⟩ := HN.out.cell k hkl
      have hxl := HL.out k hkl
      obtain ⟨x, hx⟩ : ∃ x, L[k] = x := ⟨_, rfl⟩
      rw [hx] at hcx hxl
      have HP := Lib.hid (isno_any x w hxl)
      have HM := Lib.hid (show x ∈ L by rw [← hx]; exact List.getElem_mem hkl)
      have HT := Lib.hid (show L.take k ++ [x] = L.take (k + 1) by rw [← hx, List.take_append_getElem hkl])
      clear hx hke hxl
      by_cases hs : x.length = 32
      · rw [decide_eq_false (fun h => h hs)] at HP
        have HS := Lib.hid hs
        clear hs
        go_wp2_with (go_at_call 150; refine HP.out.mono ?_; rintro e w' ⟨rfl, rfl⟩)
        go_roundw
        case rel =>
          refine ⟨k + 1, hkl, by go_num, Lib.hid ?_, trivial⟩
          rw [← HT.out]
          intro y hy
          rcases List.mem_append.1 hy with h | h
          · exact HA.out y h
          · simp at h; subst h; exact HS.out
        case measure => simp [intOf] <;> omega
      · rw [decide_eq_true hs] at HP
        have HS := Lib.hid hs
        clear hs
        go_wp2_with (go_at_call 150; refine HP.out.mono ?_; rintro e w' ⟨rfl, rfl⟩)
        go_ret
        exact ⟨_, rfl, ⟨fun _ => ⟨x, HM.out, HS.out⟩, fun _ => i0⟩, rfl⟩
theorem ocontains_any (ao : Option Addr) (cap : Nat) (L : List (List UInt8)) (w : World) (hN : Strs ao L w) (hn : L.length ≤ 100000) (hl : ∀ i (h : i < L.length), L[i].length ≤ 1000000000) :
    Calls Tryz.prog 148 #[.slice ao L.length cap, .func (.func 150) #[] #[]] w fun e w' => e = .returned (.bool (!all32 L)) ∧ w = w' := by
  have HC := Lib.hid (oindex_any ao cap L w hN hn hl)
  have HE := Lib.hid (show ∀ r : Int, (0 ≤ r ↔ ∃ x ∈ L, x.length ≠ 32) → decide (r ≥ 0) = !all32 L from fun r hr => by
    rw [Bool.eq_iff_iff, all32]
    simp [hr])
  generalize (!all32 L) = y at *
  clear hN hl
  go_enter Tryz.func148, Tryz.ntmps148
  go_wp2_with (go_at_call 173; refine HC.out.mono ?_; rintro e w1 ⟨r, rfl, hr, rfl⟩; have HR := Lib.hid hr; clear hr)
  go_ret
  exact ⟨by rw [← HE.out _ HR.out]; rfl, rfl⟩
set_option maxRecDepth 100000 in
set_option maxHeartbeats 1000000 in
theorem oleaves_any (ao : Option Addr) (cap : Nat) (P : List Nat) (d : Int) (w : World) (hN : Nums ao P w) (hn : P.length ≤ 100000) (hP : ∀ x ∈ P, x < 18446744073709551616) :
    Calls Tryz.prog 151 #[.slice ao P.length cap, .int .i64 d] w fun e w' => e = .returned (.slice (some ⟨w.heap.size, 0, none⟩) P.length P.length) ∧ w'.heap[w.heap.size]? = some (.cells (ups (P.map fun x => turnB x d) P.length).toArray 22 (0, 0)) ∧ Below w.heap.size w w' := by
  obtain ⟨i0, hi, hz0, hz1, hz2⟩ := info_parts infoU
  obtain ⟨n, hne⟩ : ∃ n, n = P.length := ⟨_, rfl⟩
  have hm : (Instr.makeSlice 44 (.int .i64 (n : Int)) (.int .i64 (n : Int))).run Tryz.prog w = .ok (.slice (some ⟨w.heap.size, 0, none⟩) n n) (w.alloc (.cells (ups [] n).toArray 22)) := by
    have h := run_make (P := Tryz.prog) w 44 22 i0 (.int .u64 0) Tryz.underlying44 hi hz0 .i64 .i64 (n : Int) (n : Int) (by omega) (by omega) (by rw [hz2]; omega) (by omega)
    rw [h, hz1, Int.toNat_natCast, Nat.mul_one, made_nums]
  obtain ⟨B, hB⟩ : ∃ B, B = w.heap.size := ⟨_, rfl⟩
  have HB0 := Lib.hid (show Below B w (w.alloc (.cells (ups [] n).toArray 22)) from by rw [hB]; exact by0 w _)
  have HN0 := Lib.hid (show (w.alloc (.cells (ups [] n).toArray 22)).heap[B]? = some (.cells (ups [] n).toArray 22 (0, 0)) from by rw [hB]; exact heap_alloc_new w _)
  rw [← hB] at hm
  have HM := Lib.hid hm
  have HN := Lib.hid hN
  have HP := Lib.hid hP
  have HB := Lib.hid hB
  have HE := Lib.hid hne
  have n1 : (n : Int) ≤ 100000 := by omega
  rw [show w.heap.size = B from hB.symm]
  simp only [show P.length = n from hne.symm]
  clear hm hN hP hB hn hi hz0 hz1 hz2 hne
  go_enter Tryz.func151, Tryz.ntmps151
  go_upto_region 1 with fail
  have hmm := HM.out
  go_upto_region 2 with fail
  clear hmm HM
  generalize w.alloc (.cells (ups [] n).toArray 22) = w1 at *
  go_wp2
  go_loopw [6, 7, 13] (fun _ _ vi wr => ∃ k : Nat, k ≤ n ∧ vi = .int .i64 (k : Int) ∧ Hid (wr.heap[B]? = some (.cells (ups ((P.take k).map fun x => turnB x d) n).toArray 22 (0, 0)) ∧ Below B w wr)) (fun _ _ vi _ => n - (intOf vi).toNat)
  case atStart => exact ⟨0, Nat.zero_le _, rfl, Lib.hid ⟨HN0.out, HB0.out⟩⟩
  case round =>
    obtain ⟨k, hk, rfl, HK⟩ := hrel
    by_cases hlt : k < n
    · have k0 : (0 : Int) ≤ (k : Int) := by omega
      have k1 : (k : Int) < (n : Int) := by omega
      have hkP : k < P.length := by rw [← HE.out]; exact hlt
      obtain ⟨b, off, rfl, hc⟩ := nums_at (nums_next HN.out (by rw [← HB.out]; exact HK.out.2)) k hkP
      obtain ⟨x, hx⟩ : ∃ x, x = P[k] := ⟨_, rfl⟩
      rw [← hx] at hc
      have HLY := Lib.hid (fun w => leaf_any x (by rw [hx]; exact HP.out _ (List.getElem_mem hkP)) d w)
      have hlk : ((P.take k).map fun x => turnB x d).length = k := by rw [List.length_map, List.length_take]; omega
      have HPT := Lib.hid (show ((P.take k).map fun x => turnB x d) ++ [turnB x d] = (P.take (k + 1)).map fun x => turnB x d by
        rw [← List.take_append_getElem hkP, List.map_append, hx]; rfl)
      have HUP := Lib.hid (ups_put (V := (P.take k).map fun x => turnB x d) (n := n) (x := turnB x d) (by rw [hlk]; exact hlt))
      rw [HPT.out, hlk] at HUP
      generalize turnB x d = y at *
      obtain ⟨old, hcj⟩ : ∃ old, wr.cell? ⟨B, k, none⟩ = some old := ⟨_, (lit_cell HK.out.1 k).trans (Array.getElem?_eq_getElem (by rw [List.size_toArray, ups_len (by rw [hlk]; omega)]; exact hlt))⟩
      have hfj := lit_free HK.out.1 k
      have HSET := Lib.hid (lit_set (k := k) (encU y) HK.out.1)
      rw [HUP.out] at HSET
      have HSB := Lib.hid (show Below B w (wr.setCell ⟨B, k, none⟩ (encU y)) from HK.out.2.setCell (show B ≤ B from Nat.le_refl _) _)
      clear hx hlk HPT HUP hkP
      go_wp2_with (go_at_call 99; refine (HLY.out _).mono ?_; rintro e w' ⟨rfl, rfl⟩)
      go_roundw
      case rel => exact ⟨k + 1, hlt, by go_num, Lib.hid ⟨HSET.out, HSB.out⟩⟩
      case measure => simp [intOf] <;> omega
    · have hkn : k = n := by omega
      have k1 : ¬ (k : Int) < (n : Int) := by omega
      have HF := Lib.hid (show wr.heap[B]? = some (.cells (ups (P.map fun x => turnB x d) n).toArray 22 (0, 0)) by
        have := HK.out.1
        rw [hkn] at this
        rwa [show P.take n = P from by rw [HE.out, List.take_length]] at this)
      clear hkn
      go_wp2
      go_ret
      exact ⟨rfl, HF.out, HK.out.2⟩
set_option maxRecDepth 100000 in
set_option maxHeartbeats 1000000 in
theorem osize_any (lo hi : Nat) (bo : Option Addr) (cp z : Nat) (M : List (List Nat)) (w : World) (hR : RowsIn lo hi bo M w) (hM : M.length ≤ 100) (hz : z ≤ 1000000000) (hN : ∀ N ∈ M, N.length ≤ 100000) :
    Calls Tryz.prog 152 #[.int .i64 (z : Int), .slice bo M.length cp] w fun e w' => e = .returned (.int .i64 (sizeE z (pre M M.length))) ∧ w = w' := by
  have HR := Lib.hid hR
  have HB := Lib.hid (fun i h => pre_bound hN i h)
  have HNN := Lib.hid hN
  have n1 : (M.length : Int) ≤ 100 := by omega
  have z1 : (z : Int) ≤ 1000000000 := by omega
  clear hR hN
  go_enter Tryz.func152, Tryz.ntmps152
  go_wp2
  go_loopw [5, 7, 10] (fun v5 _ vi wr => ∃ i : Nat, v5 = .int .i64 (pre M i : Int) ∧ vi = .int .i64 (i : Int) ∧ i ≤ M.length ∧ w = wr) (fun _ _ vi _ => M.length - (intOf vi).toNat)
  case atStart => exact ⟨0, by rw [pre_zero]; rfl, rfl, Nat.zero_le _, rfl⟩
  case round =>
    obtain ⟨i, rfl, rfl, hi, rfl⟩ := hrel
    by_cases hie : i < M.length
    · have hl : (i : Int) < (M.length : Int) := by omega
      have i0 : (0 : Int) ≤ (i : Int) := by omega
      rcases HR.out with h | ⟨b, rfl, _, _, h4⟩
      · rw [h] at hie; simp at hie
      · obtain ⟨ai, ci, hc, _⟩ := h4 i hie
        have hp := pre_succ hie
        have hb := HB.out i (by omega)
        have hnl := HNN.out _ (List.getElem_mem hie)
        have hb2 : 100000 * i ≤ 100000 * 100 := Nat.mul_le_mul (Nat.le_refl _) (by omega)
        have p1 : (pre M i : Int) ≤ 10000000 := by omega
        obtain ⟨N, hNe⟩ : ∃ N, N = M[i].length := ⟨_, rfl⟩
        rw [← hNe] at hc hp hnl
        have p2 : (N : Int) ≤ 100000 := by omega
        have HP := Lib.hid hp
        generalize pre M i = q at *
        clear h4 hNe hb hb2 hnl hp
        go_wp2
        go_roundw
        case rel => exact ⟨i + 1, by rw [HP.out]; go_num, by go_num, hie, trivial⟩
        case measure => simp [intOf] <;> omega
    · have hl : ¬ (i : Int) < (M.length : Int) := by omega
      have hb := HB.out i (by omega)
      have hb2 : 100000 * i ≤ 100000 * 100 := Nat.mul_le_mul (Nat.le_refl _) (by omega)
      have p1 : (pre M i : Int) ≤ 10000000 := by omega
      obtain rfl : i = M.length := by omega
      obtain ⟨q, hq⟩ : ∃ q, q = pre M M.length := ⟨_, rfl⟩
      rw [← hq] at p1 ⊢
      have HQ := Lib.hid hq
      clear hb hb2 hq
      by_cases h1 : z < q
      · have g1 : (z : Int) < (q : Int) := by omega
        have HE := Lib.hid (show sizeE z (pre M M.length) = 4 from if_pos (by rw [← HQ.out]; exact h1))
        clear h1
        go_wp2
        go_ret
        exact ⟨by rw [HE.out]; rfl, rfl⟩
      · by_cases h2 : q < z
        · have g1 : ¬ (z : Int) < (q : Int) := by omega
          have g2 : (z : Int) > (q : Int) := by omega
          have HE := Lib.hid (show sizeE z (pre M M.length) = 3 by rw [← HQ.out]; exact (if_neg h1).trans (if_pos h2))
          clear h1 h2
          go_wp2
          go_ret
          exact ⟨by rw [HE.out]; rfl, rfl⟩
        · have g1 : ¬ (z : Int) < (q : Int) := by omega
          have g2 : ¬ (z : Int) > (q : Int) := by omega
          have HE := Lib.hid (show sizeE z (pre M M.length) = 0 by rw [← HQ.out]; exact (if_neg h1).trans (if_neg h2))
          clear h1 h2
          go_wp2
          go_ret
          exact ⟨by rw [HE.out]; rfl, rfl⟩
end Go.Proofs.YtmnklonoelpidaaGreatDoor
/- Tables of texts under numbers: maps of uint64 to whatever holds just one text (a string, a struct with a string); ranged over, too. -/
namespace Go.Proofs.YtmnklonoelpidaaGreatDoor
open Go.RowKit Go.ChangeMaps Go.MapKept Go.WideShapes
open Go.Maps (Keyed)

/-- how an element that is a text reads; how it is laid -/
structure Shape (R : Value → Option (DataW Unit × List MemPlace)) (enc : (List UInt8) → Value) : Prop where
  lay : ∀ X, R (enc X) = some (.lit (.string X), [])
  all : ∀ v y, R v = some y → ∃ X, v = enc X
theorem Shape.inv {R : Value → Option (DataW Unit × List MemPlace)} {enc : (List UInt8) → Value} (h : Shape R enc) {v : Value} {X : (List UInt8)} {ps : List MemPlace} (e : R v = some (.lit (.string X), ps)) : v = enc X := by
  obtain ⟨Y, rfl⟩ := h.all v _ e
  rw [h.lay] at e
  simp at e
  rw [e.1]
section
variable {P : Program} {ku : TypeId} {R : Value → Option (DataW Unit × List MemPlace)} {enc : (List UInt8) → Value}

/-- block b is a table of the texts h, of the numbers of K alone; no more than n stores made it -/
def TabAt (P : Program) (ku : TypeId) (R : Value → Option (DataW Unit × List MemPlace)) (b n : Nat) (h : Nat → (List UInt8)) (K : List Nat) (w : World) : Prop :=
  ∃ D : DataW Unit, w.ownsMap P ku R b n D ∧ ∀ k : Nat, Maps.has D (lit k) = decide (k ∈ K) ∧ D.atKey (lit k) (.lit (.string [])) = .lit (.string (if k ∈ K then h k else []))
theorem TabAt.made (P : Program) (ku : TypeId) (R : Value → Option (DataW Unit × List MemPlace)) (h : Nat → (List UInt8)) (w : World) : TabAt P ku R w.heap.size 0 h [] (w.alloc (.map #[] 0)) :=
  ⟨.map [], World.ownsMap_made w _ _ _, fun k => by simp [Maps.has_eq, DataW.atKey]⟩
variable {b n : Nat} {h h' : Nat → (List UInt8)} {K K' V : List Nat} {w w' : World}
theorem TabAt.kept {row : Option Nat} (t : TabAt P ku R b n h K w) (hg : w.grownBy w' row) (hr : some b ≠ row) : TabAt P ku R b n h K w' := by
  obtain ⟨D, h1, h2⟩ := t
  exact ⟨D, h1.kept hg hr, h2⟩
theorem TabAt.next (t : TabAt P ku R b n h K w) (hb : Below w.heap.size w w') : TabAt P ku R b n h K w' :=
  t.kept (row := none) ⟨hb.os, hb.tape, hb.output, hb.size, fun j hj _ => hb.block j hj⟩ (by simp)
theorem TabAt.lt (t : TabAt P ku R b n h K w) : b < w.heap.size := by
  obtain ⟨D, h1, _⟩ := t
  exact h1.lt
theorem TabAt.mono {m : Nat} (t : TabAt P ku R b n h K w) (hm : n ≤ m) : TabAt P ku R b m h K w := by
  obtain ⟨D, h1, h2⟩ := t
  exact ⟨D, h1.mono hm, h2⟩
theorem TabAt.block (t : TabAt P ku R b n h K w) (e : w'.heap[b]? = w.heap[b]?) : TabAt P ku R b n h K w' := by
  obtain ⟨D, ⟨es, clock, h0, h1⟩, h2⟩ := t
  exact ⟨D, ⟨es, clock, e.trans h0, h1⟩, h2⟩
theorem TabAt.of (t : TabAt P ku R b n h K w) (e : ∀ x, x ∈ K ↔ x ∈ K') (eh : ∀ x ∈ K, h x = h' x) : TabAt P ku R b n h' K' w := by
  obtain ⟨D, h1, h2⟩ := t
  refine ⟨D, h1, fun k => ?_⟩
  obtain ⟨a1, a2⟩ := h2 k
  refine ⟨by rw [a1]; exact decide_eq_decide.2 (e k), ?_⟩
  rw [a2]
  by_cases c : k ∈ K
  · rw [if_pos c, if_pos ((e k).1 c), eh k c]
  · rw [if_neg c, if_neg (fun d => c ((e k).2 d))]
theorem TabAt.look (S : Shape R enc) {t e : TypeId} (T : TabAt P ku R b n h K w) (KU : Keyed P ku) (hk : P.underlying ku = some (.int .u64)) (ht : P.underlying t = some (.map ku e)) (hz : (zeroValue e).run P w = .ok (enc []) w) {k : Nat} (hk64 : k < 18446744073709551616) :
    (Instr.lookup t (.map (some b)) (.int .u64 (k : Int)) false).run P w = .ok (enc (if k ∈ K then h k else [])) w := by
  obtain ⟨D, hown, hD⟩ := T
  obtain ⟨v, ps, hrun, hat⟩ := hown.lookup KU ht hz (S.lay []) (Maps.keyOf_int_mk hk (lit_wf hk64))
  obtain ⟨a1, a2⟩ := hD k
  rw [show Lit.int .u64 (k : Int) = lit k from rfl] at hat
  rw [a2] at hat
  rw [hrun, S.inv hat]
theorem tab_put {D : DataW Unit} (hm : Maps.IsMap D) {h : Nat → (List UInt8)} {K : List Nat} (hD : ∀ k : Nat, Maps.has D (lit k) = decide (k ∈ K) ∧ D.atKey (lit k) (.lit (.string [])) = .lit (.string (if k ∈ K then h k else []))) (x : Nat) (k : Nat) :
    Maps.has (D.put (lit x) (.lit (.string (h x)))) (lit k) = decide (k ∈ K ++ [x]) ∧ (D.put (lit x) (.lit (.string (h x)))).atKey (lit k) (.lit (.string [])) = .lit (.string (if k ∈ K ++ [x] then h k else [])) := by
  by_cases e : k = x
  · subst e
    rw [Maps.has_put_same hm (lit_key k), Maps.atKey_put_same hm (lit_key k)]
    simp
  · rw [Maps.has_put_other (fun c => e (lit_inj.1 c)), Maps.atKey_put_other (fun c => e (lit_inj.1 c))]
    obtain ⟨a1, a2⟩ := hD k
    rw [a1, a2]
    simp [e]
theorem TabAt.put (S : Shape R enc) {t e : TypeId} (T : TabAt P ku R b n h K w) (KU : Keyed P ku) (hk : P.underlying ku = some (.int .u64)) (ht : P.underlying t = some (.map ku e)) (hn : n ≤ 100000) {x : Nat} (hx : x < 18446744073709551616) :
    ∃ w', (Instr.mapUpdate t (.map (some b)) (.int .u64 (x : Int)) (enc (h x))).run P w = .ok () w' ∧ TabAt P ku R b (n + 1) h (K ++ [x]) w' ∧ w.grownBy w' (some b) := by
  obtain ⟨D, hown, hD⟩ := T
  obtain ⟨w', h1, h2, h3⟩ := hown.update KU ht (by unfold maxLen; omega) (Maps.keyOf_int_mk hk (lit_wf hx)) (S.lay (h x))
  exact ⟨w', h1, ⟨_, h2, tab_put hown.isMap hD x⟩, h3⟩
/-- a table that is being ranged over: those of V have come -/
def RangeTab (P : Program) (ku : TypeId) (R : Value → Option (DataW Unit × List MemPlace)) (b r n : Nat) (h : Nat → (List UInt8)) (K V : List Nat) (w : World) : Prop :=
  ∃ (D : DataW Unit) (left : Lit → Bool) (cnt : Nat), w.ranges P ku R b r n D left cnt ∧ (∀ k : Nat, Maps.has D (lit k) = decide (k ∈ K) ∧ D.atKey (lit k) (.lit (.string [])) = .lit (.string (if k ∈ K then h k else []))) ∧ (∀ k : Nat, left (lit k) = decide (k ∈ K ∧ k ∉ V)) ∧ V.Nodup ∧ (∀ x ∈ V, x ∈ K) ∧ (∀ x ∈ V, x < 18446744073709551616) ∧ V.length + cnt ≤ n
theorem RangeTab.tab {r : Nat} (t : RangeTab P ku R b r n h K V w) : TabAt P ku R b n h K w := by
  obtain ⟨D, left, cnt, h1, h2, _⟩ := t
  exact ⟨D, h1.owns, h2⟩
theorem RangeTab.kept {r : Nat} {row : Option Nat} (t : RangeTab P ku R b r n h K V w) (hg : w.grownBy w' row) (hb : some b ≠ row) (hr : some r ≠ row) : RangeTab P ku R b r n h K V w' := by
  obtain ⟨D, left, cnt, h1, h2⟩ := t
  exact ⟨D, left, cnt, h1.kept hg hb hr, h2⟩
theorem RangeTab.left {r : Nat} (t : RangeTab P ku R b r n h K V w) : ∃ cnt, w.rangeLeft b r = cnt ∧ V.length + cnt ≤ n := by
  obtain ⟨D, left, cnt, h1, _, _, _, _, _, h3⟩ := t
  exact ⟨cnt, h1.left_eq, h3⟩
end

section
variable {P : Program} {ku : TypeId} {R : Value → Option (DataW Unit × List MemPlace)} {enc : (List UInt8) → Value}
variable (w : World) {ops : Array Oper} {rest : List Oper} {o : Oper} {a : Act} {Q : Exit → Act → World → Prop}
theorem wpList_range_tab (hg : o.guard = none) (m : Operand) (t : TypeId) (hop : o.op = Op.range t m) (e : TypeId) (KU : Keyed P ku) (ht : P.underlying t = some (.map ku e)) (b n : Nat) (h : Nat → (List UInt8)) (L : List Nat)
    (hm : a.eval m = .map (some b)) (hset : TabAt P ku R b n h L w)
    (hK : ∀ w', RangeTab P ku R b w.heap.size n h L [] w' → w.grownBy w' none → w'.heap.size = w.heap.size + 1 → wpList P ops Q rest (a.put o.dst (.pointer (some ⟨w.heap.size, 0, none⟩))) w') :
    wpList P ops Q (o :: rest) a w := by
  obtain ⟨D, h1, h2⟩ := hset
  refine wpList_range_own w hg m t hop ku e KU ht R b n D hm h1 fun w' hr hg' hs => hK w' ⟨D, _, _, hr, h2, fun k => by rw [(h2 k).1]; simp, List.nodup_nil, by simp, by simp, by simpa using h1.size_le⟩ hg' hs
theorem wpList_next_tab (S : Shape R enc) (hg : o.guard = none) (it : Operand) (hop : o.op = Op.next it false) (KU : Keyed P ku) (hk : P.underlying ku = some (.int .u64)) (b r n : Nat) (h : Nat → (List UInt8)) (L V : List Nat)
    (hit : a.eval it = .pointer (some ⟨r, 0, none⟩)) (T : RangeTab P ku R b r n h L V w)
    (hDone : (∀ x, x ∈ L ↔ x ∈ V) → wpList P ops Q rest (a.put o.dst (.tuple #[.bool false])) w)
    (hMore : ∀ (x : Nat) (w' : World), x < 18446744073709551616 → x ∈ L → x ∉ V → RangeTab P ku R b r n h L (V ++ [x]) w' → w'.rangeLeft b r < w.rangeLeft b r → w.grownBy w' (some r) → w'.heap.size = w.heap.size →
      (Instr.entry (.pointer (some ⟨r, 0, none⟩))).run P w' = .ok (.tuple #[.int .u64 (x : Int), enc (h x)]) w' → wpList P ops Q rest (a.put o.dst (.tuple #[.bool true, .int .u64 (x : Int), enc (h x)])) w') :
    wpList P ops Q (o :: rest) a w := by
  obtain ⟨D, left, cnt, h1, h2, h3, h4, h5, h6, h7⟩ := T
  refine wpList_next_ranges w hg it hop ku KU R (Value.int .u64) enc (fun key kl hkey => by obtain ⟨x, rfl, _⟩ := Maps.keyOf_int_inv hk hkey; exact ⟨x, rfl⟩)
    (fun v y hv => S.all v y hv) b r n D left cnt hit h1 (fun h0 hl => hDone fun x => ⟨fun hx => ?_, fun hx => h5 x hx⟩) (fun z c kl y w' cnt' hkey hlk hv hat hrg hlt hgr hsz hen => ?_)
  · have := hl (lit x)
    rw [h3] at this
    simpa [hx] using this
  · obtain ⟨z', ez, rfl, hw⟩ := Maps.keyOf_int_inv hk hkey
    cases ez
    obtain ⟨x, rfl, hx⟩ := lit_of hw
    have hxl : x ∈ L ∧ x ∉ V := by
      have := h3 x
      rw [show left (lit x) = true from hlk] at this
      simpa using this
    have hc : c = h x := by
      have e1 := hat (.lit (.string []))
      rw [S.lay] at hv
      cases hv
      rw [show Lit.int .u64 (x : Int) = lit x from rfl, (h2 x).2, if_pos hxl.1] at e1
      simpa using e1.symm
    subst hc
    refine hMore x w' hx hxl.1 hxl.2 ⟨D, _, cnt', hrg, h2, fun k => ?_, ?_, ?_, ?_, by simp; omega⟩ (by rw [hrg.left_eq, h1.left_eq]; exact hlt) hgr hsz hen
    · rw [h3, show Lit.sameKey (lit k) (Lit.int .u64 (x : Int)) = (lit k).sameKey (lit x) from rfl, lit_same]
      by_cases e : k = x <;> simp [e]
    · rw [List.nodup_append]
      exact ⟨h4, by simp, fun a ha b hb => by simp at hb; subst hb; exact fun e => hxl.2 (e ▸ ha)⟩
    · intro y hy
      rcases List.mem_append.1 hy with h | h
      · exact h5 y h
      · simp at h; subst h; exact hxl.1
    · intro y hy
      rcases List.mem_append.1 hy with h | h
      · exact h6 y h
      · simp at h; subst h; exact hx
end
end Go.Proofs.YtmnklonoelpidaaGreatDoor
/- Layer 11: tables of places; what is shown of the leaves; a pair's parent. -/
namespace Go.Proofs.YtmnklonoelpidaaGreatDoor
open Go.RowKit Go.Sort Go.WideShapes Go.MapKept
open Go.Maps (Keyed)

/-- how an element of one text reads -/
def plcElem : Value → Option (DataW Unit × List MemPlace)
  | .agg cs => match cs.toList with
    | [.string s] => some (.lit (.string s.data.toList), [])
    | _ => none
  | _ => none
abbrev plcEnc (X : (List UInt8)) : Value := .agg #[.string ⟨X.toArray⟩]
theorem plcShape : Shape plcElem plcEnc := by
  refine ⟨fun X => by simp [plcElem], fun v y h => ?_⟩
  unfold plcElem at h
  cases v <;> simp at h
  rename_i cs
  rcases cs with ⟨l⟩
  rcases l with _ | ⟨a, _ | ⟨b, l⟩⟩ <;> simp at h
  · cases a <;> simp at h
    rename_i s
    exact ⟨s.data.toList, by simp [plcEnc]⟩
abbrev TabM (b n : Nat) (h : Nat → (List UInt8)) (K : List Nat) (w : World) : Prop := TabAt Tryz.prog 22 plcElem b n h K w
abbrev RngM (b r n : Nat) (h : Nat → (List UInt8)) (K V : List Nat) (w : World) : Prop := RangeTab Tryz.prog 22 plcElem b r n h K V w
theorem make_hint (z : Int) (w : World) : (Instr.makeMap 196 (some (.int .i64 z))).run Tryz.prog w = .ok (.map (some w.heap.size)) (w.alloc (.map #[] 0)) := by
  simp [Instr.makeMap, run_underlying Tryz.underlying196, asInt, asIntOf, Result.andThen]
theorem tab_put_ok {b n : Nat} {h : Nat → (List UInt8)} {K : List Nat} {w : World} (T : TabM b n h K w) (hn : n ≤ 100000) {x : Nat} (hx : x < 18446744073709551616) :
    ∃ w', (Instr.mapUpdate 196 (.map (some b)) (.int .u64 (x : Int)) (.agg #[.string ⟨(h x).toArray⟩])).run Tryz.prog w = .ok () w' ∧ TabM b (n + 1) h (K ++ [x]) w' ∧ w.grownBy w' (some b) :=
  T.put plcShape keyU Tryz.underlying22 Tryz.underlying196 hn hx
theorem tab_look {b n : Nat} {h : Nat → (List UInt8)} {K : List Nat} {w : World} (T : TabM b n h K w) {k : Nat} (hk : k < 18446744073709551616) :
    (Instr.lookup 196 (.map (some b)) (.int .u64 (k : Int)) false).run Tryz.prog w = .ok (.agg #[.string ⟨(if k ∈ K then h k else []).toArray⟩]) w :=
  T.look plcShape keyU Tryz.underlying22 Tryz.underlying196 (Tryz.zeroValue193 _) hk
theorem leaf_at (X : (List UInt8)) (wz : World) (sz : Nat) (hg : Glob wz) (hz : sz = wz.heap.size) (hX : X.length ≤ 10000000) : Calls Tryz.prog 41 #[.string ⟨#[108, 101, 97, 102]⟩, .slice (some ⟨sz, 0, none⟩) 1 1] (wz.alloc (.cells #[.string ⟨X.toArray⟩] 9)) fun e w' => e = .returned (.string ⟨(hashL leafT [X]).toArray⟩) ∧ Below wz.heap.size wz w' := by
  subst hz
  exact hash1_any leafT X wz hg (by decide) hX
set_option maxRecDepth 100000 in
set_option maxHeartbeats 1000000 in
theorem shown_any (ao bo : Option Addr) (ca cb : Nat) (LV : List Nat) (E : List (List UInt8)) (f : Nat → (List UInt8)) (w : World) (hg : Glob w) (hP : Nums ao LV w) (hE : Strs bo E w) (hl : E.length = LV.length) (hf : ∀ i (h : i < LV.length) (h' : i < E.length), f LV[i] = hashL leafT [E[i]]) (hn : LV.length ≤ 1000) (h64 : ∀ x ∈ LV, x < 18446744073709551616) (he : ∀ i (h : i < E.length), E[i].length ≤ 10000000) :
    Calls Tryz.prog 154 #[.slice ao LV.length ca, .slice bo E.length cb] w fun e w' => ∃ b, e = .returned (.map (some b)) ∧ TabM b LV.length f LV w' ∧ w.heap.size ≤ b ∧ Below w.heap.size w w' := by
  have HT0 := Lib.hid (TabAt.made Tryz.prog 22 plcElem f w)
  have hmk := make_hint (LV.length : Int) w
  have HG := Lib.hid hg
  have HP := Lib.hid hP
  have HE := Lib.hid hE
  have HF := Lib.hid hf
  have H64 := Lib.hid h64
  have HEL := Lib.hid he
  have HL := Lib.hid hl
  have n1 : (LV.length : Int) ≤ 1000 := by omega
  clear hg hP hE hf h64 he hl
  go_enter Tryz.func154, Tryz.ntmps154
  go_wp2
  go_loopw [6, 7, 13] (fun _ _ vi wr => ∃ k : Nat, k ≤ LV.length ∧ vi = .int .i64 (k : Int) ∧ Hid (TabM w.heap.size k f (LV.take k) wr) ∧ Hid (Below w.heap.size w wr)) (fun _ _ vi _ => LV.length - (intOf vi).toNat)
  case atStart => exact ⟨0, Nat.zero_le _, rfl, HT0, Lib.hid (by0 w _)⟩
  case round =>
    obtain ⟨k, hk, rfl, HT, HB⟩ := hrel
    by_cases hlt : k < LV.length
    · have k0 : (0 : Int) ≤ (k : Int) := by omega
      have k1 : (k : Int) < (LV.length : Int) := by omega
      have hke : k < E.length := by rw [HL.out]; exact hlt
      have k2 : (k : Int) < (E.length : Int) := by omega
      obtain ⟨b1, o1, rfl, hc1⟩ := nums_at (nums_next HP.out HB.out) k hlt
      obtain ⟨b2, o2, rfl, hc2⟩ := (HE.out.below (Nat.le_refl _) HB.out).cell k hke
      have hfx := HF.out k hlt hke
      have hXl := HEL.out k hke
      have hx64 := H64.out _ (List.getElem_mem hlt)
      have hTK := List.take_append_getElem (l := LV) hlt
      obtain ⟨x, hx⟩ : ∃ x, x = LV[k] := ⟨_, rfl⟩
      obtain ⟨X, hX⟩ : ∃ X, X = E[k] := ⟨_, rfl⟩
      rw [← hx] at hc1 hfx hx64 hTK
      rw [← hX] at hc2 hfx hXl
      have HH := Lib.hid (leaf_at X wr wr.heap.size (HG.out.below HG.out.size HB.out) rfl hXl)
      rw [← hfx] at HH
      have HPUT := Lib.hid (fun wz (h : Below wr.heap.size wr wz) => tab_put_ok (HT.out.next h) (by omega) (x := x) hx64)
      have HTK := Lib.hid hTK
      clear hx hX hfx hXl hx64 hTK hlt hke
      go_wp2_with (go_at_call 41; with_reducible refine HH.out.mono ?_; rintro e w2 ⟨rfl, hb2⟩; obtain ⟨w3, hrun, ht3, hg3⟩ := HPUT.out w2 hb2)
      rw [HTK.out] at ht3
      have HT3 := Lib.hid ht3
      have HB3 := Lib.hid (show Below w.heap.size w w3 from (below_next HB.out hb2).grown hg3 (by have := HB.out.size; have := hb2.size; omega) (fun j e => by cases e; exact Nat.le_refl _))
      clear ht3 hg3 hb2 hrun
      go_wp2
      go_roundw
      case rel => exact ⟨k + 1, by omega, by go_num, HT3, HB3⟩
      case measure => simp [intOf] <;> omega
    · have k1 : ¬ (k : Int) < (LV.length : Int) := by omega
      have HF2 := Lib.hid (show TabM w.heap.size LV.length f LV wr by
        have := HT.out
        rw [List.take_of_length_le (by omega)] at this
        exact this.mono hk)
      go_wp2
      go_ret
      exact ⟨w.heap.size, rfl, HF2.out, Nat.le_refl _, HB.out⟩
theorem node_at (wz : World) (A B : (List UInt8)) (sz : Nat) (hg : Glob wz) (hz : sz = wz.heap.size) (hA : A.length ≤ 32) (hB : B.length ≤ 32) : Calls Tryz.prog 41 #[.string ⟨#[110, 111, 100, 101]⟩, .slice (some ⟨sz, 0, none⟩) 2 2] (wz.alloc (.cells #[.string ⟨A.toArray⟩, .string ⟨B.toArray⟩] 9)) fun e w' => e = .returned (.string ⟨(hashL nodeT [A, B]).toArray⟩) ∧ Below wz.heap.size wz w' := hash_at wz A B sz hg hz hA hB
set_option maxRecDepth 100000 in
set_option maxHeartbeats 1000000 in
theorem oparent_any (A B : (List UInt8)) (w : World) (hg : Glob w) (hA : A.length ≤ 32) (hB : B.length ≤ 32) :
    Calls Tryz.prog 183 #[.agg #[.string ⟨A.toArray⟩, .string ⟨B.toArray⟩]] w fun e w' => e = .returned (.agg #[.string ⟨(hashL nodeT [A, B]).toArray⟩]) ∧ Below w.heap.size w w' := by
  obtain ⟨w1, hw1⟩ : ∃ w1, w1 = (w.alloc (.cells #[.string ⟨A.toArray⟩, .string ⟨B.toArray⟩] 226)).alloc (.cells #[.string ⟨#[]⟩] 193) := ⟨_, rfl⟩
  have hb1 : Below w.heap.size w w1 := by rw [hw1]; exact below_alloc (by0 w _) _
  have HH := Lib.hid (node_at w1 A B (w.heap.size + 1 + 1) (hg.below hg.size hb1) (by rw [hw1]; simp) hA hB)
  have HB1 := Lib.hid hb1
  rw [hw1] at HH
  have hn1 : w1.heap[w.heap.size + 1]? = some (.cells #[.string ⟨#[]⟩] 193 (0, 0)) := by rw [hw1]; exact alloc_new _ _ (by simp)
  have HN1 := Lib.hid hn1
  have HW1 := Lib.hid hw1
  clear hg hA hB hb1 hn1 hw1
  go_enter Tryz.func183, Tryz.ntmps183
  go_wp2_with (go_at_call 41; with_reducible refine HH.out.mono ?_; rintro e w2 ⟨rfl, hb2⟩; rw [← HW1.out] at hb2; have hn2 := (hb2.block _ (lit_lt HN1.out)).trans HN1.out; have HB2 := Lib.hid (show Below w.heap.size w (w2.setCell ⟨w.heap.size + 1, 0, none⟩ (.string ⟨(hashL nodeT [A, B]).toArray⟩)) from (below_next HB1.out hb2).setCell (by show w.heap.size ≤ w.heap.size + 1; omega) _); have hc2 := (lit_cell hn2 0).trans rfl; have hf2 := lit_free hn2 0; have HC2 := Lib.hid (lit_set (k := 0) (.string ⟨(hashL nodeT [A, B]).toArray⟩) hn2); clear hb2 hn2)
  have hc3 := (lit_cell HC2.out 0).trans rfl
  refine bodyPost_ret (v := .agg #[.string ⟨(hashL nodeT [A, B]).toArray⟩]) ?_ rfl ⟨rfl, HB2.out⟩
  simp [results, Tryz.results183, go_sem, hc3]
end Go.Proofs.YtmnklonoelpidaaGreatDoor
/- Layer 11: the parents of a level's places. -/
namespace Go.Proofs.YtmnklonoelpidaaGreatDoor
open Go.RowKit Go.Sort Go.WideShapes Go.MapKept
open Go.Maps (Keyed)

/-- the parents of those that are the lower of their pair -/
def halves (V : List Nat) : List Nat := (V.filter fun x => decide (x % 2 = 0)).map (· / 2)
theorem halves_snoc (V : List Nat) (x : Nat) : halves (V ++ [x]) = if x % 2 = 0 then halves V ++ [x / 2] else halves V := by
  unfold halves
  by_cases h : x % 2 = 0 <;> simp [List.filter_append, h]
theorem halves_mem {K V : List Nat} (h : ∀ x, x ∈ K ↔ x ∈ V) (hc : ∀ x ∈ K, sib x ∈ K) (y : Nat) : y ∈ halves V ↔ ∃ x ∈ K, x / 2 = y := by
  simp only [halves, List.mem_map, List.mem_filter, decide_eq_true_eq]
  constructor
  · rintro ⟨x, ⟨hx, _⟩, rfl⟩; exact ⟨x, (h x).2 hx, rfl⟩
  · rintro ⟨x, hx, rfl⟩
    by_cases e : x % 2 = 0
    · exact ⟨x, ⟨(h x).1 hx, e⟩, rfl⟩
    · have hs := hc x hx
      have e2 : sib x = x - 1 := if_neg e
      exact ⟨sib x, ⟨(h _).1 hs, by rw [e2]; omega⟩, by rw [e2]; omega⟩
theorem RangeTab.short {P : Program} {ku b r n : Nat} {R : Value → Option (DataW Unit × List MemPlace)} {h : Nat → (List UInt8)} {K V : List Nat} {w : World} (t : RangeTab P ku R b r n h K V w) : V.length ≤ n := by
  obtain ⟨D, left, cnt, _, _, _, _, _, _, h5⟩ := t
  omega
/-- a table's size -/
theorem tab_len {b n : Nat} {h : Nat → (List UInt8)} {K : List Nat} {w : World} (T : TabM b n h K w) : ∃ m : Nat, m ≤ n ∧ ∀ ty, (Builtin.len_ #[196] ty #[.map (some b)]).run Tryz.prog w = .ok (.int .i64 (m : Int)) w := by
  obtain ⟨D, hown, _⟩ := T
  exact ⟨Maps.size D, hown.size_le, fun ty => hown.len Tryz.underlying196 ty⟩
abbrev wz_S (B : Nat) (A C : (List UInt8)) (w wz : World) : Prop := wz.cell? ⟨B, 0, none⟩ = some (.string ⟨A.toArray⟩) ∧ wz.cell? ⟨B, 1, none⟩ = some (.string ⟨C.toArray⟩) ∧ Below w.heap.size w wz
set_option maxRecDepth 100000 in
set_option maxHeartbeats 2000000 in
theorem oparents_any (b n : Nat) (h : Nat → (List UInt8)) (K : List Nat) (w : World) (hg : Glob w) (T : TabM b n h K w) (hn : n ≤ 100000) (hc : ∀ x ∈ K, sib x ∈ K) (h32 : ∀ x, (h x).length ≤ 32) :
    Calls Tryz.prog 174 #[.map (some b)] w fun e w' => ∃ c K', e = .returned (.map (some c)) ∧ (∀ y, y ∈ K' ↔ ∃ x ∈ K, x / 2 = y) ∧ TabM c n (fun p => hashL nodeT [h (2 * p), h (2 * p + 1)]) K' w' ∧ w.heap.size ≤ c ∧ Below w.heap.size w w' := by
  obtain ⟨g, hgd⟩ : ∃ g : Nat → (List UInt8), g = fun p => hashL nodeT [h (2 * p), h (2 * p + 1)] := ⟨_, rfl⟩
  rw [← hgd]
  have HGD := Lib.hid (fun p => congrFun hgd p)
  clear hgd
  have HT := Lib.hid T
  have HG := Lib.hid hg
  have HC := Lib.hid hc
  have H32 := Lib.hid h32
  obtain ⟨B, hB⟩ : ∃ B, B = w.heap.size := ⟨_, rfl⟩
  have hbB : b < B := by rw [hB]; exact T.lt
  obtain ⟨w1, hw1⟩ : ∃ w1, w1 = w.alloc (.cells #[.string ⟨#[]⟩, .string ⟨#[]⟩] 226) := ⟨_, rfl⟩
  have hb1 : Below w.heap.size w w1 := by rw [hw1]; exact by0 w _
  have z1 : w1.heap.size = B + 1 := by rw [hw1, World.size_alloc, hB]
  have T1 : TabM b n h K w1 := T.next hb1
  obtain ⟨m, hm, hlen⟩ := tab_len T1
  have m0 : (m : Int) ≤ 100000 := by omega
  have m1 : (0 : Int) ≤ (m : Int) := by omega
  have hmk := fun z => make_hint z w1
  have HW1 := Lib.hid hw1
  have HB1 := Lib.hid hb1
  have HZ1 := Lib.hid z1
  clear hg T hc h32 hb1 z1 hm
  go_enter Tryz.func174, Tryz.ntmps174
  go_upto_region 2 with fail
  rw [← HW1.out, show w.heap.size = B from hB.symm]
  obtain ⟨w2, hw2⟩ : ∃ w2, w2 = w1.alloc (.map #[] 0) := ⟨_, rfl⟩
  have HX2 := Lib.hid (show TabM (B + 1) 0 g [] w2 by rw [hw2, ← HZ1.out]; exact TabAt.made _ _ _ _ _)
  have HT2 := Lib.hid (show TabM b n h K w2 by rw [hw2]; exact T1.next (by0 w1 _))
  have HP2 := Lib.hid (show w2.heap[B]? = some (.cells #[.string ⟨#[]⟩, .string ⟨#[]⟩] 226 (0, 0)) by rw [hw2, alloc_old _ _ (by rw [HZ1.out]; omega), HW1.out]; exact alloc_new _ _ hB)
  have HB2 := Lib.hid (show Below B w w2 by rw [hw2, hB]; exact below_alloc HB1.out _)
  have HZ2 := Lib.hid (show w2.heap.size = B + 2 by rw [hw2, World.size_alloc, HZ1.out])
  have HW2 := Lib.hid hw2
  have HHB := Lib.hid hB
  clear hw2 hw1 T1 hB
  go_upto_region 3 with fail
  rw [← HW2.out, HZ1.out]
  clear hlen hmk m0 m1
  go_wp2_with (at_range; refine wpList_range_tab _ rfl _ 196 rfl 193 keyU Tryz.underlying196 b n h K rfl HT2.out ?_; intro w3 hrg3 hg3 hs3)
  rw [HZ2.out] at hrg3 ⊢
  have HR3 := Lib.hid hrg3
  have HX3 := Lib.hid (HX2.out.kept hg3 (by simp))
  have HP3 := Lib.hid ((hg3.block B (by rw [HZ2.out]; omega) (by simp)).trans HP2.out)
  have HB3 := Lib.hid (HB2.out.grown hg3 (by have := HZ2.out; omega) (fun j e => by cases e))
  have HZ3 := Lib.hid (show B + 3 ≤ w3.heap.size by rw [hs3, HZ2.out]; omega)
  clear hrg3 hg3 hs3
  go_frame
  go_loopw [5, 6, 7] (fun _ _ _ wr => ∃ V : List Nat, Hid (RngM b (B + 2) n h K V wr) ∧ Hid (TabM (B + 1) V.length g (halves V) wr) ∧ Hid (∃ X Y : (List UInt8), wr.heap[B]? = some (.cells #[.string ⟨X.toArray⟩, .string ⟨Y.toArray⟩] 226 (0, 0))) ∧ Hid (Below B w wr) ∧ Hid (B + 3 ≤ wr.heap.size)) (fun _ _ _ wr => wr.rangeLeft b (B + 2))
  case atStart => exact ⟨[], HR3, HX3, Lib.hid ⟨[], [], HP3.out⟩, HB3, HZ3⟩
  case round =>
    obtain ⟨V, HR, HX, HP, HB, HZ⟩ := hrel
    have HSH := Lib.hid HR.out.short
    go_wp2_with (at_next; refine wpList_next_tab _ plcShape rfl _ rfl keyU Tryz.underlying22 b (B + 2) n h K V rfl HR.out ?_ ?_)
    · intro hdone
      have HF := Lib.hid (show TabM (B + 1) n g (halves V) wr from HX.out.mono HSH.out)
      have HM := Lib.hid (halves_mem hdone HC.out)
      clear hdone
      go_wp2
      go_ret
      exact ⟨B + 1, halves V, rfl, HM.out, HF.out, by rw [← HHB.out]; omega, by rw [← HHB.out]; exact HB.out⟩
    · intro x w4 hx64 hxK hxV hrg4 hlt4 hgr4 hsz4 hen
      have HM := Lib.hid hlt4
      have HR4 := Lib.hid hrg4
      have HZ4 := Lib.hid (show B + 3 ≤ w4.heap.size by have := HZ.out; omega)
      have HX4 := Lib.hid (HX.out.kept hgr4 (by simp))
      obtain ⟨XP, YP, hp⟩ := HP.out
      have HP4 := Lib.hid ((hgr4.block B (by have := HZ.out; omega) (by simp)).trans hp)
      have HB4 := Lib.hid (HB.out.grown hgr4 (by have := HZ.out; omega) (fun j e => by cases e; omega))
      have HSB := Lib.hid (fun wz => sibling_any x hx64 wz)
      have HK4 := Lib.hid hxK
      have HV4 := Lib.hid (halves_snoc V x)
      have HX64 := Lib.hid hx64
      clear hlt4 hrg4 hgr4 hsz4 hp hxK hxV hx64 HR HX HP HB HZ
      go_upto_region 6 with fail
      obtain ⟨q, hq⟩ : ∃ q, q = w4.heap.size := ⟨_, rfl⟩
      obtain ⟨w5, hw5⟩ : ∃ w5, w5 = w4.alloc (.cells #[.string ⟨(h x).toArray⟩] 193) := ⟨_, rfl⟩
      have HR5 := Lib.hid (show RngM b (B + 2) n h K (V ++ [x]) w5 by rw [hw5]; exact HR4.out.kept (World.grownBy_alloc w4 _ none) (by simp) (by simp))
      have HX5 := Lib.hid (show TabM (B + 1) V.length g (halves V) w5 by rw [hw5]; exact HX4.out.next (by0 w4 _))
      have HP5 := Lib.hid (show w5.heap[B]? = some (.cells #[.string ⟨XP.toArray⟩, .string ⟨YP.toArray⟩] 226 (0, 0)) by rw [hw5, alloc_old _ _ (by have := HZ4.out; omega)]; exact HP4.out)
      have HQ5 := Lib.hid (show w5.heap[q]? = some (.cells #[.string ⟨(h x).toArray⟩] 193 (0, 0)) by rw [hw5]; exact alloc_new _ _ hq)
      have HB5 := Lib.hid (show Below B w w5 by rw [hw5]; exact HB4.out.alloc (by have := HZ4.out; omega) _)
      have HZ5 := Lib.hid (show B + 3 ≤ q ∧ w5.heap.size = q + 1 by rw [hw5, World.size_alloc, hq]; exact ⟨HZ4.out, rfl⟩)
      have HM5 := Lib.hid (show w5.rangeLeft b (B + 2) < wr.rangeLeft b (B + 2) by
        rw [hw5, left_kept (alloc_old _ _ (by have := HZ4.out; omega)) (alloc_old _ _ (by have := HZ4.out; omega))]
        exact HM.out)
      rw [← hw5, show w4.heap.size = q from hq.symm]
      clear hw5 hq HR4 HX4 HP4 HB4 HZ4 HM
      by_cases he : x % 2 = 0
      · have hs : sib x = x + 1 := if_pos he
        have hV := HV4.out
        rw [if_pos he] at hV
        have HVE := Lib.hid hV
        have hx1 : sib x < 18446744073709551616 := by have := HX64.out; omega
        have hlk := tab_look HR5.out.tab hx1
        rw [if_pos (HC.out x HK4.out)] at hlk
        obtain ⟨y, hy⟩ : ∃ y, y = sib x := ⟨_, rfl⟩
        rw [← hy] at HSB hlk
        have hge : ¬ (y : Int) < (x : Int) := by omega
        have HYX := Lib.hid (hy.trans hs)
        have hc0 := (lit_cell HP5.out 0).trans rfl
        have hc1 := (lit_cell HP5.out 1).trans rfl
        have hf0 := lit_free HP5.out 0
        have hf1 := lit_free HP5.out 1
        have hq0 := (lit_cell HQ5.out 0).trans rfl
        have HE0 := Lib.hid he
        clear hV hs hx1 hy he
        go_upto_region 9 with (go_at_call 180; refine (HSB.out _).mono ?_; rintro e w' ⟨rfl, rfl⟩)
        have hc0 := (lit_cell (lit_set (k := 1) (.string ⟨(h y).toArray⟩) (lit_set (k := 0) (.string ⟨(h x).toArray⟩) HP5.out)) 0).trans rfl
        have hc1 := (lit_cell (lit_set (k := 1) (.string ⟨(h y).toArray⟩) (lit_set (k := 0) (.string ⟨(h x).toArray⟩) HP5.out)) 1).trans rfl
        have hp6 := lit_set (k := 1) (.string ⟨(h y).toArray⟩) (lit_set (k := 0) (.string ⟨(h x).toArray⟩) HP5.out)
        have HG6 := Lib.hid (show w5.grownBy ((w5.setCell ⟨B, 0, none⟩ (.string ⟨(h x).toArray⟩)).setCell ⟨B, 1, none⟩ (.string ⟨(h y).toArray⟩)) (some B) from (((Kept.refl (· ≠ B) w5).setCell B 0 _ (fun _ hh => hh rfl)).setCell B 1 _ (fun _ hh => hh rfl)).to_grown)
        generalize (w5.setCell ⟨B, 0, none⟩ (.string ⟨(h x).toArray⟩)).setCell ⟨B, 1, none⟩ (.string ⟨(h y).toArray⟩) = w6 at *
        have HP6 := Lib.hid (show ∃ X Y : (List UInt8), w6.heap[B]? = some (.cells #[.string ⟨X.toArray⟩, .string ⟨Y.toArray⟩] 226 (0, 0)) from ⟨_, _, hp6⟩)
        have HR6 := Lib.hid (HR5.out.kept HG6.out (by simp; omega) (by simp))
        have HX6 := Lib.hid (HX5.out.kept HG6.out (by simp))
        have HB6 := Lib.hid (HB5.out.grown HG6.out (by have := HZ5.out; omega) (fun j e => by cases e; exact Nat.le_refl _))
        have HZ6 := Lib.hid (show B + 3 ≤ w6.heap.size by have := HZ5.out; have := HG6.out.size; omega)
        have HM6 := Lib.hid (show w6.rangeLeft b (B + 2) < wr.rangeLeft b (B + 2) by
          rw [left_kept (HG6.out.block b (by have := HZ5.out; omega) (by simp; omega)) (HG6.out.block (B + 2) (by have := HZ5.out; omega) (by simp))]
          exact HM5.out)
        have hGL : Glob w6 := HG.out.below HG.out.size (by rw [← HHB.out]; exact HB6.out)
        obtain ⟨p, hp⟩ : ∃ p, p = x / 2 := ⟨_, rfl⟩
        have hp2 : 2 * p = x := by have := HE0.out; omega
        have hgp : g p = hashL nodeT [h x, h y] := by rw [HGD.out, hp2, HYX.out]
        have hA := H32.out x
        have hC := H32.out y
        have hPA := parent_any x HX64.out
        rw [← hp] at hPA HVE
        have HPA := Lib.hid hPA
        have hp64 : p < 18446744073709551616 := by have := HX64.out; omega
        have HPUT := Lib.hid (fun wz (hh : Below w6.heap.size w6 wz) => tab_put_ok (HX6.out.next hh) (by have := HSH.out; omega) (x := p) hp64)
        generalize h x = A at *
        generalize h y = C at *
        have HN := Lib.hid (fun wz (hh : Below w6.heap.size w6 wz) => oparent_any A C wz (hGL.below hGL.size hh) hA hC)
        rw [← hgp] at HN
        have hs0 : wz_S B A C w w6 := ⟨hc0, hc1, HHB.out ▸ HB6.out⟩
        have HS := Lib.hid (fun (w7 w8 : World) (h7 : Below w6.heap.size w6 w7) (h8 : w7.grownBy w8 (some (B + 1))) => show wz_S B A C w w8 from
          ⟨(World.cell?_of_block (a := ⟨B, 0, none⟩) (h8.block B (by have := HZ6.out; have := h7.size; omega) (by simp))).trans ((World.cell?_of_block (a := ⟨B, 0, none⟩) (h7.block B (by have := HZ6.out; omega))).trans hc0), (World.cell?_of_block (a := ⟨B, 1, none⟩) (h8.block B (by have := HZ6.out; have := h7.size; omega) (by simp))).trans ((World.cell?_of_block (a := ⟨B, 1, none⟩) (h7.block B (by have := HZ6.out; omega))).trans hc1),
            by rw [← HHB.out]; exact (HB6.out.trans (h7.mono (by have := HZ6.out; omega))).grown h8 (by have := HZ6.out; have := h7.size; omega) (fun j e => by cases e; omega)⟩)
        have HS7S := Lib.hid (fun (w7 : World) (h7 : Below w6.heap.size w6 w7) => show wz_S B A C w w7 from ⟨(World.cell?_of_block (a := ⟨B, 0, none⟩) (h7.block B (by have := HZ6.out; omega))).trans hc0, (World.cell?_of_block (a := ⟨B, 1, none⟩) (h7.block B (by have := HZ6.out; omega))).trans hc1, by rw [← HHB.out]; exact HB6.out.trans (h7.mono (by have := HZ6.out; omega))⟩)
        have hs1 : wz_S B A C w w6.drew := ⟨hc0, hc1, (HHB.out ▸ HB6.out).drew⟩
        clear hc0 hc1 hf0 hf1 hq0 hlk hge hp6 hgp hA hC hp hp2 hp64 hPA
        go_region_held3 (fun wz => wz_S B A C w wz)
          (first | (with_reducible assumption))
          (first
            | (go_at_call 184; refine (HPA.out _).mono ?_; rintro e w' ⟨rfl, rfl⟩)
            | (go_at_call 183; refine (HN.out _ (by first | exact Below.refl _ _ | exact (Below.refl _ _).drew)).mono ?_; rintro e w7 ⟨rfl, hb7⟩; have h7 : Below w6.heap.size w6 w7 := (by first | exact hb7 | exact (Below.refl _ _).drew.trans hb7); have HS7 := Lib.hid h7; obtain ⟨w8, hrun, ht8, hg8⟩ := HPUT.out w7 h7; have hs8 := HS.out w7 w8 h7 hg8; have hs7 : wz_S B A C w w7 := HS7S.out w7 h7))
        all_goals
          have HR8 := Lib.hid ((HR6.out.kept (row := none) ⟨HS7.out.os, HS7.out.tape, HS7.out.output, HS7.out.size, fun j hj _ => HS7.out.block j hj⟩ (by simp) (by simp)).kept hg8 (by simp; omega) (by simp))
          have HX8 := Lib.hid (show TabM (B + 1) (V ++ [x]).length g (halves (V ++ [x])) w8 by rw [HVE.out, List.length_append]; exact ht8)
          have HP8 := Lib.hid (show ∃ X Y : (List UInt8), w8.heap[B]? = some (.cells #[.string ⟨X.toArray⟩, .string ⟨Y.toArray⟩] 226 (0, 0)) by
            obtain ⟨X, Y, hxy⟩ := HP6.out
            exact ⟨X, Y, (hg8.block B (by have := HZ6.out; have := HS7.out.size; omega) (by simp)).trans ((HS7.out.block B (by have := HZ6.out; omega)).trans hxy)⟩)
          have HB8 := Lib.hid (show Below B w w8 by rw [HHB.out]; exact hs8.2.2)
          have HZ8 := Lib.hid (show B + 3 ≤ w8.heap.size by have := HZ6.out; have := HS7.out.size; have := hg8.size; omega)
          have HM8 := Lib.hid (show w8.rangeLeft b (B + 2) < wr.rangeLeft b (B + 2) by
            have z6 := HZ6.out
            have z7 := HS7.out.size
            rw [left_kept (hg8.block b (by omega) (by simp; omega)) (hg8.block (B + 2) (by omega) (by simp)), left_kept (HS7.out.block b (by omega)) (HS7.out.block (B + 2) (by omega))]
            exact HM6.out)
          clear hs8 hs7 hg8 ht8 hrun h7 hb7 hs0 hs1
          go_wp2
          go_roundw
          case rel => exact ⟨V ++ [x], HR8, HX8, HP8, HB8, HZ8⟩
          case measure => exact HM8.out
      · have hs : sib x = x - 1 := if_neg he
        have hge : ((x - 1 : Nat) : Int) < (x : Int) := by omega
        have hV := HV4.out
        rw [if_neg he] at hV
        have HVE := Lib.hid hV
        rw [hs] at HSB
        obtain ⟨y, hy⟩ : ∃ y, y = x - 1 := ⟨_, rfl⟩
        rw [← hy] at HSB hge
        clear hV hs hy
        go_wp2_with (go_at_call 180; refine (HSB.out _).mono ?_; rintro e w' ⟨rfl, rfl⟩)
        go_roundw
        case rel => exact ⟨V ++ [x], HR5, Lib.hid (by rw [HVE.out]; exact HX5.out.mono (by simp)), Lib.hid ⟨XP, YP, HP5.out⟩, HB5, Lib.hid (by have := HZ5.out; omega)⟩
        case measure => exact HM5.out
end Go.Proofs.YtmnklonoelpidaaGreatDoor
/- Layer 11: the climb to the root. -/
namespace Go.Proofs.YtmnklonoelpidaaGreatDoor
open Go.RowKit Go.Sort

/-- of a level's place the digest, known or given -/
def fullD (LV : List Nat) (D : Nat) (R : List (List UInt8)) (f : Nat → (List UInt8)) (i x : Nat) : (List UInt8) := if x ∈ upTo LV i then knownD LV D R f i x else givenD (needM LV D) R i x
theorem full_len {LV : List Nat} {D : Nat} {R : List (List UInt8)} {f : Nat → (List UInt8)} (h : all32 R = true) (hf : ∀ x, (f x).length ≤ 32) (i x : Nat) : (fullD LV D R f i x).length ≤ 32 := by
  unfold fullD
  split
  · exact known_len hf i x
  · exact given_len h i x
theorem full_up (LV : List Nat) (D : Nat) (R : List (List UInt8)) (f : Nat → (List UInt8)) (i p : Nat) : hashL nodeT [fullD LV D R f i (2 * p), fullD LV D R f i (2 * p + 1)] = knownD LV D R f (i + 1) p := rfl
theorem full_given {LV : List Nat} {D i j x : Nat} {R : List (List UInt8)} {f : Nat → (List UInt8)} {X : (List UInt8)} (hLV : ∀ z ∈ LV, z < 2 ^ D) (hi : i < D) (hx : (needOf (upTo LV i) (2 ^ (D - i)))[j]? = some x) (hX : (R.drop (pre (needM LV D) i))[j]? = some X) : fullD LV D R f i x = X := by
  have hN := (needs_M hLV).2 i _ (needM_at hi)
  have hm := List.mem_of_getElem? hx
  have hno : x ∉ upTo LV i := ((hN.2 x).1 hm).2
  have hnd : (needOf (upTo LV i) (2 ^ (D - i))).Nodup := hN.1.imp fun h => Nat.ne_of_lt h
  obtain ⟨hj, hjx⟩ := List.getElem?_eq_some_iff.1 hx
  rw [fullD, if_neg hno, givenD, needM_at hi, Option.getD_some]
  have hid : (needOf (upTo LV i) (2 ^ (D - i))).idxOf x = j := by rw [← hjx]; exact hnd.idxOf_getElem j hj
  rw [List.getElem?_drop] at hX
  rw [hid, hX]
  rfl
theorem full_closed {LV : List Nat} {D i : Nat} (hLV : ∀ z ∈ LV, z < 2 ^ D) (hi : i < D) : ∀ x ∈ upTo LV i ++ needOf (upTo LV i) (2 ^ (D - i)), sib x ∈ upTo LV i ++ needOf (upTo LV i) (2 ^ (D - i)) := by
  have hN := (needs_M hLV).2 i _ (needM_at hi)
  intro x hx
  rcases List.mem_append.1 hx with h | h
  · by_cases c : sib x ∈ upTo LV i
    · exact List.mem_append_left _ c
    · exact List.mem_append_right _ ((hN.2 _).2 ⟨by rw [sib_sib]; exact h, c⟩)
  · exact List.mem_append_left _ ((hN.2 x).1 h).1
theorem full_next {LV : List Nat} {D i : Nat} (hLV : ∀ z ∈ LV, z < 2 ^ D) (hi : i < D) (y : Nat) : (∃ x ∈ upTo LV i ++ needOf (upTo LV i) (2 ^ (D - i)), x / 2 = y) ↔ y ∈ upTo LV (i + 1) := by
  have hN := (needs_M hLV).2 i _ (needM_at hi)
  rw [mem_upTo_succ]
  constructor
  · rintro ⟨x, hx, rfl⟩
    rcases List.mem_append.1 hx with h | h
    · exact ⟨x, h, rfl⟩
    · exact ⟨sib x, ((hN.2 x).1 h).1, sib_half x⟩
  · rintro ⟨x, hx, rfl⟩
    exact ⟨x, List.mem_append_left _ hx, rfl⟩
theorem nx_end {w w1 : World} {bp q : Nat} {X : (List UInt8)} {v S : Value} (hk : Kept (· ≠ bp) w w1) (hq : w.heap.size ≤ q) (hne : q ≠ bp) (hp : w1.heap[bp]? = some (.cells #[v] 41 (0, 0))) (hr : w1.heap[q]? = some (.cells #[.string ⟨#[]⟩] 193 (0, 0))) :
    ((w1.setCell ⟨bp, 0, none⟩ S).setCell ⟨q, 0, none⟩ (.string ⟨X.toArray⟩)).cell? ⟨q, 0, none⟩ = some (.string ⟨X.toArray⟩) ∧ ((w1.setCell ⟨bp, 0, none⟩ S).setCell ⟨q, 0, none⟩ (.string ⟨X.toArray⟩)).heap[bp]? = some (.cells #[S] 41 (0, 0)) ∧ Kept (· ≠ bp) w ((w1.setCell ⟨bp, 0, none⟩ S).setCell ⟨q, 0, none⟩ (.string ⟨X.toArray⟩)) := by
  have h1 := lit_set (k := 0) S hp
  have h2 := (lit_far (w := w1) (b := bp) (k := 0) S hne).trans hr
  exact ⟨(lit_cell (lit_set (k := 0) (.string ⟨X.toArray⟩) h2) 0).trans rfl, (lit_far _ (Ne.symm hne)).trans h1, (hk.setCell bp 0 _ (fun _ h => h rfl)).setCell q 0 _ (fun h => by omega)⟩
set_option maxRecDepth 100000 in
set_option maxHeartbeats 1000000 in
theorem onext_any (bp b o cap : Nat) (X : (List UInt8)) (n : Nat) (w : World) (hp : w.heap[bp]? = some (.cells #[.slice (some ⟨b, o, none⟩) (n + 1 : Nat) cap] 41 (0, 0))) (hX : w.cell? ⟨b, o, none⟩ = some (.string ⟨X.toArray⟩)) (hc : n + 1 ≤ cap) :
    Calls Tryz.prog 153 #[.pointer (some ⟨bp, 0, none⟩)] w fun e w' => e = .returned (.agg #[.string ⟨X.toArray⟩]) ∧ w'.heap[bp]? = some (.cells #[.slice (if cap = 1 then some ⟨b, o, none⟩ else some ⟨b, o + 1, none⟩) n (cap - 1)] 41 (0, 0)) ∧ Kept (· ≠ bp) w w' := by
  have hbp := lit_lt hp
  obtain ⟨w1, hw1⟩ : ∃ w1, w1 = w.alloc (.cells #[.string ⟨#[]⟩] 193) := ⟨_, rfl⟩
  obtain ⟨q, hq⟩ : ∃ q, q = w.heap.size := ⟨_, rfl⟩
  have hp1 : w1.heap[bp]? = some (.cells #[.slice (some ⟨b, o, none⟩) (n + 1 : Nat) cap] 41 (0, 0)) := by rw [hw1, alloc_old _ _ hbp]; exact hp
  have hx1 : w1.cell? ⟨b, o, none⟩ = some (.string ⟨X.toArray⟩) := by rw [hw1]; exact (World.cell?_alloc_lt _ _ _ (World.block_lt_of_cell? w _ hX)).trans hX
  have hr1 : w1.heap[q]? = some (.cells #[.string ⟨#[]⟩] 193 (0, 0)) := by rw [hw1]; exact alloc_new _ _ hq
  have hk1 : Kept (· ≠ bp) w w1 := by rw [hw1]; exact (Kept.refl _ w).alloc _
  have HW1 := Lib.hid hw1
  have HQ := Lib.hid hq
  have hne : q ≠ bp := by omega
  clear hp hX hw1 hq hbp
  go_enter Tryz.func153, Tryz.ntmps153
  go_upto_region 1 with fail
  rw [← HW1.out, ← HQ.out]
  have c1 := (lit_cell hp1 0).trans rfl
  have f1 := lit_free hp1 0
  have c2 := (lit_cell hr1 0).trans rfl
  have f2 := lit_free hr1 0
  have n0 : (0 : Int) < (n : Int) + 1 := by omega
  have n1 : (1 : Int) ≤ (n : Int) + 1 := by omega
  have n2 : (n : Int) + 1 ≤ (cap : Int) := by omega
  go_wp2
  all_goals
    obtain ⟨e1, e2, e3⟩ := nx_end (X := X) (S := .slice _ _ _) hk1 (by rw [HQ.out]; exact Nat.le_refl _) hne hp1 hr1
    refine bodyPost_ret (v := .agg #[.string ⟨X.toArray⟩]) ?_ rfl ⟨rfl, e2, e3⟩
    simp [results, Tryz.results153, go_sem, e1]
end Go.Proofs.YtmnklonoelpidaaGreatDoor
/- Layer 11: the climb, level by level. -/
namespace Go.Proofs.YtmnklonoelpidaaGreatDoor
open Go.RowKit Go.Sort

/-- what the climb keeps -/
structure Climb (w0 : World) (lo hi bp : Nat) (bo : Option Addr) (M : List (List Nat)) (wr : World) : Prop where
  g : Glob wr
  b : Below w0.heap.size w0 wr
  n : RowsIn lo hi bo M wr
  z : hi ≤ wr.heap.size
  p : bp < wr.heap.size
theorem Climb.kept {w0 wr wa : World} {lo hi bp : Nat} {bo : Option Addr} {M : List (List Nat)} {S : Nat → Prop} (hg : Glob w0) (h : Climb w0 lo hi bp bo M wr) (hk : Kept S wr wa) (h1 : ∀ j, j < w0.heap.size → S j) (h2 : ∀ j, lo ≤ j → j < hi → S j) : Climb w0 lo hi bp bo M wa := by
  have hb : Below w0.heap.size w0 wa := h.b.trans (hk.below h.b.size h1)
  exact ⟨hg.below hg.size hb, hb, h.n.kept h.z (hk.less fun j _ hj => h2 j hj.1 hj.2), Nat.le_trans h.z hk.size, Nat.lt_of_lt_of_le h.p hk.size⟩
/-- the proof's variable, and what is left of the proof -/
def LeftP (w0 : World) (bp : Nat) (Q : List (List UInt8)) (wr : World) : Prop := ∃ po cp, wr.heap[bp]? = some (.cells #[.slice po Q.length cp] 41 (0, 0)) ∧ Q.length ≤ cp ∧ Strs po Q w0
theorem LeftP.kept {w0 wr wa : World} {bp : Nat} {Q : List (List UInt8)} {S : Nat → Prop} (h : LeftP w0 bp Q wr) (hk : Kept S wr wa) (hb : S bp) : LeftP w0 bp Q wa := by
  obtain ⟨po, cp, h1, h2⟩ := h
  exact ⟨po, cp, (hk.block bp (lit_lt h1) hb).trans h1, h2⟩
theorem onext_left {w0 wr : World} {bp : Nat} {X : (List UInt8)} {Q : List (List UInt8)} (h : LeftP w0 bp (X :: Q) wr) (hb : Below w0.heap.size w0 wr) :
    Calls Tryz.prog 153 #[.pointer (some ⟨bp, 0, none⟩)] wr fun e w' => e = .returned (.agg #[.string ⟨X.toArray⟩]) ∧ LeftP w0 bp Q w' ∧ Kept (· ≠ bp) wr w' := by
  obtain ⟨po, cp, h1, h2, h3⟩ := h
  obtain ⟨b, o, rfl, hc⟩ := h3.cell 0 (by simp)
  have hX : wr.cell? ⟨b, o, none⟩ = some (.string ⟨X.toArray⟩) := (hb.cell (p := ⟨b, o, none⟩) (World.block_lt_of_cell? w0 _ hc)).trans hc
  refine (onext_any bp b o cp X Q.length wr h1 hX (by simpa using h2)).mono ?_
  rintro e w' ⟨rfl, e1, e2⟩
  refine ⟨rfl, ⟨_, cp - 1, e1, by simp at h2; omega, ?_⟩, e2⟩
  by_cases c : cp = 1
  · exact .inl (List.length_eq_zero_iff.1 (by simp at h2; omega))
  · rw [if_neg c]; exact h3.tail
set_option maxRecDepth 100000 in
set_option maxHeartbeats 4000000 in
theorem oclimb_any (w0 w : World) (b0 bp lo hi D cb : Nat) (bo : Option Addr) (LV : List Nat) (R : List (List UInt8)) (f : Nat → (List UInt8)) (hg : Glob w0) (hK : Climb w0 lo hi bp bo (needM LV D) w) (hT : TabM b0 LV.length f LV w) (hb0 : hi ≤ b0) (hlo : w0.heap.size ≤ lo) (hlh : lo ≤ hi) (hbp : w0.heap.size ≤ bp) (hbl : bp < lo) (hP : LeftP w0 bp R w)
    (hlen : R.length = pre (needM LV D) D) (h32 : all32 R = true) (hf : ∀ x, (f x).length ≤ 32) (hLV : ∀ z ∈ LV, z < 2 ^ D) (hD : D ≤ 16) (h0 : LV ≠ []) (hn : LV.length ≤ 1000) :
    Calls Tryz.prog 155 #[.map (some b0), .slice bo D cb, .func (.func 153) #[] #[.pointer (some ⟨bp, 0, none⟩)]] w fun e w' => e = .returned (.string ⟨(comesD LV D R f).toArray⟩) ∧ Below w0.heap.size w0 w' := by
  have HLV := Lib.hid hLV
  have HF32 := Lib.hid (full_len (LV := LV) (D := D) h32 hf)
  have HFG := Lib.hid (fun i j x X (hi : i < D) hx hX => full_given (R := R) (f := f) (i := i) (j := j) (x := x) (X := X) hLV hi hx hX)
  have HFC := Lib.hid (fun i (hi : i < D) => full_closed hLV hi)
  have HFN := Lib.hid (fun i (hi : i < D) => full_next hLV hi)
  have HFU := Lib.hid (fun i p => full_up LV D R f i p)
  have HFK := Lib.hid (fun i x (h : x ∈ upTo LV i) => show knownD LV D R f i x = fullD LV D R f i x by rw [fullD, if_pos h])
  have HML := Lib.hid (needM_len LV D)
  have HPS := Lib.hid (fun i (h : i < (needM LV D).length) => pre_succ h)
  have HPM := Lib.hid (fun i (h : i ≤ D) => pre_mono (M := needM LV D) (i := i) (j := D) h (by rw [needM_len]; exact Nat.le_refl _))
  have HNA := Lib.hid (fun i (h : i < D) => needM_at (L := LV) (d := D) h)
  have HN1000 := Lib.hid (fun i (h : i < D) => show (needOf (upTo LV i) (2 ^ (D - i))).length ≤ 1000 by
    have h1 := need_le ((needs_M hLV).2 i _ (needM_at h))
    have h2 : (upTo LV i).length = LV.length := by simp [upTo]
    omega)
  have HN64 := Lib.hid (fun i (h : i < D) => show ∀ x ∈ needOf (upTo LV i) (2 ^ (D - i)), x < 18446744073709551616 from fun x hx => by
    have h1 := List.mem_range.1 (List.mem_filter.1 hx).1
    have h2 : 2 ^ (D - i) ≤ 2 ^ 16 := Nat.pow_le_pow_right (by decide) (by omega)
    omega)
  have HRT := Lib.hid (root_in h0 hLV)
  have HG := Lib.hid hg
  have HK := Lib.hid hK
  have HT := Lib.hid (show TabM b0 (LV.length) (knownD LV D R f 0) (upTo LV 0) w by rw [upTo_zero]; exact hT)
  have HP := Lib.hid (show LeftP w0 bp (R.drop (pre (needM LV D) 0)) w by rw [pre_zero]; exact hP)
  have HLEN := Lib.hid hlen
  have HO := Lib.hid (And.intro hlo (And.intro hlh (And.intro hbp (And.intro hbl (And.intro hb0 hn)))))
  have d16 : (D : Int) ≤ 16 := by omega
  have HB0 := Lib.hid (show hi ≤ b0 ∧ b0 ≠ bp by omega)
  have HCD := Lib.hid (show comesD LV D R f = knownD LV D R f D 0 from rfl)
  generalize comesD LV D R f = Z at *
  clear hg hK hT hP hlen h32 hf hLV h0 hn hlo hlh hbp hbl hb0 hD
  generalize needM LV D = M at *
  go_enter Tryz.func155, Tryz.ntmps155
  go_wp2
  go_loopw [0, 8, 10, 13] (fun v0 _ _ v13 wr => ∃ i b n : Nat, v0 = .map (some b) ∧ v13 = .int .i64 (i : Int) ∧ i ≤ D ∧ n ≤ 1000 * (i + 1) ∧ Hid (TabM b n (knownD LV D R f i) (upTo LV i) wr) ∧ Hid (LeftP w0 bp (R.drop (pre M i)) wr) ∧ Hid (Climb w0 lo hi bp bo M wr) ∧ Hid (hi ≤ b ∧ b ≠ bp)) (fun _ _ _ vi _ => D - (intOf vi).toNat)
  case atStart => exact ⟨0, b0, LV.length, rfl, rfl, Nat.zero_le _, by have := HO.out; omega, HT, HP, HK, HB0⟩
  case round =>
    obtain ⟨i, b, n, rfl, rfl, hiL, hn, HT, HP, HK, HB⟩ := hrel
    by_cases hiD : i < D
    · have hl : (i : Int) < (D : Int) := by omega
      have i0 : (0 : Int) ≤ (i : Int) := by omega
      have hiM : i < M.length := by rw [HML.out]; exact hiD
      rcases HK.out.n with hM0 | ⟨g, rfl, g1, g2, g3⟩
      · rw [hM0] at hiM; simp at hiM
      obtain ⟨ai, ci, hcell, hrow⟩ := g3 i hiM
      have HFGi := Lib.hid (fun j x X hx hX => HFG.out i j x X hiD hx hX)
      have HFCi := Lib.hid (HFC.out i hiD)
      have HFNi := Lib.hid (HFN.out i hiD)
      have h1000 := HN1000.out i hiD
      have H64 := Lib.hid (HN64.out i hiD)
      have hPS := HPS.out i hiM
      have hPM := HPM.out (i + 1) hiD
      have hNM : M[i] = needOf (upTo LV i) (2 ^ (D - i)) := by
        have h := HNA.out i hiD
        rw [List.getElem?_eq_getElem hiM] at h
        exact Option.some.inj h
      rw [hNM] at hcell hrow hPS
      generalize needOf (upTo LV i) (2 ^ (D - i)) = N at *
      have HQL := Lib.hid (show N.length ≤ (R.drop (pre M i)).length by rw [List.length_drop]; have := HLEN.out; omega)
      have HQN := Lib.hid (show (R.drop (pre M i)).drop N.length = R.drop (pre M (i + 1)) by rw [List.drop_drop, hPS])
      have HROW := Lib.hid hrow
      have HT0 := Lib.hid (show TabM b (n + 0) (fullD LV D R f i) (upTo LV i ++ N.take 0) wr from HT.out.of (fun x => by simp) (fun x hx => HFK.out i x hx))
      have hg2 : g < hi := g2
      have hnl : (N.length : Int) ≤ 1000 := by omega
      have hn5 : n ≤ 20000 := by omega
      have HPS := Lib.hid hPS
      generalize hQ : R.drop (pre M i) = Q at *
      clear hNM hPS hPM h1000 hQ g3 hrow HT hiL
      go_wp2
      go_loopw [10, 19] (fun _ v19 wr2 => ∃ j : Nat, j ≤ N.length ∧ v19 = .int .i64 (j : Int) ∧ Hid (TabM b (n + j) (fullD LV D R f i) (upTo LV i ++ N.take j) wr2) ∧ Hid (LeftP w0 bp (Q.drop j) wr2) ∧ Hid (Climb w0 lo hi bp (some ⟨g, 0, none⟩) M wr2) ∧ Hid (RowAt lo hi ai N wr2)) (fun _ vi _ => N.length - (intOf vi).toNat)
      case atStart => exact ⟨0, Nat.zero_le _, rfl, HT0, Lib.hid (by rw [List.drop_zero]; exact HP.out), HK, HROW⟩
      case round =>
        obtain ⟨j, hj, rfl, HT2, HP2, HK2, HR2⟩ := hrel
        by_cases hjN : j < N.length
        · have hl2 : (j : Int) < (N.length : Int) := by omega
          have j0 : (0 : Int) ≤ (j : Int) := by omega
          rcases HR2.out with h0 | ⟨g', rfl, k1, k2, k3⟩
          · rw [h0] at hjN; simp at hjN
          have hx := k3 j hjN
          obtain ⟨X, hX1, hX2⟩ := drop_cons (R := Q) (k := j) (by have := HQL.out; omega)
          have hfx := HFGi.out j N[j] X (List.getElem?_eq_getElem hjN) hX2
          have hx64 := H64.out _ (List.getElem_mem hjN)
          have hTK := List.take_append_getElem (l := N) hjN
          obtain ⟨x, hxe⟩ : ∃ x, x = N[j] := ⟨_, rfl⟩
          rw [← hxe] at hx hfx hx64 hTK
          have hP2 := HP2.out
          rw [hX1] at hP2
          have HNX := Lib.hid (onext_left hP2 HK2.out.b)
          have HPUT := Lib.hid (fun wz (hh : Kept (· ≠ bp) wr wz) => tab_put_ok (HT2.out.kept (Kept.to_grown hh) (by have := HB.out.2; simpa using this)) (by omega) (x := x) hx64)
          have HFX := Lib.hid hfx
          rw [hfx] at HPUT
          have HTK := Lib.hid (show upTo LV i ++ N.take j ++ [x] = upTo LV i ++ N.take (j + 1) by rw [List.append_assoc, hTK])
          clear hfx hx64 hTK hxe hP2 hX1 hX2 k3
          go_wp2_with (go_at_call 153; refine HNX.out.mono ?_; rintro e w2 ⟨rfl, hp2, hk2⟩; obtain ⟨w3, hrun, ht3, hg3⟩ := HPUT.out w2 hk2)
          have HK3 := Lib.hid (show Kept (fun q => q ≠ bp ∧ q ≠ b) wr w3 from (hk2.less fun q _ hq => hq.1).grown hg3 (fun q e _ hq => by cases e; exact hq.2 rfl))
          have HC3 := Lib.hid (HK2.out.kept HG.out HK3.out (fun q hq => by have := HO.out; have := HB.out; omega) (fun q h1 h2 => by have := HO.out; have := HB.out; omega))
          have HP3 := Lib.hid (hp2.kept (Kept.of_grown hg3) (by have := HB.out.2; omega))
          have HR3 := Lib.hid (HR2.out.kept HK2.out.z (HK3.out.less fun q _ hq => by have := HO.out; have := HB.out; omega))
          rw [HTK.out] at ht3
          have HT3 := Lib.hid ht3
          clear ht3 hg3 hp2 hk2 hrun
          go_wp2
          go_roundw
          case rel => exact ⟨j + 1, hjN, by go_num, HT3, HP3, HC3, HR3⟩
          case measure => simp [intOf] <;> omega
        · have hl2 : ¬ (j : Int) < (N.length : Int) := by omega
          have hjn : j = N.length := by omega
          have hT2 := HT2.out
          rw [hjn, List.take_length] at hT2
          have HPAR := Lib.hid (oparents_any b (n + N.length) (fullD LV D R f i) (upTo LV i ++ N) wr HK2.out.g hT2 (by omega) HFCi.out (HF32.out i))
          have HPX := Lib.hid (show LeftP w0 bp (R.drop (pre M (i + 1))) wr by
            have := HP2.out
            rwa [hjn, HQN.out] at this)
          have hn6 : n + N.length ≤ 1000 * (i + 1 + 1) := by omega
          clear hT2 hjn
          go_wp2_with (go_at_call 174; refine HPAR.out.mono ?_; rintro e w2 ⟨c, K', rfl, hk1, ht1, hc1, hb1⟩)
          have HC3 := Lib.hid (HK2.out.kept (S := fun q => q < wr.heap.size) HG.out (Kept.of_below hb1 (fun _ h => h)) (fun q hq => Nat.lt_of_lt_of_le hq HK2.out.b.size) (fun q h1 h2 => Nat.lt_of_lt_of_le h2 HK2.out.z))
          have HP3 := Lib.hid (HPX.out.kept (Kept.of_below hb1 (S := fun q => q < wr.heap.size) (fun _ h => h)) HK2.out.p)
          have HT3 := Lib.hid (show TabM c (n + N.length) (knownD LV D R f (i + 1)) (upTo LV (i + 1)) w2 from ht1.of (fun y => (hk1 y).trans (HFNi.out y)) (fun y _ => HFU.out i y))
          have HB3 := Lib.hid (show hi ≤ c ∧ c ≠ bp by have := HK2.out.z; have := HK2.out.p; omega)
          clear hk1 ht1 hc1 hb1
          go_wp2
          go_roundw
          case rel => exact ⟨i + 1, c, n + N.length, rfl, by go_num, hiD, hn6, HT3, HP3, HC3, HB3⟩
          case measure => simp [intOf] <;> omega
    · have hl : ¬ (i : Int) < (D : Int) := by omega
      have hie : i = D := by omega
      have hlk := tab_look HT.out (k := 0) (by decide)
      rw [if_pos (by rw [hie]; exact HRT.out), hie, ← HCD.out, show ((0 : Nat) : Int) = 0 from rfl] at hlk
      have hfd : ∀ w : World, (Instr.field 193 (.agg #[.string ⟨Z.toArray⟩]) 0).run Tryz.prog w = .ok (.string ⟨Z.toArray⟩) w := fun _ => by kernel_rfl
      clear hie
      go_wp2
      go_ret
      exact ⟨rfl, HK.out.b⟩
end Go.Proofs.YtmnklonoelpidaaGreatDoor
