/- Layer 10: do positions stand, and their leaves. -/
import Derived.Test.YtfghggfoncfhgaaGreatDoorJ1
import Derived.Test.YtfghggfoncfhgaaGreatDoorJ10
import Derived.Laws.MakeOwn
import Derived.Deep.Cut
import Derived.Deep.RegionHeld3
import Derived.Sort.LotA
import Derived.Sort.AssemblyPlain
namespace Go.Proofs.YtfghggfoncfhgaaGreatDoor
open Go.RowKit Go.Sort

theorem adj_lt {P : List Nat} (h : ∀ t (ht : t + 1 < P.length), P[t] < P[t + 1]) : P.Pairwise (· < ·) := by
  rw [List.pairwise_iff_getElem]
  intro i j hi hj hij
  obtain ⟨k, rfl⟩ : ∃ k, j = i + k + 1 := ⟨j - i - 1, by omega⟩
  induction k with
  | zero => exact h i hj
  | succ k ih => exact Nat.lt_trans (ih (by omega) (by omega)) (h (i + k + 1) (by omega))
theorem lt_adj {P : List Nat} (h : P.Pairwise (· < ·)) (t : Nat) (ht : t + 1 < P.length) : P[t] < P[t + 1] := by
  rw [List.pairwise_iff_getElem] at h
  exact h t (t + 1) (by omega) ht (by omega)
theorem rises_any (ao : Option Addr) (cap : Nat) (P : List Nat) (w : World) (hN : Nums ao P w) (hn : P.length ≤ 100000) :
    Calls Tryz.prog 37 #[.slice ao P.length cap] w fun e w' => e = .returned (.bool (decide (P.Pairwise (· < ·)))) ∧ Below w.heap.size w w' := by
  have HN := Lib.hid hN
  have n1 : (P.length : Int) ≤ 100000 := by omega
  clear hN
  go_enter Tryz.func37, Tryz.ntmps37
  go_wp2
  go_loopw [3] (fun vi wr => ∃ i : Nat, vi = .int .i64 (i : Int) ∧ 1 ≤ i ∧ i ≤ 100001 ∧ Hid (Below w.heap.size w wr) ∧ Hid (∀ t (h : t + 1 < P.length), t + 1 < i → P[t] < P[t + 1])) (fun vi _ => 100002 - (intOf vi).toNat)
  case atStart => exact ⟨1, rfl, Nat.le_refl _, by omega, Lib.hid (Below.refl _ _), Lib.hid (fun t _ h => by omega)⟩
  case round =>
    obtain ⟨i, rfl, h1, h2, HB, HR⟩ := hrel
    by_cases hie : i < P.length
    · obtain ⟨j, hj⟩ : ∃ j, j + 1 = i := ⟨i - 1, by omega⟩
      have hsub : (i : Int) - 1 = (j : Int) := by omega
      have hl : (i : Int) < (P.length : Int) := by omega
      have hl2 : (j : Int) < (P.length : Int) := by omega
      have i0 : (0 : Int) ≤ (i : Int) := by omega
      have j0 : (0 : Int) ≤ (j : Int) := by omega
      have hjl : j < P.length := by omega
      obtain ⟨b, off, rfl, hc⟩ := nums_at (nums_next HN.out HB.out) i hie
      obtain ⟨b', off', e, hc'⟩ := nums_at (nums_next HN.out HB.out) j hjl
      cases e
      have HP := Lib.hid (show ∀ x y, x = P[j] → y = P[i] → (x < y → ∀ t (h : t + 1 < P.length), t + 1 < i + 1 → P[t] < P[t + 1]) ∧ (¬ x < y → ¬ P.Pairwise (· < ·)) from fun x y hx hy => ⟨fun h t ht hti => by
        by_cases c : t = j
        · subst c; subst hj; rw [← hx, ← hy]; exact h
        · exact HR.out t ht (by omega), fun h hp => h (by have := lt_adj hp j (by omega); subst hj; rw [hx, hy]; exact this)⟩)
      obtain ⟨x, hx⟩ : ∃ x, x = P[j] := ⟨_, rfl⟩
      obtain ⟨y, hy⟩ : ∃ y, y = P[i] := ⟨_, rfl⟩
      rw [← hx] at hc'
      rw [← hy] at hc
      have HQ := Lib.hid (HP.out x y hx hy)
      clear hx hy HP hj
      by_cases hxy : x < y
      · have hge : ¬ (x : Int) ≥ (y : Int) := by omega
        have HR2 := Lib.hid (HQ.out.1 hxy)
        clear hxy HQ
        go_wp2
        go_quiet (fail)
        go_wp2
        go_roundw
        case rel => exact ⟨i + 1, by go_num, by omega, by omega, Lib.hid (HB.out.trans ⟨rfl, rfl, rfl, Nat.le_refl _, fun _ _ => rfl⟩), HR2⟩
        case measure => simp [intOf] <;> omega
      · have hge : (x : Int) ≥ (y : Int) := by omega
        have HR2 := Lib.hid (HQ.out.2 hxy)
        clear hxy HQ
        go_wp2
        go_quiet (fail)
        go_wp2
        go_ret
        exact ⟨by rw [decide_eq_false HR2.out]; trivial, HB.out.trans ⟨rfl, rfl, rfl, Nat.le_refl _, fun _ _ => rfl⟩⟩
    · have hl : ¬ (i : Int) < (P.length : Int) := by omega
      have HD := Lib.hid (show P.Pairwise (· < ·) from adj_lt fun t ht => HR.out t ht (by omega))
      go_wp2
      go_ret
      exact ⟨by rw [decide_eq_true HD.out]; trivial, HB.out⟩
theorem last_nil (ao : Option Addr) (cap : Nat) (w : World) : Calls Tryz.prog 36 #[.slice ao 0 cap] w fun e w' => e = .returned (.tuple #[.int .u64 0, .bool false]) ∧ w = w' := by
  go_enter Tryz.func36, Tryz.ntmps36
  go_wp2
  exact bodyPost_ret (v := .tuple #[.int .u64 0, .bool false]) (by simp [results, Tryz.results36, go_sem]) rfl ⟨rfl, rfl⟩
theorem last_any (ao : Option Addr) (cap : Nat) (P : List Nat) (w : World) (hN : Nums ao P w) (h0 : P ≠ []) (hn : P.length ≤ 100000) :
    Calls Tryz.prog 36 #[.slice ao P.length cap] w fun e w' => e = .returned (.tuple #[.int .u64 (P.getLast h0 : Int), .bool true]) ∧ w = w' := by
  have hp := List.length_pos_iff.2 h0
  obtain ⟨j, hj⟩ : ∃ j, j + 1 = P.length := ⟨P.length - 1, by omega⟩
  have hsub : (P.length : Int) - 1 = (j : Int) := by omega
  have hl2 : (j : Int) < (P.length : Int) := by omega
  have j0 : (0 : Int) ≤ (j : Int) := by omega
  have n1 : (P.length : Int) ≤ 100000 := by omega
  have hz : ((P.length : Int) == 0) = false := by rw [beq_eq_false_iff_ne]; omega
  obtain ⟨b, off, rfl, hc⟩ := nums_at hN j (by omega)
  have e : P[j]'(by omega) = P.getLast h0 := by rw [List.getLast_eq_getElem]; simp [← hj]
  rw [e] at hc
  generalize P.getLast h0 = x at *
  clear hN h0 hp hj e
  go_enter Tryz.func36, Tryz.ntmps36
  go_wp2
  exact bodyPost_ret (v := .tuple #[.int .u64 (x : Int), .bool true]) (by simp [results, Tryz.results36, go_sem]) rfl ⟨rfl, rfl⟩
theorem stand_any (ao : Option Addr) (cap : Nat) (P : List Nat) (n : Nat) (w : World) (hN : Nums ao P w) (hn : P.length ≤ 100000) (hnn : n ≤ 1000000) :
    Calls Tryz.prog 17 #[.slice ao P.length cap, .int .i64 (n : Int)] w fun e w' => e = .returned (.bool (standsP P n)) ∧ Below w.heap.size w w' := by
  have hwn : IntKind.u64.wrap (n : Int) = (n : Int) := by rw [IntKind.wrap_u64]; omega
  by_cases h0 : P = []
  · subst h0
    have HL := Lib.hid (last_nil ao cap w)
    have hs : standsP [] n = false := by simp [standsP]
    rw [hs]
    clear hs
    simp only [List.length_nil]
    go_enter Tryz.func17, Tryz.ntmps17
    go_wp2_with (go_at_call 36; refine HL.out.mono ?_; rintro e w' ⟨rfl, rfl⟩)
    go_ret
    exact ⟨rfl, Below.refl _ _⟩
  · have HL := Lib.hid (last_any ao cap P w hN h0 hn)
    have HR := Lib.hid (rises_any ao cap P w hN hn)
    have HS := Lib.hid (show standsP P n = (decide (P.getLast h0 < n) && decide (P.Pairwise (· < ·))) by
      rw [standsP, ← Bool.decide_and]
      refine decide_eq_decide.2 ⟨fun h => ⟨(rising_last h.2.1 h0).1 h.2.2, h.2.1⟩, fun h => ⟨h0, h.2, (rising_last h.2 h0).2 h.1⟩⟩)
    generalize P.getLast h0 = x at *
    by_cases hx : x < n
    · have hx2 : (x : Int) < (n : Int) := by omega
      rw [decide_eq_true hx] at HS
      clear hN hx
      go_enter Tryz.func17, Tryz.ntmps17
      go_wp2_with (first | (go_at_call 36; refine HL.out.mono ?_; rintro e w' ⟨rfl, rfl⟩) | (go_at_call 37; refine HR.out.mono ?_; rintro e w' ⟨rfl, hb⟩; have HB := Lib.hid hb; clear hb))
      go_ret
      exact ⟨by rw [HS.out]; simp, HB.out⟩
    · have hx2 : ¬ (x : Int) < (n : Int) := by omega
      rw [decide_eq_false hx] at HS
      clear hN hx
      go_enter Tryz.func17, Tryz.ntmps17
      go_wp2_with (first | (go_at_call 36; refine HL.out.mono ?_; rintro e w' ⟨rfl, rfl⟩) | (go_at_call 37; refine HR.out.mono ?_; rintro e w' ⟨rfl, hb⟩; have HB := Lib.hid hb; clear hb))
      go_ret
      exact ⟨by rw [HS.out]; simp, Below.refl _ _⟩
/-- a made row of numbers, the first ones of which are laid -/
def ups (V : List Nat) (n : Nat) : List Value := V.map encU ++ List.replicate (n - V.length) (.int .u64 0)
theorem ups_len {V : List Nat} {n : Nat} (h : V.length ≤ n) : (ups V n).length = n := by simp [ups]; omega
theorem ups_put {V : List Nat} {n x : Nat} (h : V.length < n) : (ups V n).toArray.setIfInBounds V.length (encU x) = (ups (V ++ [x]) n).toArray := by
  obtain ⟨m, hm⟩ : ∃ m, n - V.length = m + 1 := ⟨n - V.length - 1, by omega⟩
  simp only [ups, hm, List.replicate_succ, List.setIfInBounds_toArray, List.map_append, List.map_cons, List.map_nil, List.length_append, List.length_cons, List.length_nil, List.append_assoc, List.cons_append, List.nil_append]
  rw [show n - (V.length + (0 + 1)) = m by omega]
  congr 1
  rw [List.set_append_right _ _ (by simp)]
  simp
theorem ups_all {V : List Nat} : ups V V.length = V.map encU := by simp [ups]
theorem nums_ups {w : World} {B : Nat} {V : List Nat} {fr : Nat × Nat} (h : w.heap[B]? = some (.cells (ups V V.length).toArray 23 fr)) : Nums (some ⟨B, 0, none⟩) V w := nums_lit h (by rw [ups_all])
theorem made_nums (n : Nat) : madeCells (Value.int .u64 0).cells n = (ups [] n).toArray := by
  apply Array.ext
  · simp [madeCells, ups]
  · intro i h1 h2
    simp [madeCells, Value.cells, Nat.mod_one, ups]
set_option maxRecDepth 100000 in
set_option maxHeartbeats 1000000 in
theorem mleaves_any (ao : Option Addr) (cap : Nat) (P : List Nat) (d : Int) (w : World) (hN : Nums ao P w) (hn : P.length ≤ 100000) (hP : ∀ x ∈ P, x < 18446744073709551616) :
    Calls Tryz.prog 41 #[.slice ao P.length cap, .int .i64 d] w fun e w' => e = .returned (.slice (some ⟨w.heap.size, 0, none⟩) P.length P.length) ∧ w'.heap[w.heap.size]? = some (.cells (ups (P.map fun x => turnB x d) P.length).toArray 23 (0, 0)) ∧ Below w.heap.size w w' := by
  obtain ⟨i0, hi, hz0, hz1, hz2⟩ := info_parts infoU
  obtain ⟨n, hne⟩ : ∃ n, n = P.length := ⟨_, rfl⟩
  have hm : (Instr.makeSlice 24 (.int .i64 (n : Int)) (.int .i64 (n : Int))).run Tryz.prog w = .ok (.slice (some ⟨w.heap.size, 0, none⟩) n n) (w.alloc (.cells (ups [] n).toArray 23)) := by
    have h := run_make (P := Tryz.prog) w 24 23 i0 (.int .u64 0) Tryz.underlying24 hi hz0 .i64 .i64 (n : Int) (n : Int) (by omega) (by omega) (by rw [hz2]; omega) (by omega)
    rw [h, hz1, Int.toNat_natCast, Nat.mul_one, made_nums]
  obtain ⟨B, hB⟩ : ∃ B, B = w.heap.size := ⟨_, rfl⟩
  have HB0 := Lib.hid (show Below B w (w.alloc (.cells (ups [] n).toArray 23)) from by rw [hB]; exact by0 w _)
  have HN0 := Lib.hid (show (w.alloc (.cells (ups [] n).toArray 23)).heap[B]? = some (.cells (ups [] n).toArray 23 (0, 0)) from by rw [hB]; exact heap_alloc_new w _)
  rw [← hB] at hm
  have HM := Lib.hid hm
  have HN := Lib.hid hN
  have HP := Lib.hid hP
  have HB := Lib.hid hB
  have HE := Lib.hid hne
  have n1 : (n : Int) ≤ 100000 := by omega
  rw [show w.heap.size = B from hB.symm]
  simp only [show P.length = n from hne.symm]
  clear hm hN hP hB hn hi hz0 hz1 hz2 hne
  go_enter Tryz.func41, Tryz.ntmps41
  go_upto_region 1 with fail
  have hmm := HM.out
  go_upto_region 2 with fail
  clear hmm HM
  generalize w.alloc (.cells (ups [] n).toArray 23) = w1 at *
  go_wp2
  go_loopw [6, 7, 13] (fun _ _ vi wr => ∃ k : Nat, k ≤ n ∧ vi = .int .i64 (k : Int) ∧ Hid (wr.heap[B]? = some (.cells (ups ((P.take k).map fun x => turnB x d) n).toArray 23 (0, 0)) ∧ Below B w wr)) (fun _ _ vi _ => n - (intOf vi).toNat)
  case atStart => exact ⟨0, Nat.zero_le _, rfl, Lib.hid ⟨HN0.out, HB0.out⟩⟩
  case round =>
    obtain ⟨k, hk, rfl, HK⟩ := hrel
    by_cases hlt : k < n
    · have k0 : (0 : Int) ≤ (k : Int) := by omega
      have k1 : (k : Int) < (n : Int) := by omega
      have hkP : k < P.length := by rw [← HE.out]; exact hlt
      obtain ⟨b, off, rfl, hc⟩ := nums_at (nums_next HN.out (by rw [← HB.out]; exact HK.out.2)) k hkP
      obtain ⟨x, hx⟩ : ∃ x, x = P[k] := ⟨_, rfl⟩
      rw [← hx] at hc
      have HLY := Lib.hid (fun w => leaf_any x (by rw [hx]; exact HP.out _ (List.getElem_mem hkP)) d w)
      have hlk : ((P.take k).map fun x => turnB x d).length = k := by rw [List.length_map, List.length_take]; omega
      have HPT := Lib.hid (show ((P.take k).map fun x => turnB x d) ++ [turnB x d] = (P.take (k + 1)).map fun x => turnB x d by
        rw [← List.take_append_getElem hkP, List.map_append, hx]; rfl)
      have HUP := Lib.hid (ups_put (V := (P.take k).map fun x => turnB x d) (n := n) (x := turnB x d) (by rw [hlk]; exact hlt))
      rw [HPT.out, hlk] at HUP
      generalize turnB x d = y at *
      obtain ⟨old, hcj⟩ : ∃ old, wr.cell? ⟨B, k, none⟩ = some old := ⟨_, (lit_cell HK.out.1 k).trans (Array.getElem?_eq_getElem (by rw [List.size_toArray, ups_len (by rw [hlk]; omega)]; exact hlt))⟩
      have hfj := lit_free HK.out.1 k
      have HSET := Lib.hid (lit_set (k := k) (encU y) HK.out.1)
      rw [HUP.out] at HSET
      have HSB := Lib.hid (show Below B w (wr.setCell ⟨B, k, none⟩ (encU y)) from HK.out.2.setCell (show B ≤ B from Nat.le_refl _) _)
      clear hx hlk HPT HUP hkP
      go_wp2_with (go_at_call 32; refine (HLY.out _).mono ?_; rintro e w' ⟨rfl, rfl⟩)
      go_roundw
      case rel => exact ⟨k + 1, hlt, by go_num, Lib.hid ⟨HSET.out, HSB.out⟩⟩
      case measure => simp [intOf] <;> omega
    · have hkn : k = n := by omega
      have k1 : ¬ (k : Int) < (n : Int) := by omega
      have HF := Lib.hid (show wr.heap[B]? = some (.cells (ups (P.map fun x => turnB x d) n).toArray 23 (0, 0)) by
        have := HK.out.1
        rw [hkn] at this
        rwa [show P.take n = P from by rw [HE.out, List.take_length]] at this)
      clear hkn
      go_wp2
      go_ret
      exact ⟨rfl, HF.out, HK.out.2⟩
end Go.Proofs.YtfghggfoncfhgaaGreatDoor
/- Sorting a row of numbers in place, of up to forty-nine: what is kept, what an order is. -/
namespace Go.Proofs.YtfghggfoncfhgaaGreatDoor
open Go.RowKit Go.Sort

/-- in order from a on, up to b -/
def Srt (a b : Nat) (d : Array Nat) : Prop := ∀ p q, a ≤ p → p < q → q < b → d[p]! ≤ d[q]!
/-- nothing from a on, up to b, is less than what lies ahead of it -/
def Low (a b : Nat) (d : Array Nat) : Prop := a = 0 ∨ ∀ t, a ≤ t → t < b → d[a - 1]! ≤ d[t]!
/-- block b holds the n numbers of dk in its first cells, and all else is as it was at w0 -/
structure Rw (w0 : World) (b : Nat) (c0 : Array Value) (n : Nat) (dk : Array Nat) (wr : World) : Prop where
  size : dk.size = n
  room : n ≤ c0.size
  blk : wr.heap[b]? = some (.cells (putCells encU 0 dk c0) 23 (0, 0))
  kept : w0.grownBy wr (some b)
  old : b < w0.heap.size
theorem Rw.cell {w0 wr : World} {b n : Nat} {c0 : Array Value} {dk : Array Nat} (h : Rw w0 b c0 n dk wr) (t : Nat) (ht : t < n) : wr.cell? ⟨b, t, none⟩ = some (.int .u64 (dk[t]! : Int)) := by
  have := h.room
  rw [lit_cell h.blk]
  simp [putCells, encU, h.size, ht, show t < c0.size by omega]
theorem Rw.free {w0 wr : World} {b n : Nat} {c0 : Array Value} {dk : Array Nat} (h : Rw w0 b c0 n dk wr) (t : Nat) : wr.frozen? ⟨b, t, none⟩ = false := lit_free h.blk t
theorem Rw.drewN {w0 wr : World} {b n : Nat} {c0 : Array Value} {dk : Array Nat} (h : Rw w0 b c0 n dk wr) (q : Nat) : Rw w0 b c0 n dk (wr.drewN q) :=
  ⟨h.size, h.room, h.blk, ⟨h.kept.os, h.kept.tape, h.kept.output, h.kept.size, h.kept.block⟩, h.old⟩
theorem Rw.drew {w0 wr : World} {b n : Nat} {c0 : Array Value} {dk : Array Nat} (h : Rw w0 b c0 n dk wr) : Rw w0 b c0 n dk wr.drew :=
  ⟨h.size, h.room, h.blk, ⟨h.kept.os, h.kept.tape, h.kept.output, h.kept.size, h.kept.block⟩, h.old⟩
theorem Rw.lt {w0 wr : World} {b n : Nat} {c0 : Array Value} {dk : Array Nat} (h : Rw w0 b c0 n dk wr) : b < wr.heap.size := (Array.getElem?_eq_some_iff.1 h.blk).1
theorem Rw.alloc {w0 wr : World} {b n : Nat} {c0 : Array Value} {dk : Array Nat} (h : Rw w0 b c0 n dk wr) (o : Obj) : Rw w0 b c0 n dk (wr.alloc o) :=
  ⟨h.size, h.room, (alloc_old wr o h.lt).trans h.blk, h.kept.andThen (World.grownBy_alloc wr o none) (fun j e => by cases e), h.old⟩
/-- a store into a block that was made since -/
theorem Rw.store {w0 wr : World} {b n l : Nat} {c0 : Array Value} {dk : Array Nat} (h : Rw w0 b c0 n dk wr) (hl : w0.heap.size ≤ l) (o : Nat) (v : Value) : Rw w0 b c0 n dk (wr.setCell ⟨l, o, none⟩ v) := by
  have hne : b ≠ l := by have := h.old; omega
  refine ⟨h.size, h.room, (lit_far v hne).trans h.blk, ⟨h.kept.os, h.kept.tape, h.kept.output, ?_, fun j hj hn => ?_⟩, h.old⟩
  · rw [show (wr.setCell ⟨l, o, none⟩ v).heap.size = wr.heap.size from by simp [World.setCell]]; exact h.kept.size
  · exact (lit_far v (show j ≠ l by omega)).trans (h.kept.block j hj hn)
theorem Rw.swap {w0 wr : World} {b n : Nat} {c0 : Array Value} {dk : Array Nat} (h : Rw w0 b c0 n dk wr) (i j : Nat) (hi : i < n) (hj : j < n) :
    Rw w0 b c0 n (swp dk i j) ((wr.setCell ⟨b, i, none⟩ (encU dk[j]!)).setCell ⟨b, j, none⟩ (encU dk[i]!)) := by
  have hr := h.room
  have hs := h.size
  refine ⟨by rw [swp_size, h.size], h.room, ?_, ?_, h.old⟩
  · rw [lit_set _ (lit_set _ h.blk)]
    have e1 := putCells_set encU 0 dk c0 i dk[j]! (by omega)
    have e2 := putCells_set encU 0 (dk.setIfInBounds i dk[j]!) c0 j dk[i]! (by simp; omega)
    rw [Nat.zero_add] at e1 e2
    rw [e1, e2]
    rfl
  · refine ⟨h.kept.os, h.kept.tape, h.kept.output, ?_, fun k hk hn => ?_⟩
    · simp [World.setCell]; exact h.kept.size
    · have hne : k ≠ b := fun e => hn (by rw [e])
      exact ((lit_far _ hne).trans (lit_far _ hne)).trans (h.kept.block k hk hn)
end Go.Proofs.YtfghggfoncfhgaaGreatDoor
/- Sorting by a heap. -/
namespace Go.Proofs.YtfghggfoncfhgaaGreatDoor
open Go.RowKit Go.Sort

def ltN (x y : Nat) : Bool := decide (x < y)
theorem swoN : SWO ltN := ⟨fun x => by simp [ltN], fun x y z h1 h2 => by simp [ltN] at *; omega, fun x y z h1 h2 => by simp [ltN] at *; omega⟩
theorem sd_end {hi first root : Nat} {d : Array Nat} (h : hi ≤ 2 * root + 1) : siftDown ltN hi first root d = d := by rw [siftDown, dif_pos (by omega)]
theorem sd_right {hi first root : Nat} {d : Array Nat} (h : 2 * root + 2 < hi) (hc : d[first + 2 * root + 1]! < d[first + 2 * root + 2]!) :
    siftDown ltN hi first root d = if d[first + root]! < d[first + 2 * root + 2]! then siftDown ltN hi first (2 * root + 2) (swp d (first + root) (first + (2 * root + 2))) else d := by
  have e1 : first + (2 * root + 1) = first + 2 * root + 1 := by omega
  have e2 : first + (2 * root + 2) = first + 2 * root + 2 := by omega
  rw [siftDown, dif_neg (by omega), if_pos (by simp [ltN, e1, h]; exact hc)]
  by_cases g : d[first + root]! < d[first + 2 * root + 2]!
  · rw [if_pos g, if_neg (by simp [ltN, e2, g]), dif_pos (by omega)]
  · rw [if_neg g, if_pos (by simp [ltN, e2]; omega)]
theorem sd_no {hi first root : Nat} {d : Array Nat} (hc : ¬ (2 * root + 2 < hi ∧ d[first + 2 * root + 1]! < d[first + 2 * root + 2]!)) : ¬ (decide (2 * root + 1 + 1 < hi) && ltN d[first + (2 * root + 1)]! d[first + (2 * root + 1) + 1]!) = true := by
  intro h
  simp [ltN] at h
  exact hc ⟨h.1, by have := h.2; rwa [show first + (2 * root + 1) + 1 = first + 2 * root + 2 by omega, show first + (2 * root + 1) = first + 2 * root + 1 by omega] at this⟩
theorem sd_left {hi first root : Nat} {d : Array Nat} (h : 2 * root + 1 < hi) (hc : ¬ (2 * root + 2 < hi ∧ d[first + 2 * root + 1]! < d[first + 2 * root + 2]!)) :
    siftDown ltN hi first root d = if d[first + root]! < d[first + 2 * root + 1]! then siftDown ltN hi first (2 * root + 1) (swp d (first + root) (first + (2 * root + 1))) else d := by
  have e1 : first + (2 * root + 1) = first + 2 * root + 1 := by omega
  rw [siftDown, dif_neg (by omega), if_neg (sd_no hc)]
  by_cases g : d[first + root]! < d[first + 2 * root + 1]!
  · rw [if_pos g, if_neg (by simp [ltN, e1, g])]
  · rw [if_neg g, if_pos (by simp [ltN, e1]; omega)]
set_option maxRecDepth 100000 in
set_option maxHeartbeats 2000000 in
theorem sift_any (w0 : World) (b n cap : Nat) (c0 : Array Value) (hn : n ≤ 100000) (lo hi first : Nat) (d : Array Nat) (w : World) (hR : Rw w0 b c0 n d w) (hlo : lo ≤ hi) (hf : first + hi ≤ n) :
    Calls Tryz.prog 110 #[.slice (some ⟨b, 0, none⟩) n cap, .int .i64 (lo : Int), .int .i64 (hi : Int), .int .i64 (first : Int)] w fun e w' => e = .returned (.tuple #[]) ∧ Rw w0 b c0 n (siftDown ltN hi first lo d) w' := by
  have HR := Lib.hid hR
  have n1 : (n : Int) ≤ 100000 := by omega
  have n2 : (first : Int) + (hi : Int) ≤ (n : Int) := by omega
  clear hR
  go_enter Tryz.func110, Tryz.ntmps110
  go_wp2
  go_loopw [8] (fun v wr => ∃ (root : Nat) (dk : Array Nat), v = .int .i64 (root : Int) ∧ root ≤ hi ∧ Hid (Rw w0 b c0 n dk wr) ∧ Hid (siftDown ltN hi first root dk = siftDown ltN hi first lo d)) (fun v _ => hi - (intOf v).toNat)
  case atStart => exact ⟨lo, d, rfl, hlo, HR, Lib.hid rfl⟩
  case round =>
    obtain ⟨root, dk, rfl, hr, HD, HE⟩ := hrel
    by_cases h0 : hi ≤ 2 * root + 1
    · have h0z : (hi : Int) ≤ 2 * (root : Int) + 1 := by omega
      have HQ := Lib.hid (show dk = siftDown ltN hi first lo d from (sd_end h0).symm.trans HE.out)
      go_wp2
      go_end0
      exact ⟨rfl, HQ.out ▸ HD.out⟩
    · obtain ⟨c, hc⟩ : ∃ c, c = 2 * root + 1 := ⟨_, rfl⟩
      have hc1 : 2 * (root : Int) + 1 = (c : Int) := by omega
      have h0z : ¬ ((hi : Int) ≤ (c : Int)) := by omega
      obtain ⟨x0, hx0⟩ : ∃ x, x = first + root := ⟨_, rfl⟩
      obtain ⟨x1, hx1⟩ : ∃ x, x = first + 2 * root + 1 := ⟨_, rfl⟩
      have w0' : IntKind.i64.wrap ((first : Int) + (root : Int)) = (x0 : Int) := by rw [IntWalk.i64_in _ (by omega)]; omega
      have w1' : IntKind.i64.wrap ((first : Int) + (c : Int)) = (x1 : Int) := by rw [IntWalk.i64_in _ (by omega)]; omega
      have b0 : (0 : Int) ≤ (x0 : Int) ∧ (x0 : Int) < (n : Int) := by omega
      have b1 : (0 : Int) ≤ (x1 : Int) ∧ (x1 : Int) < (n : Int) := by omega
      obtain ⟨y0, hy0⟩ : ∃ y, y = dk[x0]! := ⟨_, rfl⟩
      obtain ⟨y1, hy1⟩ : ∃ y, y = dk[x1]! := ⟨_, rfl⟩
      have f0 : wr.cell? ⟨b, x0, none⟩ = some (.int .u64 (y0 : Int)) := by rw [hy0]; exact HD.out.cell x0 (by omega)
      have f1 : wr.cell? ⟨b, x1, none⟩ = some (.int .u64 (y1 : Int)) := by rw [hy1]; exact HD.out.cell x1 (by omega)
      have g0 := HD.out.free x0
      have g1 := HD.out.free x1
      have HY0 := Lib.hid hy0
      have HY1 := Lib.hid hy1
      clear hy0 hy1
      have HX0 := Lib.hid hx0
      have HX1 := Lib.hid hx1
      have HCc := Lib.hid hc
      by_cases h1 : 2 * root + 2 < hi
      · have hw2 : IntKind.i64.wrap ((c : Int) + 1) = ((c + 1 : Nat) : Int) := by rw [IntWalk.i64_in _ (by omega)]; omega
        obtain ⟨e, he⟩ : ∃ e, e = c + 1 := ⟨_, rfl⟩
        rw [← he] at hw2
        have h1z : (e : Int) < (hi : Int) := by omega
        have hce : (c : Int) + 1 = (e : Int) := by omega
        have w3' : IntKind.i64.wrap ((first : Int) + (e : Int)) = ((first + 2 * root + 2 : Nat) : Int) := by rw [IntWalk.i64_in _ (by omega)]; omega
        obtain ⟨x2, hx2⟩ : ∃ x, x = first + 2 * root + 2 := ⟨_, rfl⟩
        rw [← hx2] at w3'
        have w2' : IntKind.i64.wrap ((x1 : Int) + 1) = (x2 : Int) := by rw [IntWalk.i64_in _ (by omega)]; omega
        have b2 : (0 : Int) ≤ (x2 : Int) ∧ (x2 : Int) < (n : Int) := by omega
        obtain ⟨y2, hy2⟩ : ∃ y, y = dk[x2]! := ⟨_, rfl⟩
        have f2 : wr.cell? ⟨b, x2, none⟩ = some (.int .u64 (y2 : Int)) := by rw [hy2]; exact HD.out.cell x2 (by omega)
        have g2 := HD.out.free x2
        have HY2 := Lib.hid hy2
        clear hy2
        have HX2 := Lib.hid hx2
        have HEe := Lib.hid he
        clear hx0 hx1 hx2 hc he
        go_wp2
        go_quiet (first | (go_at_call 107; refine Calls.quiet_of_same ((less_any _ _ _).mono (fun e w' h => ⟨h.1, h.2.symm⟩))))
        go_wp2
        · have hlt12 : y1 < y2 := by omega
          have HD2 := Lib.hid (HD.out.drewN nq)
          generalize wr.drewN nq = v1 at *
          have k0 : v1.cell? ⟨b, x0, none⟩ = some (.int .u64 (y0 : Int)) := by rw [HY0.out]; exact HD2.out.cell x0 (by omega)
          have kX : v1.cell? ⟨b, x2, none⟩ = some (.int .u64 (y2 : Int)) := by rw [HY2.out]; exact HD2.out.cell x2 (by omega)
          have l0 := HD2.out.free x0
          have lX := HD2.out.free x2
          go_quiet (first | (go_at_call 107; refine Calls.quiet_of_same ((less_any _ _ _).mono (fun e w' h => ⟨h.1, h.2.symm⟩))))
          go_wp2
          · have hlt : ¬ y0 < y2 := by simpa using (‹(!decide (y0 < y2)) = true›)
            have hq := HE.out
            rw [sd_right (by omega) (by rw [← HX2.out, ← HX1.out, ← HY1.out, ← HY2.out]; exact hlt12), ← HX0.out, ← HX2.out, ← HY0.out, ← HY2.out, if_neg hlt] at hq
            exact bodyPost_ret (results_none rfl _ _ _) rfl ⟨rfl, hq ▸ HD2.out.drewN _⟩
          · have hlt : y0 < y2 := by simpa using (‹(!decide (y0 < y2)) = false›)
            have ne1 : ¬ x0 = x2 := by have := HX0.out; have := HX2.out; omega
            have ne2 : ¬ x2 = x0 := fun h => ne1 h.symm
            go_region
            all_goals go_wp2
            go_roundw
            case rel =>
              have hS := (HD2.out.drewN (nq + 1)).swap x0 x2 (by omega) (by omega)
              rw [← HY2.out, ← HY0.out] at hS
              refine ⟨2 * root + 2, swp dk x0 x2, by congr 1; omega, by omega, Lib.hid hS, Lib.hid ?_⟩
              have hq := HE.out
              rw [sd_right (by omega) (by rw [← HX2.out, ← HX1.out, ← HY1.out, ← HY2.out]; exact hlt12), ← HX0.out, ← HX2.out, ← HY0.out, ← HY2.out, if_pos hlt] at hq
              rw [show first + (2 * root + 2) = x2 by have := HX2.out; omega] at hq
              exact hq
            case measure => simp [intOf] <;> omega
        · have hlt12 : ¬ y1 < y2 := by omega
          have HD2 := Lib.hid (HD.out.drewN nq)
          generalize wr.drewN nq = v1 at *
          have k0 : v1.cell? ⟨b, x0, none⟩ = some (.int .u64 (y0 : Int)) := by rw [HY0.out]; exact HD2.out.cell x0 (by omega)
          have kX : v1.cell? ⟨b, x1, none⟩ = some (.int .u64 (y1 : Int)) := by rw [HY1.out]; exact HD2.out.cell x1 (by omega)
          have l0 := HD2.out.free x0
          have lX := HD2.out.free x1
          go_quiet (first | (go_at_call 107; refine Calls.quiet_of_same ((less_any _ _ _).mono (fun e w' h => ⟨h.1, h.2.symm⟩))))
          go_wp2
          · have hlt : ¬ y0 < y1 := by simpa using (‹(!decide (y0 < y1)) = true›)
            have hq := HE.out
            rw [sd_left (by omega) (by rw [← HX2.out, ← HX1.out, ← HY1.out, ← HY2.out]; exact fun h => hlt12 h.2), ← HX0.out, ← HX1.out, ← HY0.out, ← HY1.out, if_neg hlt] at hq
            exact bodyPost_ret (results_none rfl _ _ _) rfl ⟨rfl, hq ▸ HD2.out.drewN _⟩
          · have hlt : y0 < y1 := by simpa using (‹(!decide (y0 < y1)) = false›)
            have ne1 : ¬ x0 = x1 := by have := HX0.out; have := HX1.out; omega
            have ne2 : ¬ x1 = x0 := fun h => ne1 h.symm
            go_region
            all_goals go_wp2
            go_roundw
            case rel =>
              have hS := (HD2.out.drewN (nq + 1)).swap x0 x1 (by omega) (by omega)
              rw [← HY1.out, ← HY0.out] at hS
              refine ⟨2 * root + 1, swp dk x0 x1, by congr 1; omega, by omega, Lib.hid hS, Lib.hid ?_⟩
              have hq := HE.out
              rw [sd_left (by omega) (by rw [← HX2.out, ← HX1.out, ← HY1.out, ← HY2.out]; exact fun h => hlt12 h.2), ← HX0.out, ← HX1.out, ← HY0.out, ← HY1.out, if_pos hlt] at hq
              rw [show first + (2 * root + 1) = x1 by have := HX1.out; omega] at hq
              exact hq
            case measure => simp [intOf] <;> omega
      · obtain ⟨e, he⟩ : ∃ e, e = c + 1 := ⟨_, rfl⟩
        have hw2 : IntKind.i64.wrap ((c : Int) + 1) = (e : Int) := by rw [IntWalk.i64_in _ (by omega)]; omega
        have h1z : decide (e < hi) = false := by rw [decide_eq_false_iff_not]; omega
        clear he
        clear hx0 hx1 hc
        go_wp2
        go_quiet (first | (go_at_call 107; refine Calls.quiet_of_same ((less_any _ _ _).mono (fun e w' h => ⟨h.1, h.2.symm⟩))))
        go_wp2
        have HD2 := Lib.hid (HD.out.drewN nq)
        generalize wr.drewN nq = v1 at *
        have k0 : v1.cell? ⟨b, x0, none⟩ = some (.int .u64 (y0 : Int)) := by rw [HY0.out]; exact HD2.out.cell x0 (by omega)
        have kX : v1.cell? ⟨b, x1, none⟩ = some (.int .u64 (y1 : Int)) := by rw [HY1.out]; exact HD2.out.cell x1 (by omega)
        have l0 := HD2.out.free x0
        have lX := HD2.out.free x1
        go_quiet (first | (go_at_call 107; refine Calls.quiet_of_same ((less_any _ _ _).mono (fun e w' h => ⟨h.1, h.2.symm⟩))))
        go_wp2
        · have hlt : ¬ y0 < y1 := by simpa using (‹(!decide (y0 < y1)) = true›)
          have hq := HE.out
          rw [sd_left (by omega) (fun h => h1 h.1), ← HX0.out, ← HX1.out, ← HY0.out, ← HY1.out, if_neg hlt] at hq
          exact bodyPost_ret (results_none rfl _ _ _) rfl ⟨rfl, hq ▸ HD2.out.drewN _⟩
        · have hlt : y0 < y1 := by simpa using (‹(!decide (y0 < y1)) = false›)
          have ne1 : ¬ x0 = x1 := by have := HX0.out; have := HX1.out; omega
          have ne2 : ¬ x1 = x0 := fun h => ne1 h.symm
          go_region
          all_goals go_wp2
          go_roundw
          case rel =>
            have hS := (HD2.out.drewN (nq + 1)).swap x0 x1 (by omega) (by omega)
            rw [← HY1.out, ← HY0.out] at hS
            refine ⟨2 * root + 1, swp dk x0 x1, by congr 1; omega, by omega, Lib.hid hS, Lib.hid ?_⟩
            have hq := HE.out
            rw [sd_left (by omega) (fun h => h1 h.1), ← HX0.out, ← HX1.out, ← HY0.out, ← HY1.out, if_pos hlt] at hq
            rw [show first + (2 * root + 1) = x1 by have := HX1.out; omega] at hq
            exact hq
          case measure => simp [intOf] <;> omega
end Go.Proofs.YtfghggfoncfhgaaGreatDoor
