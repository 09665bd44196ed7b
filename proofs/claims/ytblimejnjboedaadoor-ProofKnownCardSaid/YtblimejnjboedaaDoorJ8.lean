/- Layout's leaves: comparing, siblings, parents, what stands, turned bits. -/
import Derived.Test.YtblimejnjboedaaDoorJ2
import Derived.Test.YtblimejnjboedaaDoorProg
import Derived.Lib.Hide
import Derived.Handy
import Derived.Maps.OwnIn
import Derived.CellFam
import Derived.BigGuard
import Derived.BigCall
import Derived.Deep.Draws
import Derived.Deep.QuietTactic
import Derived.BigQuiet
import Derived.Sort.Grow
import Derived.Deep.RegionHeld3
import Derived.StillTailTactics
import Derived.Shelf.Small.Bits
import Derived.Shelf.Strconv.Itoa0
import Derived.Laws.AppendOwn
import Derived.LoopTactic
import Derived.LoopN
import Derived.Laws.MakeOwn
import Derived.Maps.AppendAt
namespace Go.Proofs.YtblimejnjboedaaDoor
open Go.RowKit

set_option maxHeartbeats 400000 in
theorem isNaN_any (x : Int) (w : World) : Calls Tryd.prog 99 #[.int .u64 x] w fun e w' => e = .returned (.bool false) ∧ w = w' := by
  go_enter Tryd.func99, Tryd.ntmps99
  go_wp2
  go_ret
  exact ⟨by simp, rfl⟩
theorem less_any (x y : Int) (w : World) : Calls Tryd.prog 91 #[.int .u64 x, .int .u64 y] w fun e w' => e = .returned (.bool (decide (x < y))) ∧ w = w' := by
  go_enter Tryd.func91, Tryd.ntmps91
  go_wp2_with (go_at_call 99; refine (isNaN_any _ _).mono ?_; rintro e w' ⟨rfl, rfl⟩)
  go_ret
  exact ⟨rfl, rfl⟩
theorem sibling_any (k : Nat) (hk : k < 18446744073709551616) (w : World) : Calls Tryd.prog 63 #[.int .u64 (k : Int)] w fun e w' => e = .returned (.int .u64 (sib k : Int)) ∧ w = w' := by
  have h1 : bits .xor .u64 (k : Int) ((1 : Nat) : Int) = ((k ^^^ 1 : Nat) : Int) := u64_xor_nat k 1 hk (by decide)
  rw [xor_one] at h1
  generalize sib k = s at *
  go_enter Tryd.func63, Tryd.ntmps63
  go_wp2
  go_ret
  exact ⟨by simp at h1; simp [h1], rfl⟩
end Go.Proofs.YtblimejnjboedaaDoor
/- Layout's sets: has, gather; leaves and elements. -/
namespace Go.Proofs.YtblimejnjboedaaDoor
open Go.RowKit
open Go.Maps (Keyed)

theorem keyU : Keyed Tryd.prog 33 := Maps.int_keyed Tryd.underlying33
theorem key_of {k : Nat} (h : k < 18446744073709551616) : keyOf Tryd.prog 33 (.int .u64 (k : Int)) = some (lit k) := Maps.keyOf_int_mk Tryd.underlying33 (lit_wf h)
abbrev SetU (b n : Nat) (K : List Nat) (w : World) : Prop := SetAt Tryd.prog 33 b n K w
abbrev RangeU (b r n : Nat) (K V : List Nat) (w : World) : Prop := RangeAt Tryd.prog 33 b r n K V w
theorem has_any (b n : Nat) (K : List Nat) (k : Nat) (hk : k < 18446744073709551616) (w : World) (hs : SetU b n K w) : Calls Tryd.prog 64 #[.map (some b), .int .u64 (k : Int)] w fun e w' => e = .returned (.bool (decide (k ∈ K))) ∧ w.grownBy w' none := by
  obtain ⟨D, hown, hD⟩ := hs
  have hd := hD k
  have hkey := key_of hk
  clear hD
  go_enter Tryd.func64, Tryd.ntmps64
  go_wp2_with (at_lookup; refine wpList_lookup_own_unit _ rfl _ _ 70 rfl 33 109 keyU Tryd.underlying70 (Tryd.zeroValue109 _) b n D rfl hown _ _ rfl hkey ?_)
  go_ret
  refine ⟨by rw [← hd]; rfl, ?_⟩
  exact World.grownBy_alloc _ _ _

/-- the slice at ao lays the numbers L -/
def Nums (ao : Option Addr) (L : List Nat) (w : World) : Prop := L = [] ∨ ∃ b off, ao = some ⟨b, off, none⟩ ∧ b < w.heap.size ∧ ∀ i (h : i < L.length), w.cell? ⟨b, off + i, none⟩ = some (.int .u64 (L[i] : Int))
theorem Nums.kept {S : Nat → Prop} {ao : Option Addr} {L : List Nat} {w w' : World} (h : Nums ao L w) (hk : Kept S w w') (hS : ∀ b, (∃ off, ao = some ⟨b, off, none⟩) → S b) : Nums ao L w' := by
  rcases h with h | ⟨b, off, rfl, h2, h3⟩
  · exact .inl h
  · refine .inr ⟨b, off, rfl, by have := hk.size; omega, fun i hi => ?_⟩
    rw [World.cell?_of_block (hk.block b h2 (hS b ⟨off, rfl⟩))]
    exact h3 i hi
theorem Nums.grown {row : Option Nat} {ao : Option Addr} {L : List Nat} {w w' : World} (h : Nums ao L w) (hg : w.grownBy w' row) (hS : ∀ b off, ao = some ⟨b, off, none⟩ → some b ≠ row) : Nums ao L w' := by
  rcases h with h | ⟨b, off, rfl, h2, h3⟩
  · exact .inl h
  · refine .inr ⟨b, off, rfl, by have := hg.size; omega, fun i hi => ?_⟩
    rw [World.cell?_of_block (hg.block b h2 (hS b off rfl))]
    exact h3 i hi
theorem SetAt.no_cell {P : Program} {ku : TypeId} {b n : Nat} {K : List Nat} {w : World} (h : SetAt P ku b n K w) (o : Nat) : w.cell? ⟨b, o, none⟩ = none := by
  obtain ⟨D, ⟨es, clock, hb, _⟩, _⟩ := h
  simp [World.cell?, hb]
set_option maxRecDepth 100000 in
set_option maxHeartbeats 1000000 in
theorem gather_any (b n : Nat) (K L : List Nat) (ao : Option Addr) (cap : Nat) (w : World) (hs : SetU b n K w) (hn : Nums ao L w) (hL : ∀ x ∈ L, x < 18446744073709551616) (hb : n + L.length ≤ 100000) :
    Calls Tryd.prog 61 #[.map (some b), .slice ao L.length cap] w fun e w' => e = .returned (.tuple #[]) ∧ SetU b (n + L.length) (K ++ L) w' ∧ w.grownBy w' (some b) := by
  have HL := Lib.hid hL
  have HN := Lib.hid hn
  have HS := Lib.hid hs
  have n1 : (L.length : Int) ≤ 100000 := by omega
  clear hL hn hs
  go_enter Tryd.func61, Tryd.ntmps61
  go_wp2
  go_loopw [8] (fun i wr => ∃ k : Nat, k ≤ L.length ∧ i = .int .i64 (k : Int) ∧ Hid (SetU b (n + k) (K ++ L.take k) wr) ∧ Hid (w.grownBy wr (some b))) (fun i _ => (L.length : Int).toNat - (intOf i).toNat)
  case atStart => exact ⟨0, Nat.zero_le _, rfl, Lib.hid (by simpa using HS.out), Lib.hid ⟨rfl, rfl, rfl, Nat.le_refl _, fun _ _ _ => rfl⟩⟩
  case round =>
    obtain ⟨k, hk, rfl, HT, HG⟩ := hrel
    by_cases hke : k = L.length
    · have hl : ¬ (k : Int) < (L.length : Int) := by omega
      have HE := Lib.hid (show SetU b (n + L.length) (K ++ L) wr by have := HT.out; rw [hke, List.take_length] at this; exact this)
      clear hk hke
      go_wp2
      go_end0
      exact ⟨rfl, HE.out, HG.out⟩
    · have hkl : k < L.length := by omega
      have hl : (k : Int) < (L.length : Int) := by omega
      have i0 : (0 : Int) ≤ (k : Int) := by omega
      obtain ⟨x, hx⟩ : ∃ x, L[k] = x := ⟨_, rfl⟩
      have hx64 : x < 18446744073709551616 := hx ▸ HL.out _ (List.getElem_mem hkl)
      have hkey := key_of hx64
      rcases HN.out with h0 | ⟨bb, off, rfl, hbb, hcell⟩
      · subst h0; simp at hkl
      · have hne : bb ≠ b := fun e => by
          have h1 := hcell k hkl
          rw [e, HS.out.no_cell] at h1
          cases h1
        have hc : wr.cell? ⟨bb, off + k, none⟩ = some (.int .u64 (x : Int)) := by
          rw [World.cell?_of_block (HG.out.block bb hbb (fun e => hne (Option.some.inj e))), ← hx]
          exact hcell k hkl
        have HX := Lib.hid hx
        clear hx hcell hke
        obtain ⟨D, hown, hD⟩ := HT.out
        have HD := Lib.hid hD
        clear hD
        go_wp2_with (at_mapUpdate; refine wpList_mapUpdate_own _ rfl _ _ _ 70 rfl 33 109 keyU Tryd.underlying70 unitElem b (n + k) D rfl hown (by unfold maxLen; omega) _ _ (lit x) rfl rfl hkey (.agg []) [] unitElem_mk ?_; intro w1 hown1 hgrow1; have HO1 := Lib.hid hown1; have HG1 := Lib.hid hgrow1; clear hown1 hgrow1)
        go_roundw
        case rel =>
          refine ⟨k + 1, hkl, by go_num, Lib.hid ?_, Lib.hid ?_⟩
          · have := SetAt.push (x := x) hown HD.out HO1.out
            rw [List.append_assoc, ← HX.out, List.take_append_getElem hkl] at this
            exact this
          · exact HG.out.andThen HG1.out (fun j hj => .inr hj)
        case measure => simp [intOf] <;> omega
end Go.Proofs.YtblimejnjboedaaDoor
/- The library's sort of numbers, where it goes by insertion: no more than twelve. -/
namespace Go.Proofs.YtblimejnjboedaaDoor
open Go.RowKit Go.Sort

/-- the row is some order of what it was -/
structure Ord (w0 : World) (blk off : Nat) (d0 : Array Nat) (dk : Array Nat) (wr : World) : Prop where
  p : PermIn 0 d0.size d0 dk
  w : ∃ n, wr = putRow encU (Sort.ahead w0 n) blk off dk
theorem Ord.size {w0 wr : World} {blk off : Nat} {d0 dk : Array Nat} (h : Ord w0 blk off d0 dk wr) : dk.size = d0.size := h.p.1
theorem Ord.start {w0 : World} {blk off : Nat} {d0 : Array Nat} (h : Holds encU w0 blk off d0) : Ord w0 blk off d0 d0 w0 := ⟨permIn_refl _ _ _, 0, (putRow_self _ _ _ _ _ h).symm⟩
theorem Ord.cell {w0 wr : World} {blk off : Nat} {d0 dk : Array Nat} (h : Ord w0 blk off d0 dk wr) (h0 : Holds encU w0 blk off d0) (t : Nat) (ht : t < d0.size) : wr.cell? ⟨blk, off + t, none⟩ = some (.int .u64 (dk[t]! : Int)) ∧ wr.frozen? ⟨blk, off + t, none⟩ = false := by
  obtain ⟨n, rfl⟩ := h.w
  exact ⟨cell?_putRow _ _ _ _ d0 dk (holds_ahead _ _ _ _ _ _ h0) h.size t (by rw [h.size]; exact ht), by rw [frozen?_putRow]; exact (holds_ahead encU w0 n _ _ _ h0 t ht).2⟩
theorem ahead_put (w : World) (n q blk off : Nat) (d : Array Nat) : (putRow encU (Sort.ahead w n) blk off d).drewN q = putRow encU (Sort.ahead w (n + q)) blk off d := by
  show Sort.ahead (putRow encU (Sort.ahead w n) blk off d) q = _
  rw [putRow_ahead encU w n, ahead_ahead, ← putRow_ahead]
theorem Ord.drewN {w0 wr : World} {blk off : Nat} {d0 dk : Array Nat} (h : Ord w0 blk off d0 dk wr) (q : Nat) : Ord w0 blk off d0 dk (wr.drewN q) := by
  obtain ⟨n, hw⟩ := h.w
  exact ⟨h.p, n + q, by rw [hw]; exact ahead_put _ _ _ _ _ _⟩
theorem Ord.swap {w0 wr : World} {blk off : Nat} {d0 dk : Array Nat} (h : Ord w0 blk off d0 dk wr) (i j : Nat) (hi : i < d0.size) (hj : j < d0.size) :
    Ord w0 blk off d0 (swp dk i j) ((wr.setCell ⟨blk, off + i, none⟩ (encU dk[j]!)).setCell ⟨blk, off + j, none⟩ (encU dk[i]!)) := by
  obtain ⟨n, hw⟩ := h.w
  refine ⟨permIn_trans _ _ _ _ _ h.p (swp_permIn _ _ _ _ _ (Nat.zero_le _) hi (Nat.zero_le _) hj (by rw [h.size]; exact Nat.le_refl _)), n, ?_⟩
  rw [hw]
  exact putRow_swp encU _ blk off dk i j (by rw [h.size]; exact hi) (by rw [h.size]; exact hj)
theorem Up.ends {d : Array Nat} {i n : Nat} (h : Up d i) (hn : n ≤ i) : Up d n := fun p q hpq hq => h p q hpq (by omega)
set_option maxRecDepth 100000 in
set_option maxHeartbeats 2000000 in
theorem ins_any (blk off cap : Nat) (d : Array Nat) (w : World) (hH : Holds encU w blk off d) (hsz : d.size ≤ 100000) :
    Calls Tryd.prog 85 #[.slice (some ⟨blk, off, none⟩) d.size cap, .int .i64 0, .int .i64 (d.size : Int)] w fun e w' => e = .returned (.tuple #[]) ∧ ∃ dk, Ord w blk off d dk w' ∧ Up dk d.size := by
  have HH := Lib.hid hH
  have HO := Lib.hid (Ord.start hH)
  have n1 : (d.size : Int) ≤ 100000 := by omega
  clear hH
  go_enter Tryd.func85, Tryd.ntmps85
  go_wp2
  go_loopw [6] (fun vi wr => ∃ (i : Nat) (dk : Array Nat), vi = .int .i64 (i : Int) ∧ 0 < i ∧ i ≤ d.size + 1 ∧ Hid (Ord w blk off d dk wr) ∧ Hid (Up dk i)) (fun vi _ => d.size + 1 - (intOf vi).toNat)
  case atStart => exact ⟨1, d, by go_num, by omega, by omega, HO, Lib.hid fun p q h1 h2 => by omega⟩
  case round =>
    obtain ⟨i, dk, rfl, hi0, hib, HD, HU⟩ := hrel
    by_cases hlt : i < d.size
    · have hl : (i : Int) < (d.size : Int) := by omega
      go_wp2
      go_loopw [7] (fun vj wr2 => ∃ (j : Nat) (dj : Array Nat), vj = .int .i64 (j : Int) ∧ j ≤ i ∧ Hid (Ord w blk off d dj wr2) ∧ Hid (UpBut dj i j)) (fun vj _ => (intOf vj).toNat)
      case atStart => exact ⟨i, dk, rfl, Nat.le_refl _, HD, Lib.hid HU.out.start⟩
      case round =>
        obtain ⟨j, dj, rfl, hji, HJ, HB⟩ := hrel
        obtain ⟨G, hG⟩ : ∃ G : Nat → Nat, ∀ t, G t = dj[t]! := ⟨fun t => dj[t]!, fun _ => rfl⟩
        have hcw : ∀ t, t < d.size → wr.cell? ⟨blk, off + t, none⟩ = some (.int .u64 (G t : Int)) := fun t ht => by rw [hG]; exact (HJ.out.cell HH.out t ht).1
        have hfw : ∀ t, t < d.size → wr.frozen? ⟨blk, off + t, none⟩ = false := fun t ht => (HJ.out.cell HH.out t ht).2
        have HG := Lib.hid hG
        clear hG
        go_wp2
        by_cases hja : 0 < j
        · have hja' : (0 : Int) < (j : Int) := by omega
          go_quiet (first | (go_at_call 91; refine Calls.quiet_of_same ((less_any _ _ _).mono (fun e w' h => ⟨h.1, h.2.symm⟩))))
          go_wp2
          · have hlt2 : G j < G (j - 1) := by omega
            go_region
            all_goals go_wp2
            go_roundw
            case rel =>
              obtain ⟨m, rfl⟩ : ∃ m, j = m + 1 := ⟨j - 1, by omega⟩
              rw [show m + 1 - 1 = m from rfl] at hlt2
              refine ⟨m, swp dj (m + 1) m, by congr 1; omega, by omega, Lib.hid ?_, Lib.hid (HB.out.step (by omega) (by rw [HJ.out.size]; exact hlt) (by rw [← HG.out, ← HG.out]; exact hlt2))⟩
              have hS := (HJ.out.drewN (nq + 1)).swap (m + 1) m (by omega) (by omega)
              rw [← HG.out, ← HG.out] at hS
              exact hS
            case measure => simp [intOf]; omega
          · have hlt2 : ¬ G j < G (j - 1) := by omega
            go_roundw
            case rel => exact ⟨i + 1, dj, by go_num, by omega, by omega, Lib.hid (HJ.out.drewN nq), Lib.hid (HB.out.stop (.inr (by rw [← HG.out, ← HG.out]; omega)))⟩
            case measure => simp [intOf]; omega
        · have hja' : ¬ (0 : Int) < (j : Int) := by omega
          go_quiet (first | (go_at_call 91; refine Calls.quiet_of_same ((less_any _ _ _).mono (fun e w' h => ⟨h.1, h.2.symm⟩))))
          go_wp2
          go_roundw
          case rel => exact ⟨i + 1, dj, by go_num, by omega, by omega, Lib.hid (HJ.out.drewN nq), Lib.hid (HB.out.stop (.inl (by omega)))⟩
          case measure => simp [intOf]; omega
    · have hl : ¬ (i : Int) < (d.size : Int) := by omega
      go_wp2
      go_end0
      exact ⟨rfl, dk, HD.out, HU.out.ends (by omega)⟩
end Go.Proofs.YtblimejnjboedaaDoor
/- The library's Len64 by the shelf; bits.Len, the depth; the sort of no more than twelve. -/
namespace Go.Proofs.YtblimejnjboedaaDoor
open Go.RowKit Go.Sort

/-- what the sort's own call answers is what that by insertion does, where there are no more than twelve -/
theorem pdq_of (ao : Option Addr) (n cap : Nat) (hn : n ≤ 12) (lim : Int) (w : World) (R : Ending → World → Prop) (hI : Calls Tryd.prog 85 #[.slice ao n cap, .int .i64 0, .int .i64 (n : Int)] w fun e w' => e = .returned (.tuple #[]) ∧ R e w') :
    Calls Tryd.prog 77 #[.slice ao n cap, .int .i64 0, .int .i64 (n : Int), .int .i64 lim] w R := by
  have HI := Lib.hid hI
  have h12 : (n : Int) ≤ 12 := by omega
  clear hI
  go_enter Tryd.func77, Tryd.ntmps77
  go_wp2
  refine wp_loop_rounds 1 ?_
  rw [rounds_succ]
  go_wp2_with (go_at_call 85; refine HI.out.mono ?_; rintro e w' ⟨rfl, hR⟩)
  go_end0
  exact hR
theorem sort_of (ao : Option Addr) (n cap : Nat) (hn : n ≤ 12) (w : World) (R : Ending → World → Prop) (hI : Calls Tryd.prog 85 #[.slice ao n cap, .int .i64 0, .int .i64 (n : Int)] w fun e w' => e = .returned (.tuple #[]) ∧ R e w') :
    Calls Tryd.prog 65 #[.slice ao n cap] w fun e w' => e = .returned (.tuple #[]) ∧ R e w' := by
  have HP := Lib.hid (pdq_of ao n cap hn (Lib.bitLen n : Int) w (fun e w' => e = .returned (.tuple #[]) ∧ R e w') (hI.mono fun e w' h => ⟨h.1, h⟩))
  have HL := Lib.hid (ylen_any n (by omega) w)
  have h12 : (n : Int) ≤ 12 := by omega
  clear hI
  go_enter Tryd.func65, Tryd.ntmps65
  go_wp2_with (first | (go_at_call 31; refine HL.out.mono ?_; rintro e w' ⟨rfl, rfl⟩) | (go_at_call 77; refine HP.out.mono ?_; rintro e w' ⟨rfl, hR⟩))
  go_end0
  exact ⟨rfl, hR⟩
end Go.Proofs.YtblimejnjboedaaDoor
/- A row of the call's own, sorted; the depth. -/
namespace Go.Proofs.YtblimejnjboedaaDoor
open Go.RowKit Go.Sort

theorem ins_nil (w : World) : Calls Tryd.prog 85 #[.slice none 0 0, .int .i64 0, .int .i64 ((0 : Nat) : Int)] w fun e w' => e = .returned (.tuple #[]) ∧ w = w' := by
  go_enter Tryd.func85, Tryd.ntmps85
  go_wp2
  refine wp_loop_rounds 1 ?_
  rw [rounds_succ]
  go_wp2
  go_end0
  exact ⟨rfl, rfl⟩
theorem holds_row {w : World} {g cap : Nat} {cur : Array Value} {e : TypeId} {X : List Nat} (hb : w.heap[g]? = some (.cells cur e (0, 0))) (ht : cur.toList.take X.length = X.map encU) (_hc : X.length ≤ cap) : Holds encU w g 0 X.toArray := by
  intro j hj
  have hj' : j < X.length := by simpa using hj
  refine ⟨?_, by simp [World.frozen?, hb]⟩
  have h1 : (cur.toList.take X.length)[j]? = (X.map encU)[j]? := by rw [ht]
  rw [List.getElem?_take_of_lt hj', Array.getElem?_toList] at h1
  simp only [World.cell?, hb, Nat.zero_add]
  simp only [Option.isSome_none, Bool.false_eq_true, if_false]
  rw [h1]
  simp [hj']
theorem sort_row (base : Nat) (v : Value) (n : Nat) (X : List Nat) (w : World) (ho : w.ownsRow base 33 1 v n (X.map encU)) (hn : n ≤ 12) (hX : X.Nodup) :
    Calls Tryd.prog 65 #[v] w fun e w' => e = .returned (.tuple #[]) ∧ w.grownBy w' v.ownBlock ∧ ∃ N : List Nat, N.Pairwise (· < ·) ∧ (∀ x, x ∈ N ↔ x ∈ X) ∧ w'.ownsRow base 33 1 v n (N.map encU) := by
  have hlen : X.length = n := by simpa using ho.1
  rcases ho.2 with ⟨rfl, hn0⟩ | ⟨g, cap0, cur, rfl, hbase, hb, h1, h2, h3, h4⟩
  · have hX0 : X = [] := List.length_eq_zero_iff.1 (by omega)
    subst hX0
    subst hn0
    refine (sort_of none 0 0 (by omega) w (fun _ w' => w = w') (ins_nil w)).mono ?_
    rintro e w' ⟨rfl, rfl⟩
    exact ⟨rfl, ⟨rfl, rfl, rfl, Nat.le_refl _, fun _ _ _ => rfl⟩, [], by simp, by simp, ho⟩
  · have hH : Holds encU w g 0 X.toArray := holds_row hb (by rw [hlen]; simpa using h4) (hlen ▸ h1)
    have hI := ins_any g 0 cap0 X.toArray w hH (by simp; omega)
    simp only [List.size_toArray, hlen] at hI
    refine (sort_of _ n cap0 hn w (fun _ w' => ∃ dk, Ord w g 0 X.toArray dk w' ∧ Up dk n) hI).mono ?_
    rintro e w' ⟨rfl, dk, hO, hU⟩
    have hsz : dk.size = n := by rw [hO.size]; simpa using hlen
    obtain ⟨m, hw⟩ := hO.w
    have hp : dk.toList.Perm X := by simpa using permIn_list hO.p
    have hsorted : dk.toList.Pairwise (· ≤ ·) := Up.pairwise (by rw [hsz]; exact hU)
    have hnd : dk.toList.Nodup := hp.nodup_iff.2 hX
    have hb' : w'.heap[g]? = some (.cells (putCells encU 0 dk cur) 33 (0, 0)) := by
      rw [hw]
      simp [putRow, mapBlock, Sort.ahead, Array.getElem?_modify, hb, onCells]
    refine ⟨rfl, ?_, dk.toList, ?_, fun x => hp.mem_iff, ?_⟩
    · rw [hw]
      refine ⟨rfl, rfl, rfl, by simp, fun k hk hne => ?_⟩
      have : g ≠ k := fun e => hne (by rw [e]; rfl)
      simp [putRow, mapBlock, Sort.ahead, Array.getElem?_modify, this]
    · refine (hsorted.and hnd).imp fun h => ?_
      have := h.1
      have := h.2
      omega
    · refine ⟨by simp [hsz], .inr ⟨g, cap0, _, rfl, hbase, hb', h1, h2, by simp [putCells, h3], ?_⟩⟩
      apply List.ext_getElem?
      intro j
      by_cases hj : j < n
      · rw [Nat.mul_one, List.getElem?_take_of_lt hj, Array.getElem?_toList]
        simp [putCells, hsz, hj, show j < cur.size by omega]
      · rw [Nat.mul_one, List.getElem?_take_eq_none (by omega), List.getElem?_eq_none (by simp; omega)]
end Go.Proofs.YtblimejnjboedaaDoor
/- What is needed of a set, and its parents. -/
namespace Go.Proofs.YtblimejnjboedaaDoor
open Go.RowKit Go.Sort

theorem infoU : (Tryd.prog.info? 33).map (fun i => (i.zero, i.size, i.bytes)) = some (some (.int .u64 0), 1, 8) := by kernel_rfl
/-- append of one number -/
theorem append_num {ops : Array Oper} {rest : List Oper} {o : Oper} {a : Act} {Q : Exit → Act → World → Prop} {wr : World} {base : Nat} {X : List Nat} {v : Value} {c : Nat} (hgd : o.guard = none) (s x : Operand)
    (ho : o.op = .call { callee := .builtin .append, args := #[s, x], argTypes := #[22, 22] })
    (hs : a.eval s = v) (hx : a.eval x = .slice (some ⟨wr.heap.size, 0, none⟩) 1 1) (hown : wr.ownsRow base 33 1 v X.length (X.map encU)) (hn : X.length ≤ 100000) (h0 : base ≤ wr.heap.size)
    (h : ∀ v' w', w'.ownsRow base 33 1 v' (X ++ [c]).length ((X ++ [c]).map encU) → wr.grownBy w' v.ownBlock → wpList Tryd.prog ops Q rest (a.put o.dst v') w') :
    wpList Tryd.prog ops Q (o :: rest) a (wr.alloc (.cells #[.int .u64 (c : Int)] 33)) := by
  obtain ⟨i0, hi, hz0, hz1, hz2⟩ := info_parts infoU
  refine wpList_append_own _ hgd s x 22 ho base 33 i0 (.int .u64 0) 1 8 Tryd.underlying22 hi hz0 hz1 hz2 rfl (by decide) v X.length _ hs (hown.alloc _) ⟨wr.heap.size, 0, none⟩ 1 1 [.int .u64 (c : Int)] hx rfl ?_ ?_ (by unfold maxLen; omega) (by omega) (by rw [World.size_alloc]; omega) ?_
  · exact cell_one_new _ _ _
  · intro u hu; simp at hu; subst hu; rfl
  · intro v' w' hown' hg _
    refine h v' w' (by simpa [encU] using hown') ?_
    exact ((World.grownBy_alloc wr _ none).but v.ownBlock).andThen hg fun j e => .inr e

theorem ranges_row {P : Program} {ku b r n base m : Nat} {K V : List Nat} {wr : World} {e : TypeId} {v : Value} {xs : List Value} (h : RangeAt P ku b r n K V wr) (ho : wr.ownsRow base e 1 v m xs) : some b ≠ v.ownBlock ∧ some r ≠ v.ownBlock := by
  obtain ⟨D, left, cnt, ⟨es, clock, since, seen, c0, hb, _, _, _, hr, _⟩, _⟩ := h
  rcases ho.2 with ⟨rfl, _⟩ | ⟨g, cap, cur, rfl, _, hg, _⟩
  · exact ⟨by simp [Value.ownBlock], by simp [Value.ownBlock]⟩
  · refine ⟨fun e => ?_, fun e => ?_⟩ <;> cases e
    · rw [hb] at hg; cases hg
    · rw [hr] at hg; cases hg
theorem row_low {base m B : Nat} {wr : World} {e : TypeId} {v : Value} {xs : List Value} (ho : wr.ownsRow base e 1 v m xs) (hB : B ≤ base) : ∀ j, v.ownBlock = some j → B ≤ j := by
  intro j hj
  rcases ho.2 with ⟨rfl, _⟩ | ⟨g, cap, cur, rfl, h, _⟩
  · cases hj
  · cases hj
    exact Nat.le_trans hB h
/-- the siblings of those of V that are not in K -/
def lacks (K V : List Nat) : List Nat := (V.filter fun k => decide (sib k ∉ K)).map sib
theorem lacks_snoc (K V : List Nat) (x : Nat) : lacks K (V ++ [x]) = if sib x ∈ K then lacks K V else lacks K V ++ [sib x] := by
  unfold lacks
  by_cases h : sib x ∈ K <;> simp [List.filter_append, h]
theorem lacks_mem (K V : List Nat) (h : ∀ x, x ∈ K ↔ x ∈ V) (y : Nat) : y ∈ lacks K V ↔ sib y ∈ K ∧ y ∉ K := by
  simp only [lacks, List.mem_map, List.mem_filter, decide_eq_true_eq]
  constructor
  · rintro ⟨k, ⟨hk, hn⟩, rfl⟩
    exact ⟨by rw [sib_sib]; exact (h k).2 hk, hn⟩
  · rintro ⟨h1, h2⟩
    exact ⟨sib y, ⟨(h _).1 h1, by rwa [sib_sib]⟩, sib_sib y⟩
theorem lacks_nodup (K V : List Nat) (h : V.Nodup) : (lacks K V).Nodup := by
  unfold lacks
  rw [List.nodup_iff_pairwise_ne, List.pairwise_map]
  exact (h.filter _).imp fun hne e => hne (sib_inj e)
theorem lacks_len (K V : List Nat) : (lacks K V).length ≤ V.length := by
  unfold lacks
  rw [List.length_map]
  exact List.length_filter_le _ _
theorem RangeAt.short {P : Program} {ku b r n : Nat} {K V : List Nat} {w : World} (h : RangeAt P ku b r n K V w) : V.length ≤ n ∧ V.Nodup := by
  obtain ⟨D, left, cnt, _, _, _, h4, _, _, h5⟩ := h
  exact ⟨by omega, h4⟩
theorem left_kept {w w' : World} {b r : Nat} (h1 : w'.heap[b]? = w.heap[b]?) (h2 : w'.heap[r]? = w.heap[r]?) : w'.rangeLeft b r = w.rangeLeft b r := by simp only [World.rangeLeft, h1, h2]
theorem row_base {base m B : Nat} {wr : World} {e : TypeId} {v : Value} {xs : List Value} (ho : wr.ownsRow base e 1 v m xs) (hB : B ≤ base) : wr.ownsRow B e 1 v m xs := by
  refine ⟨ho.1, ?_⟩
  rcases ho.2 with h | ⟨g, cap, cur, h0, h1, h2⟩
  · exact .inl h
  · exact .inr ⟨g, cap, cur, h0, Nat.le_trans hB h1, h2⟩
set_option maxRecDepth 100000 in
set_option maxHeartbeats 2000000 in
theorem needed_any (b n : Nat) (K : List Nat) (w : World) (hs : SetU b n K w) (hn : n ≤ 12) :
    Calls Tryd.prog 38 #[.map (some b)] w fun e w' => ∃ v N, e = .returned v ∧ Need K N ∧ N.length ≤ n ∧ w'.ownsRow w.heap.size 33 1 v N.length (N.map encU) ∧ Below w.heap.size w w' := by
  have HS := Lib.hid hs
  obtain ⟨B, hB⟩ : ∃ B, B = w.heap.size := ⟨_, rfl⟩
  have hbB : b < B := by have := hs.lt; omega
  clear hs
  go_enter Tryd.func38, Tryd.ntmps38
  go_wp2_with (at_range; refine wpList_range_set _ rfl _ 70 rfl 109 keyU Tryd.underlying70 b n K rfl HS.out ?_; intro w0 hrg0 hg0 hs0)
  rw [← hB] at hrg0 hs0 ⊢
  have HR0 := Lib.hid hrg0
  have HG0 := Lib.hid ((Below.refl B w).grown hg0 (by omega) (fun k e => by cases e))
  have hz0 : B + 1 ≤ w0.heap.size := by omega
  have HB := Lib.hid hB
  clear hrg0 hg0 hs0 hB
  go_frame
  go_loopw [3] (fun v wr => ∃ V : List Nat, Hid (RangeU b B n K V wr) ∧ Hid (wr.ownsRow (B + 1) 33 1 v (lacks K V).length ((lacks K V).map encU)) ∧ Hid (Below B w wr) ∧ Hid (B + 1 ≤ wr.heap.size)) (fun _ wr => wr.rangeLeft b B)
  case atStart => exact ⟨[], HR0, Lib.hid (World.ownsRow_nil _ _ _ _), HG0, Lib.hid hz0⟩
  case round =>
    obtain ⟨V, HR, HV, HL, HZ⟩ := hrel
    have HSH := Lib.hid HR.out.short
    go_wp2_with (at_next; refine wpList_next_set _ rfl _ rfl keyU Tryd.underlying33 b B n K V rfl HR.out ?_ ?_)
    · intro hdone
      have HD := Lib.hid hdone
      have HQ := Lib.hid (sort_row (B + 1) u3 _ (lacks K V) wr HV.out (by have := lacks_len K V; have := HSH.out.1; omega) (lacks_nodup K V HSH.out.2))
      clear hdone
      go_wp2_with (go_at_call 65; refine HQ.out.mono ?_; rintro e w2 ⟨rfl, hg2, N, hN1, hN2, hN3⟩; have HG2 := Lib.hid hg2; have HN := Lib.hid (And.intro hN1 (And.intro hN2 hN3)); clear hg2 hN1 hN2 hN3)
      go_ret
      have hlen : N.length = (lacks K V).length := by have := HN.out.2.2.1; simpa using this
      refine ⟨_, N, rfl, ⟨HN.out.1, fun x => (HN.out.2.1 x).trans (lacks_mem K V HD.out x)⟩, ?_, ?_, ?_⟩
      · have := lacks_len K V
        have := HSH.out.1
        omega
      · rw [hlen, ← HB.out]; exact row_base HN.out.2.2 (by omega)
      · rw [← HB.out]; exact HL.out.grown HG2.out (by have := HZ.out; omega) (fun k e => by have := row_low HV.out (Nat.le_refl _) k e; omega)
    · intro x w1 hx64 hxK hxV hrg1 hlt1 hgr1 hsz1 hen
      have HM := Lib.hid hlt1
      have HR1 := Lib.hid hrg1
      have HG1 := Lib.hid hgr1
      have HZ1 := Lib.hid (show B + 1 ≤ w1.heap.size by have := HZ.out; omega)
      have HV1 := Lib.hid (HV.out.kept hgr1 (.inr (ranges_row HR.out HV.out).2.symm))
      have HC := Lib.hid (sibling_any x hx64 w1)
      have hs64 := sib_lt64 hx64
      have HH := Lib.hid (has_any b n K (sib x) hs64 w1 hrg1.set)
      have HSN := Lib.hid (lacks_snoc K V x)
      have HL1 := Lib.hid (HL.out.grown hgr1 (by have := HZ.out; omega) (fun k e => by cases e; exact Nat.le_refl _))
      clear hlt1 hrg1 hgr1 hsz1 hxK hxV hx64 hs64
      generalize sib x = sx at *
      by_cases hm : sx ∈ K
      · rw [decide_eq_true hm] at HH
        rw [if_pos hm] at HSN
        clear hm
        go_wp2_with (first | (go_at_call 63; refine HC.out.mono ?_; rintro e w2 ⟨rfl, rfl⟩) | (go_at_call 64; refine HH.out.mono ?_; rintro e w2 ⟨rfl, hg2⟩; have HG2 := Lib.hid hg2; clear hg2))
        go_roundw
        case rel => exact ⟨V ++ [x], Lib.hid (HR1.out.kept HG2.out (by simp) (by simp)), Lib.hid (by rw [HSN.out]; exact HV1.out.kept HG2.out (Classical.em _)), Lib.hid (HL1.out.grown HG2.out (by have := HZ1.out; omega) (fun k e => by cases e)), Lib.hid (by have := HG2.out.size; have := HZ1.out; omega)⟩
        case measure =>
          rw [left_kept (HG2.out.block b (by have := HZ1.out; omega) (by simp)) (HG2.out.block B (by have := HZ1.out; omega) (by simp))]
          exact HM.out
      · rw [decide_eq_false hm] at HH
        rw [if_neg hm] at HSN
        clear hm
        go_wp2_with (first | (go_at_call 63; refine HC.out.mono ?_; rintro e w2 ⟨rfl, rfl⟩) | (go_at_call 64; refine HH.out.mono ?_; rintro e w2 ⟨rfl, hg2⟩; have HG2 := Lib.hid hg2; have HV2 := Lib.hid (HV1.out.kept hg2 (Classical.em _)); clear hg2) |
          (at_builtin; refine append_num rfl _ _ rfl rfl rfl HV2.out (by have := lacks_len K V; have := HSH.out.1; omega) (by have := HG2.out.size; have := HZ1.out; omega) ?_; intro v3 w3 ho3 hg3; have HO3 := Lib.hid ho3; have HG3 := Lib.hid hg3; clear ho3 hg3))
        go_roundw
        case rel =>
          have hrr := ranges_row (HR1.out.kept HG2.out (by simp) (by simp)) HV2.out
          exact ⟨V ++ [x], Lib.hid ((HR1.out.kept HG2.out (by simp) (by simp)).kept HG3.out hrr.1 hrr.2), Lib.hid (by rw [HSN.out]; exact HO3.out),
            Lib.hid ((HL1.out.grown HG2.out (by have := HZ1.out; omega) (fun k e => by cases e)).grown HG3.out (by have := HZ1.out; have := HG2.out.size; omega) (fun k e => by have := row_low HV2.out (Nat.le_refl _) k e; omega)), Lib.hid (by have := HG2.out.size; have := HG3.out.size; have := HZ1.out; omega)⟩
        case measure =>
          have hrr := ranges_row (HR1.out.kept HG2.out (by simp) (by simp)) HV2.out
          have hz := HZ1.out
          have h2 := HG2.out.size
          rw [left_kept (HG3.out.block b (by omega) hrr.1) (HG3.out.block B (by omega) hrr.2), left_kept (HG2.out.block b (by omega) (by simp)) (HG2.out.block B (by omega) (by simp))]
          exact HM.out
end Go.Proofs.YtblimejnjboedaaDoor
