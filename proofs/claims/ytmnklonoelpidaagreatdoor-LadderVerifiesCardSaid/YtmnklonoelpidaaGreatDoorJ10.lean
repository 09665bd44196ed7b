/- Layout's leaves: comparing, siblings, parents, what stands, turned bits. -/
import Derived.Test.YtmnklonoelpidaaGreatDoorJ1
import Derived.Test.YtmnklonoelpidaaGreatDoorProg
import Derived.Lib.Hide
import Derived.Handy
import Derived.Maps.OwnIn
import Derived.CellFam
import Derived.BigGuard
import Derived.BigCall
import Derived.Deep.Draws
import Derived.Deep.QuietTactic
import Derived.BigQuiet
import Derived.Sort.Grow
import Derived.Deep.RegionHeld3
import Derived.StillTailTactics
import Derived.Shelf.Small.Bits
import Derived.Shelf.Strconv.Itoa0
import Derived.Laws.AppendOwn
import Derived.LoopTactic
import Derived.LoopN
import Derived.Laws.MakeOwn
import Derived.Maps.AppendAt
import Derived.Sort.LotA
namespace Go.Proofs.YtmnklonoelpidaaGreatDoor
open Go.RowKit

set_option maxHeartbeats 400000 in
theorem isNaN_any (x : Int) (w : World) : Calls Tryz.prog 200 #[.int .u64 x] w fun e w' => e = .returned (.bool false) ∧ w = w' := by
  go_enter Tryz.func200, Tryz.ntmps200
  go_wp2
  go_ret
  exact ⟨by simp, rfl⟩
theorem less_any (x y : Int) (w : World) : Calls Tryz.prog 192 #[.int .u64 x, .int .u64 y] w fun e w' => e = .returned (.bool (decide (x < y))) ∧ w = w' := by
  go_enter Tryz.func192, Tryz.ntmps192
  go_wp2_with (go_at_call 200; refine (isNaN_any _ _).mono ?_; rintro e w' ⟨rfl, rfl⟩)
  go_ret
  exact ⟨rfl, rfl⟩
theorem sibling_any (k : Nat) (hk : k < 18446744073709551616) (w : World) : Calls Tryz.prog 180 #[.int .u64 (k : Int)] w fun e w' => e = .returned (.int .u64 (sib k : Int)) ∧ w = w' := by
  have h1 : bits .xor .u64 (k : Int) ((1 : Nat) : Int) = ((k ^^^ 1 : Nat) : Int) := u64_xor_nat k 1 hk (by decide)
  rw [xor_one] at h1
  generalize sib k = s at *
  go_enter Tryz.func180, Tryz.ntmps180
  go_wp2
  go_ret
  exact ⟨by simp at h1; simp [h1], rfl⟩
end Go.Proofs.YtmnklonoelpidaaGreatDoor
/- Layout's sets: has, gather; leaves and elements. -/
namespace Go.Proofs.YtmnklonoelpidaaGreatDoor
open Go.RowKit
open Go.Maps (Keyed)

theorem keyU : Keyed Tryz.prog 22 := Maps.int_keyed Tryz.underlying22
theorem key_of {k : Nat} (h : k < 18446744073709551616) : keyOf Tryz.prog 22 (.int .u64 (k : Int)) = some (lit k) := Maps.keyOf_int_mk Tryz.underlying22 (lit_wf h)
abbrev SetU (b n : Nat) (K : List Nat) (w : World) : Prop := SetAt Tryz.prog 22 b n K w
abbrev RangeU (b r n : Nat) (K V : List Nat) (w : World) : Prop := RangeAt Tryz.prog 22 b r n K V w
theorem has_any (b n : Nat) (K : List Nat) (k : Nat) (hk : k < 18446744073709551616) (w : World) (hs : SetU b n K w) : Calls Tryz.prog 181 #[.map (some b), .int .u64 (k : Int)] w fun e w' => e = .returned (.bool (decide (k ∈ K))) ∧ w.grownBy w' none := by
  obtain ⟨D, hown, hD⟩ := hs
  have hd := hD k
  have hkey := key_of hk
  clear hD
  go_enter Tryz.func181, Tryz.ntmps181
  go_wp2_with (at_lookup; refine wpList_lookup_own_unit _ rfl _ _ 218 rfl 22 227 keyU Tryz.underlying218 (Tryz.zeroValue227 _) b n D rfl hown _ _ rfl hkey ?_)
  go_ret
  refine ⟨by rw [← hd]; rfl, ?_⟩
  exact World.grownBy_alloc _ _ _

/-- the slice at ao lays the numbers L -/
def Nums (ao : Option Addr) (L : List Nat) (w : World) : Prop := L = [] ∨ ∃ b off, ao = some ⟨b, off, none⟩ ∧ b < w.heap.size ∧ ∀ i (h : i < L.length), w.cell? ⟨b, off + i, none⟩ = some (.int .u64 (L[i] : Int))
theorem Nums.kept {S : Nat → Prop} {ao : Option Addr} {L : List Nat} {w w' : World} (h : Nums ao L w) (hk : Kept S w w') (hS : ∀ b, (∃ off, ao = some ⟨b, off, none⟩) → S b) : Nums ao L w' := by
  rcases h with h | ⟨b, off, rfl, h2, h3⟩
  · exact .inl h
  · refine .inr ⟨b, off, rfl, by have := hk.size; omega, fun i hi => ?_⟩
    rw [World.cell?_of_block (hk.block b h2 (hS b ⟨off, rfl⟩))]
    exact h3 i hi
theorem Nums.grown {row : Option Nat} {ao : Option Addr} {L : List Nat} {w w' : World} (h : Nums ao L w) (hg : w.grownBy w' row) (hS : ∀ b off, ao = some ⟨b, off, none⟩ → some b ≠ row) : Nums ao L w' := by
  rcases h with h | ⟨b, off, rfl, h2, h3⟩
  · exact .inl h
  · refine .inr ⟨b, off, rfl, by have := hg.size; omega, fun i hi => ?_⟩
    rw [World.cell?_of_block (hg.block b h2 (hS b off rfl))]
    exact h3 i hi
theorem SetAt.no_cell {P : Program} {ku : TypeId} {b n : Nat} {K : List Nat} {w : World} (h : SetAt P ku b n K w) (o : Nat) : w.cell? ⟨b, o, none⟩ = none := by
  obtain ⟨D, ⟨es, clock, hb, _⟩, _⟩ := h
  simp [World.cell?, hb]
set_option maxRecDepth 100000 in
set_option maxHeartbeats 1000000 in
theorem gather_any (b n : Nat) (K L : List Nat) (ao : Option Addr) (cap : Nat) (w : World) (hs : SetU b n K w) (hn : Nums ao L w) (hL : ∀ x ∈ L, x < 18446744073709551616) (hb : n + L.length ≤ 100000) :
    Calls Tryz.prog 178 #[.map (some b), .slice ao L.length cap] w fun e w' => e = .returned (.tuple #[]) ∧ SetU b (n + L.length) (K ++ L) w' ∧ w.grownBy w' (some b) := by
  have HL := Lib.hid hL
  have HN := Lib.hid hn
  have HS := Lib.hid hs
  have n1 : (L.length : Int) ≤ 100000 := by omega
  clear hL hn hs
  go_enter Tryz.func178, Tryz.ntmps178
  go_wp2
  go_loopw [8] (fun i wr => ∃ k : Nat, k ≤ L.length ∧ i = .int .i64 (k : Int) ∧ Hid (SetU b (n + k) (K ++ L.take k) wr) ∧ Hid (w.grownBy wr (some b))) (fun i _ => (L.length : Int).toNat - (intOf i).toNat)
  case atStart => exact ⟨0, Nat.zero_le _, rfl, Lib.hid (by simpa using HS.out), Lib.hid ⟨rfl, rfl, rfl, Nat.le_refl _, fun _ _ _ => rfl⟩⟩
  case round =>
    obtain ⟨k, hk, rfl, HT, HG⟩ := hrel
    by_cases hke : k = L.length
    · have hl : ¬ (k : Int) < (L.length : Int) := by omega
      have HE := Lib.hid (show SetU b (n + L.length) (K ++ L) wr by have := HT.out; rw [hke, List.take_length] at this; exact this)
      clear hk hke
      go_wp2
      go_end0
      exact ⟨rfl, HE.out, HG.out⟩
    · have hkl : k < L.length := by omega
      have hl : (k : Int) < (L.length : Int) := by omega
      have i0 : (0 : Int) ≤ (k : Int) := by omega
      obtain ⟨x, hx⟩ : ∃ x, L[k] = x := ⟨_, rfl⟩
      have hx64 : x < 18446744073709551616 := hx ▸ HL.out _ (List.getElem_mem hkl)
      have hkey := key_of hx64
      rcases HN.out with h0 | ⟨bb, off, rfl, hbb, hcell⟩
      · subst h0; simp at hkl
      · have hne : bb ≠ b := fun e => by
          have h1 := hcell k hkl
          rw [e, HS.out.no_cell] at h1
          cases h1
        have hc : wr.cell? ⟨bb, off + k, none⟩ = some (.int .u64 (x : Int)) := by
          rw [World.cell?_of_block (HG.out.block bb hbb (fun e => hne (Option.some.inj e))), ← hx]
          exact hcell k hkl
        have HX := Lib.hid hx
        clear hx hcell hke
        obtain ⟨D, hown, hD⟩ := HT.out
        have HD := Lib.hid hD
        clear hD
        go_wp2_with (at_mapUpdate; refine wpList_mapUpdate_own _ rfl _ _ _ 218 rfl 22 227 keyU Tryz.underlying218 unitElem b (n + k) D rfl hown (by unfold maxLen; omega) _ _ (lit x) rfl rfl hkey (.agg []) [] unitElem_mk ?_; intro w1 hown1 hgrow1; have HO1 := Lib.hid hown1; have HG1 := Lib.hid hgrow1; clear hown1 hgrow1)
        go_roundw
        case rel =>
          refine ⟨k + 1, hkl, by go_num, Lib.hid ?_, Lib.hid ?_⟩
          · have := SetAt.push (x := x) hown HD.out HO1.out
            rw [List.append_assoc, ← HX.out, List.take_append_getElem hkl] at this
            exact this
          · exact HG.out.andThen HG1.out (fun j hj => .inr hj)
        case measure => simp [intOf] <;> omega
end Go.Proofs.YtmnklonoelpidaaGreatDoor
/- The library's sort of numbers, where it goes by insertion: no more than twelve. -/
namespace Go.Proofs.YtmnklonoelpidaaGreatDoor
open Go.RowKit Go.Sort

/-- the row is some order of what it was -/
structure Ord (w0 : World) (blk off : Nat) (d0 : Array Nat) (dk : Array Nat) (wr : World) : Prop where
  p : PermIn 0 d0.size d0 dk
  w : ∃ n, wr = putRow encU (Sort.ahead w0 n) blk off dk
theorem Ord.size {w0 wr : World} {blk off : Nat} {d0 dk : Array Nat} (h : Ord w0 blk off d0 dk wr) : dk.size = d0.size := h.p.1
theorem Ord.start {w0 : World} {blk off : Nat} {d0 : Array Nat} (h : Holds encU w0 blk off d0) : Ord w0 blk off d0 d0 w0 := ⟨permIn_refl _ _ _, 0, (putRow_self _ _ _ _ _ h).symm⟩
theorem Ord.cell {w0 wr : World} {blk off : Nat} {d0 dk : Array Nat} (h : Ord w0 blk off d0 dk wr) (h0 : Holds encU w0 blk off d0) (t : Nat) (ht : t < d0.size) : wr.cell? ⟨blk, off + t, none⟩ = some (.int .u64 (dk[t]! : Int)) ∧ wr.frozen? ⟨blk, off + t, none⟩ = false := by
  obtain ⟨n, rfl⟩ := h.w
  exact ⟨cell?_putRow _ _ _ _ d0 dk (holds_ahead _ _ _ _ _ _ h0) h.size t (by rw [h.size]; exact ht), by rw [frozen?_putRow]; exact (holds_ahead encU w0 n _ _ _ h0 t ht).2⟩
theorem ahead_put (w : World) (n q blk off : Nat) (d : Array Nat) : (putRow encU (Sort.ahead w n) blk off d).drewN q = putRow encU (Sort.ahead w (n + q)) blk off d := by
  show Sort.ahead (putRow encU (Sort.ahead w n) blk off d) q = _
  rw [putRow_ahead encU w n, ahead_ahead, ← putRow_ahead]
theorem Ord.drewN {w0 wr : World} {blk off : Nat} {d0 dk : Array Nat} (h : Ord w0 blk off d0 dk wr) (q : Nat) : Ord w0 blk off d0 dk (wr.drewN q) := by
  obtain ⟨n, hw⟩ := h.w
  exact ⟨h.p, n + q, by rw [hw]; exact ahead_put _ _ _ _ _ _⟩
theorem Ord.swap {w0 wr : World} {blk off : Nat} {d0 dk : Array Nat} (h : Ord w0 blk off d0 dk wr) (i j : Nat) (hi : i < d0.size) (hj : j < d0.size) :
    Ord w0 blk off d0 (swp dk i j) ((wr.setCell ⟨blk, off + i, none⟩ (encU dk[j]!)).setCell ⟨blk, off + j, none⟩ (encU dk[i]!)) := by
  obtain ⟨n, hw⟩ := h.w
  refine ⟨permIn_trans _ _ _ _ _ h.p (swp_permIn _ _ _ _ _ (Nat.zero_le _) hi (Nat.zero_le _) hj (by rw [h.size]; exact Nat.le_refl _)), n, ?_⟩
  rw [hw]
  exact putRow_swp encU _ blk off dk i j (by rw [h.size]; exact hi) (by rw [h.size]; exact hj)
theorem Up.ends {d : Array Nat} {i n : Nat} (h : Up d i) (hn : n ≤ i) : Up d n := fun p q hpq hq => h p q hpq (by omega)
set_option maxRecDepth 100000 in
set_option maxHeartbeats 2000000 in
theorem ins_any (blk off cap : Nat) (d : Array Nat) (w : World) (hH : Holds encU w blk off d) (hsz : d.size ≤ 100000) :
    Calls Tryz.prog 186 #[.slice (some ⟨blk, off, none⟩) d.size cap, .int .i64 0, .int .i64 (d.size : Int)] w fun e w' => e = .returned (.tuple #[]) ∧ ∃ dk, Ord w blk off d dk w' ∧ Up dk d.size := by
  have HH := Lib.hid hH
  have HO := Lib.hid (Ord.start hH)
  have n1 : (d.size : Int) ≤ 100000 := by omega
  clear hH
  go_enter Tryz.func186, Tryz.ntmps186
  go_wp2
  go_loopw [6] (fun vi wr => ∃ (i : Nat) (dk : Array Nat), vi = .int .i64 (i : Int) ∧ 0 < i ∧ i ≤ d.size + 1 ∧ Hid (Ord w blk off d dk wr) ∧ Hid (Up dk i)) (fun vi _ => d.size + 1 - (intOf vi).toNat)
  case atStart => exact ⟨1, d, by go_num, by omega, by omega, HO, Lib.hid fun p q h1 h2 => by omega⟩
  case round =>
    obtain ⟨i, dk, rfl, hi0, hib, HD, HU⟩ := hrel
    by_cases hlt : i < d.size
    · have hl : (i : Int) < (d.size : Int) := by omega
      go_wp2
      go_loopw [7] (fun vj wr2 => ∃ (j : Nat) (dj : Array Nat), vj = .int .i64 (j : Int) ∧ j ≤ i ∧ Hid (Ord w blk off d dj wr2) ∧ Hid (UpBut dj i j)) (fun vj _ => (intOf vj).toNat)
      case atStart => exact ⟨i, dk, rfl, Nat.le_refl _, HD, Lib.hid HU.out.start⟩
      case round =>
        obtain ⟨j, dj, rfl, hji, HJ, HB⟩ := hrel
        obtain ⟨G, hG⟩ : ∃ G : Nat → Nat, ∀ t, G t = dj[t]! := ⟨fun t => dj[t]!, fun _ => rfl⟩
        have hcw : ∀ t, t < d.size → wr.cell? ⟨blk, off + t, none⟩ = some (.int .u64 (G t : Int)) := fun t ht => by rw [hG]; exact (HJ.out.cell HH.out t ht).1
        have hfw : ∀ t, t < d.size → wr.frozen? ⟨blk, off + t, none⟩ = false := fun t ht => (HJ.out.cell HH.out t ht).2
        have HG := Lib.hid hG
        clear hG
        go_wp2
        by_cases hja : 0 < j
        · have hja' : (0 : Int) < (j : Int) := by omega
          go_quiet (first | (go_at_call 192; refine Calls.quiet_of_same ((less_any _ _ _).mono (fun e w' h => ⟨h.1, h.2.symm⟩))))
          go_wp2
          · have hlt2 : G j < G (j - 1) := by omega
            go_region
            all_goals go_wp2
            go_roundw
            case rel =>
              obtain ⟨m, rfl⟩ : ∃ m, j = m + 1 := ⟨j - 1, by omega⟩
              rw [show m + 1 - 1 = m from rfl] at hlt2
              refine ⟨m, swp dj (m + 1) m, by congr 1; omega, by omega, Lib.hid ?_, Lib.hid (HB.out.step (by omega) (by rw [HJ.out.size]; exact hlt) (by rw [← HG.out, ← HG.out]; exact hlt2))⟩
              have hS := (HJ.out.drewN (nq + 1)).swap (m + 1) m (by omega) (by omega)
              rw [← HG.out, ← HG.out] at hS
              exact hS
            case measure => simp [intOf]; omega
          · have hlt2 : ¬ G j < G (j - 1) := by omega
            go_roundw
            case rel => exact ⟨i + 1, dj, by go_num, by omega, by omega, Lib.hid (HJ.out.drewN nq), Lib.hid (HB.out.stop (.inr (by rw [← HG.out, ← HG.out]; omega)))⟩
            case measure => simp [intOf]; omega
        · have hja' : ¬ (0 : Int) < (j : Int) := by omega
          go_quiet (first | (go_at_call 192; refine Calls.quiet_of_same ((less_any _ _ _).mono (fun e w' h => ⟨h.1, h.2.symm⟩))))
          go_wp2
          go_roundw
          case rel => exact ⟨i + 1, dj, by go_num, by omega, by omega, Lib.hid (HJ.out.drewN nq), Lib.hid (HB.out.stop (.inl (by omega)))⟩
          case measure => simp [intOf]; omega
    · have hl : ¬ (i : Int) < (d.size : Int) := by omega
      go_wp2
      go_end0
      exact ⟨rfl, dk, HD.out, HU.out.ends (by omega)⟩
end Go.Proofs.YtmnklonoelpidaaGreatDoor
/- The library's Len64 by the shelf; bits.Len, the depth; the sort of no more than twelve. -/
namespace Go.Proofs.YtmnklonoelpidaaGreatDoor
open Go.RowKit Go.Sort

/-- what the sort's own call answers is what that by insertion does, where there are no more than twelve -/
theorem pdq_of (ao : Option Addr) (n cap : Nat) (hn : n ≤ 12) (lim : Int) (w : World) (R : Ending → World → Prop) (hI : Calls Tryz.prog 186 #[.slice ao n cap, .int .i64 0, .int .i64 (n : Int)] w fun e w' => e = .returned (.tuple #[]) ∧ R e w') :
    Calls Tryz.prog 185 #[.slice ao n cap, .int .i64 0, .int .i64 (n : Int), .int .i64 lim] w R := by
  have HI := Lib.hid hI
  have h12 : (n : Int) ≤ 12 := by omega
  clear hI
  go_enter Tryz.func185, Tryz.ntmps185
  go_wp2
  refine wp_loop_rounds 1 ?_
  rw [rounds_succ]
  go_wp2_with (go_at_call 186; refine HI.out.mono ?_; rintro e w' ⟨rfl, hR⟩)
  go_end0
  exact hR
theorem sort_of (ao : Option Addr) (n cap : Nat) (hn : n ≤ 12) (w : World) (R : Ending → World → Prop) (hI : Calls Tryz.prog 186 #[.slice ao n cap, .int .i64 0, .int .i64 (n : Int)] w fun e w' => e = .returned (.tuple #[]) ∧ R e w') :
    Calls Tryz.prog 182 #[.slice ao n cap] w fun e w' => e = .returned (.tuple #[]) ∧ R e w' := by
  have HP := Lib.hid (pdq_of ao n cap hn (Lib.bitLen n : Int) w (fun e w' => e = .returned (.tuple #[]) ∧ R e w') (hI.mono fun e w' h => ⟨h.1, h⟩))
  have HL := Lib.hid (ylen_any n (by omega) w)
  have h12 : (n : Int) ≤ 12 := by omega
  clear hI
  go_enter Tryz.func182, Tryz.ntmps182
  go_wp2_with (first | (go_at_call 131; refine HL.out.mono ?_; rintro e w' ⟨rfl, rfl⟩) | (go_at_call 185; refine HP.out.mono ?_; rintro e w' ⟨rfl, hR⟩))
  go_end0
  exact ⟨rfl, hR⟩
end Go.Proofs.YtmnklonoelpidaaGreatDoor
/- A row of the call's own, sorted; the depth. -/
namespace Go.Proofs.YtmnklonoelpidaaGreatDoor
open Go.RowKit Go.Sort

theorem ins_nil (w : World) : Calls Tryz.prog 186 #[.slice none 0 0, .int .i64 0, .int .i64 ((0 : Nat) : Int)] w fun e w' => e = .returned (.tuple #[]) ∧ w = w' := by
  go_enter Tryz.func186, Tryz.ntmps186
  go_wp2
  refine wp_loop_rounds 1 ?_
  rw [rounds_succ]
  go_wp2
  go_end0
  exact ⟨rfl, rfl⟩
theorem holds_row {w : World} {g cap : Nat} {cur : Array Value} {e : TypeId} {X : List Nat} (hb : w.heap[g]? = some (.cells cur e (0, 0))) (ht : cur.toList.take X.length = X.map encU) (_hc : X.length ≤ cap) : Holds encU w g 0 X.toArray := by
  intro j hj
  have hj' : j < X.length := by simpa using hj
  refine ⟨?_, by simp [World.frozen?, hb]⟩
  have h1 : (cur.toList.take X.length)[j]? = (X.map encU)[j]? := by rw [ht]
  rw [List.getElem?_take_of_lt hj', Array.getElem?_toList] at h1
  simp only [World.cell?, hb, Nat.zero_add]
  simp only [Option.isSome_none, Bool.false_eq_true, if_false]
  rw [h1]
  simp [hj']
theorem sort_row (base : Nat) (v : Value) (n : Nat) (X : List Nat) (w : World) (ho : w.ownsRow base 22 1 v n (X.map encU)) (hn : n ≤ 12) (hX : X.Nodup) :
    Calls Tryz.prog 182 #[v] w fun e w' => e = .returned (.tuple #[]) ∧ w.grownBy w' v.ownBlock ∧ ∃ N : List Nat, N.Pairwise (· < ·) ∧ (∀ x, x ∈ N ↔ x ∈ X) ∧ w'.ownsRow base 22 1 v n (N.map encU) := by
  have hlen : X.length = n := by simpa using ho.1
  rcases ho.2 with ⟨rfl, hn0⟩ | ⟨g, cap0, cur, rfl, hbase, hb, h1, h2, h3, h4⟩
  · have hX0 : X = [] := List.length_eq_zero_iff.1 (by omega)
    subst hX0
    subst hn0
    refine (sort_of none 0 0 (by omega) w (fun _ w' => w = w') (ins_nil w)).mono ?_
    rintro e w' ⟨rfl, rfl⟩
    exact ⟨rfl, ⟨rfl, rfl, rfl, Nat.le_refl _, fun _ _ _ => rfl⟩, [], by simp, by simp, ho⟩
  · have hH : Holds encU w g 0 X.toArray := holds_row hb (by rw [hlen]; simpa using h4) (hlen ▸ h1)
    have hI := ins_any g 0 cap0 X.toArray w hH (by simp; omega)
    simp only [List.size_toArray, hlen] at hI
    refine (sort_of _ n cap0 hn w (fun _ w' => ∃ dk, Ord w g 0 X.toArray dk w' ∧ Up dk n) hI).mono ?_
    rintro e w' ⟨rfl, dk, hO, hU⟩
    have hsz : dk.size = n := by rw [hO.size]; simpa using hlen
    obtain ⟨m, hw⟩ := hO.w
    have hp : dk.toList.Perm X := by simpa using permIn_list hO.p
    have hsorted : dk.toList.Pairwise (· ≤ ·) := Up.pairwise (by rw [hsz]; exact hU)
    have hnd : dk.toList.Nodup := hp.nodup_iff.2 hX
    have hb' : w'.heap[g]? = some (.cells (putCells encU 0 dk cur) 22 (0, 0)) := by
      rw [hw]
      simp [putRow, mapBlock, Sort.ahead, Array.getElem?_modify, hb, onCells]
    refine ⟨rfl, ?_, dk.toList, ?_, fun x => hp.mem_iff, ?_⟩
    · rw [hw]
      refine ⟨rfl, rfl, rfl, by simp, fun k hk hne => ?_⟩
      have : g ≠ k := fun e => hne (by rw [e]; rfl)
      simp [putRow, mapBlock, Sort.ahead, Array.getElem?_modify, this]
    · refine (hsorted.and hnd).imp fun h => ?_
      have := h.1
      have := h.2
      omega
    · refine ⟨by simp [hsz], .inr ⟨g, cap0, _, rfl, hbase, hb', h1, h2, by simp [putCells, h3], ?_⟩⟩
      apply List.ext_getElem?
      intro j
      by_cases hj : j < n
      · rw [Nat.mul_one, List.getElem?_take_of_lt hj, Array.getElem?_toList]
        simp [putCells, hsz, hj, show j < cur.size by omega]
      · rw [Nat.mul_one, List.getElem?_take_eq_none (by omega), List.getElem?_eq_none (by simp; omega)]
end Go.Proofs.YtmnklonoelpidaaGreatDoor
/- What is needed of a set, and its parents. -/
namespace Go.Proofs.YtmnklonoelpidaaGreatDoor
open Go.RowKit Go.Sort

theorem infoU : (Tryz.prog.info? 22).map (fun i => (i.zero, i.size, i.bytes)) = some (some (.int .u64 0), 1, 8) := by kernel_rfl
/-- append of one number -/
theorem append_num {ops : Array Oper} {rest : List Oper} {o : Oper} {a : Act} {Q : Exit → Act → World → Prop} {wr : World} {base : Nat} {X : List Nat} {v : Value} {c : Nat} (hgd : o.guard = none) (s x : Operand)
    (ho : o.op = .call { callee := .builtin .append, args := #[s, x], argTypes := #[44, 44] })
    (hs : a.eval s = v) (hx : a.eval x = .slice (some ⟨wr.heap.size, 0, none⟩) 1 1) (hown : wr.ownsRow base 22 1 v X.length (X.map encU)) (hn : X.length ≤ 100000) (h0 : base ≤ wr.heap.size)
    (h : ∀ v' w', w'.ownsRow base 22 1 v' (X ++ [c]).length ((X ++ [c]).map encU) → wr.grownBy w' v.ownBlock → wpList Tryz.prog ops Q rest (a.put o.dst v') w') :
    wpList Tryz.prog ops Q (o :: rest) a (wr.alloc (.cells #[.int .u64 (c : Int)] 22)) := by
  obtain ⟨i0, hi, hz0, hz1, hz2⟩ := info_parts infoU
  refine wpList_append_own _ hgd s x 44 ho base 22 i0 (.int .u64 0) 1 8 Tryz.underlying44 hi hz0 hz1 hz2 rfl (by decide) v X.length _ hs (hown.alloc _) ⟨wr.heap.size, 0, none⟩ 1 1 [.int .u64 (c : Int)] hx rfl ?_ ?_ (by unfold maxLen; omega) (by omega) (by rw [World.size_alloc]; omega) ?_
  · exact cell_one_new _ _ _
  · intro u hu; simp at hu; subst hu; rfl
  · intro v' w' hown' hg _
    refine h v' w' (by simpa [encU] using hown') ?_
    exact ((World.grownBy_alloc wr _ none).but v.ownBlock).andThen hg fun j e => .inr e

theorem ranges_row {P : Program} {ku b r n base m : Nat} {K V : List Nat} {wr : World} {e : TypeId} {v : Value} {xs : List Value} (h : RangeAt P ku b r n K V wr) (ho : wr.ownsRow base e 1 v m xs) : some b ≠ v.ownBlock ∧ some r ≠ v.ownBlock := by
  obtain ⟨D, left, cnt, ⟨es, clock, since, seen, c0, hb, _, _, _, hr, _⟩, _⟩ := h
  rcases ho.2 with ⟨rfl, _⟩ | ⟨g, cap, cur, rfl, _, hg, _⟩
  · exact ⟨by simp [Value.ownBlock], by simp [Value.ownBlock]⟩
  · refine ⟨fun e => ?_, fun e => ?_⟩ <;> cases e
    · rw [hb] at hg; cases hg
    · rw [hr] at hg; cases hg
theorem row_low {base m B : Nat} {wr : World} {e : TypeId} {v : Value} {xs : List Value} (ho : wr.ownsRow base e 1 v m xs) (hB : B ≤ base) : ∀ j, v.ownBlock = some j → B ≤ j := by
  intro j hj
  rcases ho.2 with ⟨rfl, _⟩ | ⟨g, cap, cur, rfl, h, _⟩
  · cases hj
  · cases hj
    exact Nat.le_trans hB h
/-- the siblings of those of V that are not in K -/
def lacks (K V : List Nat) : List Nat := (V.filter fun k => decide (sib k ∉ K)).map sib
theorem lacks_snoc (K V : List Nat) (x : Nat) : lacks K (V ++ [x]) = if sib x ∈ K then lacks K V else lacks K V ++ [sib x] := by
  unfold lacks
  by_cases h : sib x ∈ K <;> simp [List.filter_append, h]
theorem lacks_mem (K V : List Nat) (h : ∀ x, x ∈ K ↔ x ∈ V) (y : Nat) : y ∈ lacks K V ↔ sib y ∈ K ∧ y ∉ K := by
  simp only [lacks, List.mem_map, List.mem_filter, decide_eq_true_eq]
  constructor
  · rintro ⟨k, ⟨hk, hn⟩, rfl⟩
    exact ⟨by rw [sib_sib]; exact (h k).2 hk, hn⟩
  · rintro ⟨h1, h2⟩
    exact ⟨sib y, ⟨(h _).1 h1, by rwa [sib_sib]⟩, sib_sib y⟩
theorem lacks_nodup (K V : List Nat) (h : V.Nodup) : (lacks K V).Nodup := by
  unfold lacks
  rw [List.nodup_iff_pairwise_ne, List.pairwise_map]
  exact (h.filter _).imp fun hne e => hne (sib_inj e)
theorem lacks_len (K V : List Nat) : (lacks K V).length ≤ V.length := by
  unfold lacks
  rw [List.length_map]
  exact List.length_filter_le _ _
theorem RangeAt.short {P : Program} {ku b r n : Nat} {K V : List Nat} {w : World} (h : RangeAt P ku b r n K V w) : V.length ≤ n ∧ V.Nodup := by
  obtain ⟨D, left, cnt, _, _, _, h4, _, _, h5⟩ := h
  exact ⟨by omega, h4⟩
theorem left_kept {w w' : World} {b r : Nat} (h1 : w'.heap[b]? = w.heap[b]?) (h2 : w'.heap[r]? = w.heap[r]?) : w'.rangeLeft b r = w.rangeLeft b r := by simp only [World.rangeLeft, h1, h2]
theorem row_base {base m B : Nat} {wr : World} {e : TypeId} {v : Value} {xs : List Value} (ho : wr.ownsRow base e 1 v m xs) (hB : B ≤ base) : wr.ownsRow B e 1 v m xs := by
  refine ⟨ho.1, ?_⟩
  rcases ho.2 with h | ⟨g, cap, cur, h0, h1, h2⟩
  · exact .inl h
  · exact .inr ⟨g, cap, cur, h0, Nat.le_trans hB h1, h2⟩
end Go.Proofs.YtmnklonoelpidaaGreatDoor
/- The parents of a set. -/
namespace Go.Proofs.YtmnklonoelpidaaGreatDoor
open Go.RowKit Go.Sort

theorem nums_of_row {base : Nat} {v : Value} {L : List Nat} {w : World} (h : w.ownsRow base 22 1 v L.length (L.map encU)) : ∃ ao cap, v = .slice ao L.length cap ∧ Nums ao L w ∧ (∀ b off, ao = some ⟨b, off, none⟩ → base ≤ b ∧ some b = v.ownBlock) := by
  have h0 := h
  rcases h.2 with ⟨rfl, hl⟩ | ⟨g, cap, cur, rfl, h1, h2, h3, h4, h5, h6⟩
  · exact ⟨none, 0, by rw [hl], .inl (List.length_eq_zero_iff.1 hl), fun b off e => by cases e⟩
  · refine ⟨_, cap, rfl, .inr ⟨g, 0, rfl, (Array.getElem?_eq_some_iff.1 h2).1, fun i hi => ?_⟩, fun b off e => by cases e; exact ⟨h1, rfl⟩⟩
    have := h0.cellAt i (by simpa using hi)
    rw [Nat.zero_add]
    refine this.trans ?_
    simp [encU, hi]
set_option maxRecDepth 100000 in
set_option maxHeartbeats 2000000 in
theorem parents_any (b n : Nat) (K : List Nat) (w : World) (hs : SetU b n K w) (hn : n ≤ 100000) :
    Calls Tryz.prog 179 #[.map (some b)] w fun e w' => ∃ (v : Value) (L : List Nat), e = .returned v ∧ (∀ x, x ∈ L ↔ ∃ k ∈ K, k / 2 = x) ∧ (∀ x ∈ L, x < 18446744073709551616) ∧ L.length ≤ n ∧ w'.ownsRow w.heap.size 22 1 v L.length (L.map encU) ∧ Below w.heap.size w w' := by
  have HS := Lib.hid hs
  obtain ⟨B, hB⟩ : ∃ B, B = w.heap.size := ⟨_, rfl⟩
  have hbB : b < B := by have := hs.lt; omega
  obtain ⟨D, hown, hD⟩ := hs
  obtain ⟨i0, hi, hz0, hz1, hz2⟩ := info_parts infoU
  have hsz := hown.size_le
  obtain ⟨c, hc⟩ : ∃ c, Maps.size D = c := ⟨_, rfl⟩
  obtain ⟨w1, hrun, ho1, hg1⟩ := run_make_own (P := Tryz.prog) w B 44 22 i0 (.int .u64 0) 1 Tryz.underlying44 hi hz0 hz1 .i64 .i64 c (by rw [hz2]; omega) (by unfold maxLen; omega) (by omega)
  have HO1 := Lib.hid ho1
  have HG1 := Lib.hid hg1
  have HS1 := Lib.hid (HS.out.kept hg1 (by simp))
  clear hD hsz ho1 hg1 hi hz0 hz1 hz2
  go_enter Tryz.func179, Tryz.ntmps179
  go_wp2_with (first | (at_len; refine wpList_len_own _ rfl _ 218 rfl 22 227 Tryz.underlying218 unitElem b n D rfl hown ?_; rw [hc]) | (at_range; refine wpList_range_set _ rfl _ 218 rfl 227 keyU Tryz.underlying218 b n K rfl HS1.out ?_; intro w0 hrg0 hg0 hs0))
  obtain ⟨r, hr⟩ : ∃ r, r = w1.heap.size := ⟨_, rfl⟩
  rw [← hr] at hrg0 hs0 ⊢
  have hBr : B ≤ r := by have := HG1.out.size; omega
  have HR0 := Lib.hid hrg0
  have HG0 := Lib.hid (((Below.refl B w).grown HG1.out (by omega) (fun k e => by cases e)).grown hg0 (by omega) (fun k e => by cases e))
  have HV0 := Lib.hid (HO1.out.kept hg0 (Classical.em _))
  have hz0 : B ≤ w0.heap.size := by omega
  have HB := Lib.hid hB
  clear hrg0 hg0 hs0 hB hr hrun hown hc
  go_frame
  go_loopw [3] (fun v wr => ∃ V : List Nat, Hid (RangeU b r n K V wr) ∧ Hid (wr.ownsRow B 22 1 v (V.map (· / 2)).length ((V.map (· / 2)).map encU)) ∧ Hid (Below B w wr) ∧ Hid (B ≤ wr.heap.size)) (fun _ wr => wr.rangeLeft b r)
  case atStart => exact ⟨[], HR0, HV0, HG0, Lib.hid hz0⟩
  case round =>
    obtain ⟨V, HR, HV, HL, HZ⟩ := hrel
    have HSH := Lib.hid HR.out.short
    go_wp2_with (at_next; refine wpList_next_set _ rfl _ rfl keyU Tryz.underlying22 b r n K V rfl HR.out ?_ ?_)
    · intro hdone
      have HD := Lib.hid hdone
      clear hdone
      go_wp2
      go_ret
      refine ⟨_, V.map (· / 2), rfl, fun x => ?_, fun x hx => ?_, by rw [List.length_map]; exact HSH.out.1, by rw [← HB.out]; exact HV.out, by rw [← HB.out]; exact HL.out⟩
      · simp [HD.out]
      · obtain ⟨_, _, _, _, _, _, _, _, h6, _⟩ := HR.out
        obtain ⟨k, hk, rfl⟩ := List.mem_map.1 hx
        have := h6 k hk
        omega
    · intro x w2 hx64 hxK hxV hrg2 hlt2 hgr2 hsz2 hen
      have HM := Lib.hid hlt2
      have HR2 := Lib.hid hrg2
      have HZ2 := Lib.hid (show B ≤ w2.heap.size by have := HZ.out; omega)
      have HV2 := Lib.hid (HV.out.kept hgr2 (.inr (ranges_row HR.out HV.out).2.symm))
      have HC := Lib.hid (parent_any x hx64 w2)
      have HL2 := Lib.hid (HL.out.grown hgr2 (by have := HZ.out; omega) (fun k e => by cases e; exact hBr))
      have HE := Lib.hid (show V.map (· / 2) ++ [x / 2] = (V ++ [x]).map (· / 2) by simp)
      clear hlt2 hrg2 hgr2 hsz2 hxK hxV hx64
      generalize x / 2 = px at *
      go_wp2_with (first | (go_at_call 184; refine HC.out.mono ?_; rintro e w2 ⟨rfl, rfl⟩) |
          (at_builtin; refine append_num rfl _ _ rfl rfl rfl HV2.out (by have := HSH.out.1; rw [List.length_map]; omega) HZ2.out ?_; intro v3 w3 ho3 hg3; have HO3 := Lib.hid ho3; have HG3 := Lib.hid hg3; clear ho3 hg3))
      go_roundw
      case rel =>
        have hrr := ranges_row HR2.out HV2.out
        exact ⟨V ++ [x], Lib.hid (HR2.out.kept HG3.out hrr.1 hrr.2), Lib.hid (by rw [← HE.out]; exact HO3.out), Lib.hid (HL2.out.grown HG3.out HZ2.out (fun k e => row_low HV2.out (Nat.le_refl _) k e)), Lib.hid (by have := HG3.out.size; have := HZ2.out; omega)⟩
      case measure =>
        have hrr := ranges_row HR2.out HV2.out
        have hz := HR2.out
        have h1 : b < w2.heap.size := HR2.out.set.lt
        have h2 : r < w2.heap.size := by obtain ⟨_, _, _, h, _⟩ := HR2.out; exact h.lt
        rw [left_kept (HG3.out.block b h1 hrr.1) (HG3.out.block r h2 hrr.2)]
        exact HM.out
end Go.Proofs.YtmnklonoelpidaaGreatDoor
/- The levels: an iterator that hands its set over, and makes the parents of it. -/
namespace Go.Proofs.YtmnklonoelpidaaGreatDoor
open Go.RowKit Go.Sort
attribute [local go_sem] Oper.semAt_some

theorem clear_eq {b n : Nat} {K : List Nat} {w : World} (h : SetU b n K w) : ∃ w', (∀ ty, (Builtin.clear_ #[218] ty #[.map (some b)]).run Tryz.prog w = .ok (.tuple #[]) w') ∧ SetU b 0 [] w' ∧ w.grownBy w' (some b) ∧ w'.heap.size = w.heap.size := by
  obtain ⟨w', h1, h2⟩ := h.clear 218 Tryz.underlying218 0
  exact ⟨w', fun ty => h1, h2⟩
theorem set_next {m n k : Nat} {L L2 : List Nat} {w5 : World} (h : SetU m (0 + L2.length) ([] ++ L2) w5) (hl : L2.length ≤ n) (he : ∀ x, x ∈ L2 ↔ ∃ j ∈ upTo L k, j / 2 = x) : SetU m n (upTo L (k + 1)) w5 :=
  (h.mono (by omega)).of fun x => by rw [List.nil_append, he, mem_upTo_succ]
set_option maxRecDepth 100000 in
set_option maxHeartbeats 2000000 in
theorem levels_hands (b1 b2 : Nat) (ao : Option Addr) (cap : Nat) (L : List Nat) (d : Nat) (hL : ∀ x ∈ L, x < 18446744073709551616) (hn : L.length ≤ 100000) (hd : d ≤ 16) :
    HandsOwn Tryz.prog 177 #[.pointer (some ⟨b1, 0, none⟩), .pointer (some ⟨b2, 0, none⟩)] (fun m => #[.map (some m)]) [] (fun m k W => SetU m L.length (upTo L k) W) d
      (fun W => W.cell? ⟨b1, 0, none⟩ = some (.slice ao L.length cap) ∧ W.cell? ⟨b2, 0, none⟩ = some (.int .i64 (d : Int)) ∧ Nums ao L W) := by
  rintro l J W ⟨hc1, hc2, hN⟩ - hY h0
  obtain ⟨m, hm⟩ : ∃ m, m = W.heap.size := ⟨_, rfl⟩
  rw [← hm] at hY ⊢
  have hb1 : b1 < W.heap.size := World.block_lt_of_cell? W _ hc1
  have hb2 : b2 < W.heap.size := World.block_lt_of_cell? W _ hc2
  have HY := Lib.hid hY
  have HJ0 := Lib.hid h0
  have hS0 := SetAt.made Tryz.prog 22 W
  have hN0 : Nums ao L (W.alloc (.map #[] 0)) := hN.grown (World.grownBy_alloc W _ none) (fun _ _ _ => by simp)
  have hK0 : Kept (· ≠ m) W (W.alloc (.map #[] 0)) := (Kept.refl _ W).alloc _
  have hz0 : (W.alloc (.map #[] 0)).heap.size = m + 1 := by simp [hm]
  have d1 : (W.alloc (.map #[] 0)).cell? ⟨b1, 0, none⟩ = some (.slice ao L.length cap) := (World.cell?_alloc_lt _ _ _ hb1).trans hc1
  have d2 : (W.alloc (.map #[] 0)).cell? ⟨b2, 0, none⟩ = some (.int .i64 (d : Int)) := (World.cell?_alloc_lt _ _ _ hb2).trans hc2
  rw [← hm] at hS0
  have HG := Lib.hid (gather_any m 0 [] L ao cap _ hS0 hN0 hL (by omega))
  have HK0 := Lib.hid hK0
  have HZ0 := Lib.hid hz0
  have hmm := @run_makeMap Tryz.prog
  refine (callsIn_wide (n := 1)).1 ?_
  refine callsIn_of_wp Tryz.func177 rfl trivial ?_ rfl
  simp only [Tryz.ntmps177, List.size_toArray, List.length_cons, List.length_nil, Nat.reduceAdd, Nat.reduceSub, Array.replicate_succ, Array.replicate_zero, List.push_toArray, List.append_toArray, List.nil_append, List.cons_append]
  clear hY h0 hS0 hN0 hK0 hz0 hN hc1 hc2
  have HM := Lib.hid hm
  clear hm
  gi_wp2_with (refine ⟨trivial, ?_⟩; gi_at_call 178; rw [← HM.out]; refine (callsIn_wide.2 HG.out).mono ?_; rintro e w1 ⟨rfl, hs1, hg1⟩; have e2 := (World.cell?_of_block (a := ⟨b2, 0, none⟩) (hg1.block b2 (by rw [HZ0.out]; have := HM.out; omega) (fun e => by have := HM.out; cases e; omega))).trans d2; have HS1 := Lib.hid hs1; have HG1 := Lib.hid hg1; clear hs1 hg1)
  have hs1 := HS1.out
  rw [List.nil_append, Nat.zero_add] at hs1
  have HS := Lib.hid hs1
  have HK1 := Lib.hid (HK0.out.grown HG1.out (fun j e _ h => by cases e; exact h rfl))
  have HZ1 := Lib.hid (show m < w1.heap.size by have := HG1.out.size; have := HZ0.out; omega)
  clear hs1 HS1 HG1 HK0 HZ0 e2 d1 d2
  gi_loopw [11] (fun i wr => ∃ k : Nat, k ≤ d ∧ i = .int .i64 (k : Int) ∧ Hid (∃ W1, J k W1 ∧ Kept (· ≠ m) W1 wr) ∧ Hid (SetU m L.length (upTo L k) wr) ∧ Hid (m < wr.heap.size)) (fun i _ => d - (intOf i).toNat)
  case atStart => exact ⟨0, by omega, rfl, Lib.hid ⟨W, HJ0.out, HK1.out⟩, Lib.hid (by rw [upTo_zero]; exact HS.out), HZ1⟩
  case round =>
    obtain ⟨k, hk, rfl, HJ, HS, HZ⟩ := hrel
    by_cases hlt : k < d
    · have hl : (k : Int) < (d : Int) := by omega
      obtain ⟨W1, hj1, hk1⟩ := HJ.out
      have HY2 := HY.out k W1 wr hlt hj1 hk1 HZ.out HS.out
      clear hj1 hk1
      obtain ⟨fn, tmps, assign, body, hy, hR⟩ := HY2
      gi_wp2
      refine hR.mono ?_
      rintro e w2 ⟨rfl, hj2, hk2⟩
      clear hR hy
      have HJ2 := Lib.hid hj2
      have hs2 : SetU m L.length (upTo L k) w2 := HS.out.block (hk2.block m HZ.out (.inr rfl))
      have HP := Lib.hid (parents_any m L.length (upTo L k) w2 hs2 hn)
      have HS2 := Lib.hid hs2
      have HZ2 := Lib.hid hs2.lt
      clear hj2 hk2 hs2
      gi_wp2_with (first
        | (refine ⟨trivial, ?_⟩; gi_at_call 179; refine (callsIn_wide.2 HP.out).mono ?_; rintro e w3 ⟨v, L2, rfl, hm2, h64, hlen, hrow, hb3⟩;
           obtain ⟨w4, hclr, hs4, hg4, hz4⟩ := clear_eq (HS2.out.block (hb3.block m HZ2.out));
           obtain ⟨ao2, cap2, rfl, hn3, hfar⟩ := nums_of_row hrow;
           have HG2 := Lib.hid (gather_any m 0 [] L2 ao2 cap2 w4 hs4 (hn3.grown hg4 (fun b off e h => by have h1 := (hfar b off e).1; have h2 := HZ2.out; cases h; omega)) h64 (by omega));
           have HK4 := Lib.hid (((Kept.of_below hb3 (S := (fun x => x ≠ m ∧ x < w2.heap.size)) (fun j h => h.2)).grown hg4 (fun j e _ h => by cases e; exact h.1 rfl)).less (T := (· ≠ m)) (fun j hj h => ⟨h, hj⟩));
           have HM2 := Lib.hid hm2; have HLN := Lib.hid hlen; clear hm2 h64 hlen hrow hb3 hs4 hg4 hz4 hn3 hfar)
        | (refine ⟨trivial, ?_⟩; gi_at_call 178; refine (callsIn_wide.2 HG2.out).mono ?_; rintro e w5 ⟨rfl, hs5, hg5⟩; have HS5 := Lib.hid hs5; have HG5 := Lib.hid hg5; clear hs5 hg5))
      go_roundw
      case rel => exact ⟨k + 1, hlt, by go_num, Lib.hid ⟨w2, HJ2.out, HK4.out.grown HG5.out (fun j e _ h => by cases e; exact h rfl)⟩, Lib.hid (set_next HS5.out HLN.out HM2.out), Lib.hid HS5.out.lt⟩
      case measure => simp [intOf] <;> omega
    · have hl : ¬ (k : Int) < (d : Int) := by omega
      have hkd : k = d := by omega
      subst hkd
      gi_wp2
      go_end0
      exact ⟨⟨_, rfl⟩, HJ.out⟩
end Go.Proofs.YtmnklonoelpidaaGreatDoor
/- Is there a leaf that does not stand? -/
namespace Go.Proofs.YtmnklonoelpidaaGreatDoor
open Go.RowKit Go.Sort

theorem lacksf_any (k : Nat) (b3 : Nat) (d : Int) (w : World) (hc : w.cell? ⟨b3, 0, none⟩ = some (.int .i64 d)) : Calls Tryz.prog 169 #[.int .u64 (k : Int), .pointer (some ⟨b3, 0, none⟩)] w fun e w' => e = .returned (.bool (!standsB k d)) ∧ w = w' := by
  have HC := Lib.hid (stands_any k d w)
  generalize standsB k d = s at *
  go_enter Tryz.func169, Tryz.ntmps169
  go_wp2_with (go_at_call 161; refine HC.out.mono ?_; rintro e w' ⟨rfl, rfl⟩)
  go_ret
  exact ⟨rfl, rfl⟩
set_option maxRecDepth 100000 in
set_option maxHeartbeats 1000000 in
theorem index_any (ao : Option Addr) (cap : Nat) (L : List Nat) (b3 : Nat) (d : Int) (w : World) (hN : Nums ao L w) (hn : L.length ≤ 100000) (hc : w.cell? ⟨b3, 0, none⟩ = some (.int .i64 d)) :
    Calls Tryz.prog 176 #[.slice ao L.length cap, .func (.func 169) #[] #[.pointer (some ⟨b3, 0, none⟩)]] w fun e w' => ∃ r : Int, e = .returned (.int .i64 r) ∧ (0 ≤ r ↔ ∃ x ∈ L, standsB x d = false) ∧ w = w' := by
  have HN := Lib.hid hN
  have HC := Lib.hid hc
  have n1 : (L.length : Int) ≤ 100000 := by omega
  clear hN hc
  go_enter Tryz.func176, Tryz.ntmps176
  go_wp2
  go_loopw [8] (fun i wr => ∃ k : Nat, k ≤ L.length ∧ i = .int .i64 (k : Int) ∧ Hid (∀ x ∈ L.take k, standsB x d = true) ∧ w = wr) (fun i _ => (L.length : Int).toNat - (intOf i).toNat)
  case atStart => exact ⟨0, Nat.zero_le _, rfl, Lib.hid (by simp), rfl⟩
  case round =>
    obtain ⟨k, hk, rfl, HA, rfl⟩ := hrel
    by_cases hke : k = L.length
    · have hl : ¬ (k : Int) < (L.length : Int) := by omega
      have HE := Lib.hid (show ¬ ∃ x ∈ L, standsB x d = false by
        rintro ⟨x, hx, hs⟩
        have := HA.out x (by rw [hke, List.take_length]; exact hx)
        rw [hs] at this; cases this)
      clear hk hke
      go_wp2
      go_ret
      exact ⟨-1, rfl, ⟨fun h => absurd h (by decide), fun h => absurd h HE.out⟩, rfl⟩
    · have hkl : k < L.length := by omega
      have hl : (k : Int) < (L.length : Int) := by omega
      have i0 : (0 : Int) ≤ (k : Int) := by omega
      obtain ⟨x, hx⟩ : ∃ x, L[k] = x := ⟨_, rfl⟩
      have HX := Lib.hid hx
      rcases HN.out with h0 | ⟨bb, off, rfl, hbb, hcell⟩
      · subst h0; simp at hkl
      · have hcx : w.cell? ⟨bb, off + k, none⟩ = some (.int .u64 (x : Int)) := by rw [← hx]; exact hcell k hkl
        have HP := Lib.hid (lacksf_any x b3 d w HC.out)
        have HM := Lib.hid (show x ∈ L by rw [← hx]; exact List.getElem_mem hkl)
        clear hx hcell hke
        cases hs : standsB x d with
        | true =>
          rw [hs] at HP
          have HS := Lib.hid hs
          clear hs
          go_wp2_with (go_at_call 169; refine HP.out.mono ?_; rintro e w' ⟨rfl, rfl⟩)
          go_roundw
          case rel =>
            refine ⟨k + 1, hkl, by go_num, Lib.hid ?_, trivial⟩
            rw [← List.take_append_getElem hkl]
            intro y hy
            rcases List.mem_append.1 hy with h | h
            · exact HA.out y h
            · simp at h; subst h; rw [HX.out]; exact HS.out
          case measure => simp [intOf] <;> omega
        | false =>
          rw [hs] at HP
          have HS := Lib.hid hs
          clear hs
          go_wp2_with (go_at_call 169; refine HP.out.mono ?_; rintro e w' ⟨rfl, rfl⟩)
          go_ret
          exact ⟨_, rfl, ⟨fun _ => ⟨x, HM.out, HS.out⟩, fun _ => i0⟩, rfl⟩
theorem contains_any (ao : Option Addr) (cap : Nat) (L : List Nat) (b3 : Nat) (d : Int) (w : World) (hN : Nums ao L w) (hn : L.length ≤ 100000) (hc : w.cell? ⟨b3, 0, none⟩ = some (.int .i64 d)) :
    Calls Tryz.prog 170 #[.slice ao L.length cap, .func (.func 169) #[] #[.pointer (some ⟨b3, 0, none⟩)]] w fun e w' => e = .returned (.bool (L.any fun x => !standsB x d)) ∧ w = w' := by
  have HC := Lib.hid (index_any ao cap L b3 d w hN hn hc)
  have he : ∀ r : Int, (0 ≤ r ↔ ∃ x ∈ L, standsB x d = false) → decide (r ≥ 0) = L.any fun x => !standsB x d := by
    intro r hr
    rw [Bool.eq_iff_iff]
    simp [hr]
  have HE := Lib.hid he
  generalize (L.any fun x => !standsB x d) = y at *
  clear he hN hc
  go_enter Tryz.func170, Tryz.ntmps170
  go_wp2_with (go_at_call 176; refine HC.out.mono ?_; rintro e w1 ⟨r, rfl, hr, rfl⟩; have HR := Lib.hid hr; clear hr)
  go_ret
  exact ⟨by rw [← HE.out _ HR.out]; rfl, rfl⟩
theorem levels_any (ao : Option Addr) (n cap : Nat) (d : Int) (w : World) : Calls Tryz.prog 171 #[.slice ao n cap, .int .i64 d] w fun e w' => e = .returned (.func (.func 177) #[] #[.pointer (some ⟨w.heap.size, 0, none⟩), .pointer (some ⟨w.heap.size + 1, 0, none⟩)]) ∧ w' = (w.alloc (.cells #[.slice ao n cap] 44)).alloc (.cells #[.int .i64 d] 3) := by
  go_enter Tryz.func171, Tryz.ntmps171
  go_wp2
  go_ret
  exact ⟨by simp, rfl⟩
end Go.Proofs.YtmnklonoelpidaaGreatDoor
/- What is needed of some leaves: the program's answer. -/
namespace Go.Proofs.YtmnklonoelpidaaGreatDoor
open Go.RowKit Go.Sort
attribute [local go_sem] Oper.semAt_some

/-- needed, and no more than twelve -/
def Need12 (K N : List Nat) : Prop := Need K N ∧ N.length ≤ 12
/-- the needed ones of k levels: the variable at b4 holds a row of rows -/
def NeedsAt (base b4 : Nat) (L : List Nat) (k : Nat) (W : World) : Prop :=
  ∃ (v : Value) (vs : List Value) (Ms : List (List Nat)), W.heap[b4]? = some (.cells #[v] 125 (0, 0)) ∧ W.ownsRow base 44 1 v k vs ∧ Ms.length = k ∧
    ∀ (i : Nat) (x : Value) (N : List Nat), vs[i]? = some x → Ms[i]? = some N → W.ownsRow base 22 1 x N.length (N.map encU) ∧ Need12 (upTo L i) N
theorem NeedsAt.kept {S : Nat → Prop} {base b4 : Nat} {L : List Nat} {k : Nat} {W W' : World} (h : NeedsAt base b4 L k W) (hk : Kept S W W') (h4 : S b4) (hS : ∀ j, base ≤ j → S j) : NeedsAt base b4 L k W' := by
  obtain ⟨v, vs, Ms, h1, h2, h3, h5⟩ := h
  exact ⟨v, vs, Ms, (hk.block b4 (Array.getElem?_eq_some_iff.1 h1).1 h4).trans h1, own_kept h2 hk hS, h3, fun i x N hx hN => ⟨own_kept (h5 i x N hx hN).1 hk hS, (h5 i x N hx hN).2⟩⟩
theorem infoW : (Tryz.prog.info? 44).map (fun i => (i.zero, i.size, i.bytes)) = some (some (.slice none 0 0), 1, 24) := by kernel_rfl
theorem own_apart {w : World} {b1 b2 e1 e2 n m : Nat} {v x : Value} {xs ys : List Value} (h : w.ownsRow b1 e1 1 v n xs) (k : w.ownsRow b2 e2 1 x m ys) (hne : e1 ≠ e2) : x.ownBlock = none ∨ x.ownBlock ≠ v.ownBlock := by
  rcases k.2 with ⟨rfl, _⟩ | ⟨g, cap, cur, rfl, _, hg, _⟩
  · exact .inl rfl
  · refine .inr fun e => ?_
    rcases h.2 with ⟨rfl, _⟩ | ⟨g2, cap2, cur2, rfl, _, hg2, _⟩
    · cases e
    · cases e
      rw [hg] at hg2
      cases hg2
      exact hne rfl
theorem own_one {w : World} {b e n : Nat} {v : Value} {xs : List Value} (h : w.ownsRow b e 1 v n xs) : v.oneCell' = true := by
  rcases h.2 with ⟨rfl, _⟩ | ⟨g, cap, cur, rfl, _⟩ <;> rfl
end Go.Proofs.YtmnklonoelpidaaGreatDoor
/- Where nothing is needed; the depth; the reference's. -/
namespace Go.Proofs.YtmnklonoelpidaaGreatDoor
open Go.RowKit Go.Sort

end Go.Proofs.YtmnklonoelpidaaGreatDoor
/- Rows of rows of numbers. -/
namespace Go.Proofs.YtmnklonoelpidaaGreatDoor
open Go.RowKit Go.Sort

/-- the slice at ao lays the rows M -/
def Rows2 (ao : Option Addr) (M : List (List Nat)) (w : World) : Prop :=
  M = [] ∨ ∃ b off, ao = some ⟨b, off, none⟩ ∧ ∀ i (h : i < M.length), ∃ ai ci, w.cell? ⟨b, off + i, none⟩ = some (.slice ai (M[i]).length ci) ∧ Nums ai M[i] w
theorem nums_at {ao : Option Addr} {L : List Nat} {w : World} (h : Nums ao L w) (k : Nat) (hk : k < L.length) : ∃ b off, ao = some ⟨b, off, none⟩ ∧ w.cell? ⟨b, off + k, none⟩ = some (.int .u64 (L[k] : Int)) := by
  rcases h with h | ⟨b, off, h1, _, h3⟩
  · subst h; simp at hk
  · exact ⟨b, off, h1, h3 k hk⟩
theorem rows_at {ao : Option Addr} {M : List (List Nat)} {w : World} (h : Rows2 ao M w) (k : Nat) (hk : k < M.length) : ∃ b off ai ci, ao = some ⟨b, off, none⟩ ∧ w.cell? ⟨b, off + k, none⟩ = some (.slice ai (M[k]).length ci) ∧ Nums ai M[k] w := by
  rcases h with h | ⟨b, off, h1, h3⟩
  · subst h; simp at hk
  · obtain ⟨ai, ci, h4, h5⟩ := h3 k hk
    exact ⟨b, off, ai, ci, h1, h4, h5⟩
end Go.Proofs.YtmnklonoelpidaaGreatDoor
/- Rows of numbers: what is kept; closed levels. -/
namespace Go.Proofs.YtmnklonoelpidaaGreatDoor
open Go.RowKit Go.Sort

theorem nums_next {ao : Option Addr} {L : List Nat} {w w' : World} (h : Nums ao L w) (hb : Below w.heap.size w w') : Nums ao L w' := by
  rcases h with h | ⟨b, off, rfl, h2, h3⟩
  · exact .inl h
  · exact .inr ⟨b, off, rfl, by have := hb.size; omega, fun i hi => (hb.cell (p := ⟨b, off + i, none⟩) h2).trans (h3 i hi)⟩
theorem rows_next {ao : Option Addr} {M : List (List Nat)} {w w' : World} (h : Rows2 ao M w) (hb : Below w.heap.size w w') : Rows2 ao M w' := by
  rcases h with h | ⟨b, off, rfl, h3⟩
  · exact .inl h
  · refine .inr ⟨b, off, rfl, fun i hi => ?_⟩
    obtain ⟨ai, ci, h4, h5⟩ := h3 i hi
    exact ⟨ai, ci, (hb.cell (p := ⟨b, off + i, none⟩) (World.block_lt_of_cell? w _ h4)).trans h4, nums_next h5 hb⟩
theorem nums_lit {w : World} {b : Nat} {L : List Nat} {cs : Array Value} {T : TypeId} {fr : Nat × Nat} (h : w.heap[b]? = some (.cells cs T fr)) (hc : cs = (L.map encU).toArray) : Nums (some ⟨b, 0, none⟩) L w := by
  refine .inr ⟨b, 0, rfl, (Array.getElem?_eq_some_iff.1 h).1, fun i hi => ?_⟩
  subst hc
  simp [World.cell?, h, hi, encU]
theorem alloc_new (w : World) (o : Obj) {B : Nat} (hB : B = w.heap.size) : (w.alloc o).heap[B]? = some o := by subst hB; exact World.alloc_heap_new w o
theorem alloc_old (w : World) (o : Obj) {b : Nat} (hb : b < w.heap.size) : (w.alloc o).heap[b]? = w.heap[b]? := Below.heap_alloc _ _ _ hb
end Go.Proofs.YtmnklonoelpidaaGreatDoor
/- Sorting a row of numbers in place, of up to forty-nine: what is kept, what an order is. -/
namespace Go.Proofs.YtmnklonoelpidaaGreatDoor
open Go.RowKit Go.Sort

/-- in order from a on, up to b -/
def Srt (a b : Nat) (d : Array Nat) : Prop := ∀ p q, a ≤ p → p < q → q < b → d[p]! ≤ d[q]!
/-- nothing from a on, up to b, is less than what lies ahead of it -/
def Low (a b : Nat) (d : Array Nat) : Prop := a = 0 ∨ ∀ t, a ≤ t → t < b → d[a - 1]! ≤ d[t]!
/-- block b holds the n numbers of dk in its first cells, and all else is as it was at w0 -/
structure Rw (w0 : World) (b : Nat) (c0 : Array Value) (n : Nat) (dk : Array Nat) (wr : World) : Prop where
  size : dk.size = n
  room : n ≤ c0.size
  blk : wr.heap[b]? = some (.cells (putCells encU 0 dk c0) 22 (0, 0))
  kept : w0.grownBy wr (some b)
  old : b < w0.heap.size
theorem Rw.cell {w0 wr : World} {b n : Nat} {c0 : Array Value} {dk : Array Nat} (h : Rw w0 b c0 n dk wr) (t : Nat) (ht : t < n) : wr.cell? ⟨b, t, none⟩ = some (.int .u64 (dk[t]! : Int)) := by
  have := h.room
  rw [lit_cell h.blk]
  simp [putCells, encU, h.size, ht, show t < c0.size by omega]
theorem Rw.free {w0 wr : World} {b n : Nat} {c0 : Array Value} {dk : Array Nat} (h : Rw w0 b c0 n dk wr) (t : Nat) : wr.frozen? ⟨b, t, none⟩ = false := lit_free h.blk t
theorem Rw.drewN {w0 wr : World} {b n : Nat} {c0 : Array Value} {dk : Array Nat} (h : Rw w0 b c0 n dk wr) (q : Nat) : Rw w0 b c0 n dk (wr.drewN q) :=
  ⟨h.size, h.room, h.blk, ⟨h.kept.os, h.kept.tape, h.kept.output, h.kept.size, h.kept.block⟩, h.old⟩
theorem Rw.drew {w0 wr : World} {b n : Nat} {c0 : Array Value} {dk : Array Nat} (h : Rw w0 b c0 n dk wr) : Rw w0 b c0 n dk wr.drew :=
  ⟨h.size, h.room, h.blk, ⟨h.kept.os, h.kept.tape, h.kept.output, h.kept.size, h.kept.block⟩, h.old⟩
theorem Rw.lt {w0 wr : World} {b n : Nat} {c0 : Array Value} {dk : Array Nat} (h : Rw w0 b c0 n dk wr) : b < wr.heap.size := (Array.getElem?_eq_some_iff.1 h.blk).1
theorem Rw.alloc {w0 wr : World} {b n : Nat} {c0 : Array Value} {dk : Array Nat} (h : Rw w0 b c0 n dk wr) (o : Obj) : Rw w0 b c0 n dk (wr.alloc o) :=
  ⟨h.size, h.room, (alloc_old wr o h.lt).trans h.blk, h.kept.andThen (World.grownBy_alloc wr o none) (fun j e => by cases e), h.old⟩
/-- a store into a block that was made since -/
theorem Rw.store {w0 wr : World} {b n l : Nat} {c0 : Array Value} {dk : Array Nat} (h : Rw w0 b c0 n dk wr) (hl : w0.heap.size ≤ l) (o : Nat) (v : Value) : Rw w0 b c0 n dk (wr.setCell ⟨l, o, none⟩ v) := by
  have hne : b ≠ l := by have := h.old; omega
  refine ⟨h.size, h.room, (lit_far v hne).trans h.blk, ⟨h.kept.os, h.kept.tape, h.kept.output, ?_, fun j hj hn => ?_⟩, h.old⟩
  · rw [show (wr.setCell ⟨l, o, none⟩ v).heap.size = wr.heap.size from by simp [World.setCell]]; exact h.kept.size
  · exact (lit_far v (show j ≠ l by omega)).trans (h.kept.block j hj hn)
theorem Rw.swap {w0 wr : World} {b n : Nat} {c0 : Array Value} {dk : Array Nat} (h : Rw w0 b c0 n dk wr) (i j : Nat) (hi : i < n) (hj : j < n) :
    Rw w0 b c0 n (swp dk i j) ((wr.setCell ⟨b, i, none⟩ (encU dk[j]!)).setCell ⟨b, j, none⟩ (encU dk[i]!)) := by
  have hr := h.room
  have hs := h.size
  refine ⟨by rw [swp_size, h.size], h.room, ?_, ?_, h.old⟩
  · rw [lit_set _ (lit_set _ h.blk)]
    have e1 := putCells_set encU 0 dk c0 i dk[j]! (by omega)
    have e2 := putCells_set encU 0 (dk.setIfInBounds i dk[j]!) c0 j dk[i]! (by simp; omega)
    rw [Nat.zero_add] at e1 e2
    rw [e1, e2]
    rfl
  · refine ⟨h.kept.os, h.kept.tape, h.kept.output, ?_, fun k hk hn => ?_⟩
    · simp [World.setCell]; exact h.kept.size
    · have hne : k ≠ b := fun e => hn (by rw [e])
      exact ((lit_far _ hne).trans (lit_far _ hne)).trans (h.kept.block k hk hn)
end Go.Proofs.YtmnklonoelpidaaGreatDoor
