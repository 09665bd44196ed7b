/- Ranges over a function whose iterator makes some blocks of its own ahead of the first round, and reads them then: what the caller owes, at the wide fence. -/
import Derived.Test.YtfghggfoncfhgaaGreatDoorJ2
import Derived.Test.YtfghggfoncfhgaaGreatDoorProg
import Derived.Lib.Hide
import Derived.Handy
import Derived.Maps.OwnIn
import Derived.CellFam
import Derived.BigGuard
import Derived.BigCall
import Derived.Deep.Draws
import Derived.Deep.QuietTactic
import Derived.BigQuiet
import Derived.Sort.Grow
import Derived.Deep.RegionHeld3
import Derived.StillTailTactics
import Derived.Shelf.Small.Bits
import Derived.Shelf.Strconv.Itoa0
import Derived.Laws.AppendOwn
namespace Go.Proofs.YtfghggfoncfhgaaGreatDoor
open Go.RowKit

/-- what is asked of an iterator that makes the blocks up to 'mid' ahead of its first round, writes nothing, and hands over enc 0 .. enc (N - 1) -/
def HandsMid (P : Program) (gf : Nat) (lb : Array Value) (enc : Nat → Array Value) (N : Nat) (ok : World → Prop) : Prop :=
  ∀ (l : Nat) (J : Nat → Nat → World → Prop) (W : World), ok W →
    (∀ mid k W1 W', W.heap.size ≤ mid → mid ≤ W'.heap.size → k < N → J mid k W1 → Kept (fun _ => True) W1 W' →
      YieldAt Fence.wide 0 P l (enc k) W' fun e W'' => e = .returned (.bool true) ∧ J mid (k + 1) W'' ∧ Kept (fun j => W.heap.size ≤ j ∧ j < mid) W' W'') →
    (∀ mid, J mid 0 W) → Calls P gf (#[.func (.yield l) #[] #[]] ++ lb) W fun e W' => (∃ v, e = .returned v) ∧ ∃ mid W1, W.heap.size ≤ mid ∧ J mid N W1 ∧ Kept (fun _ => True) W1 W'

theorem wp_rangeFunc_mid {P : Program} {g : Operand} {ps : Array Tmp} {assign body : Code} {Q : Exit → Act → World → Prop} {a : Act} {w : World}
    {gf : Nat} {lb : Array Value} (hg : a.eval g = .func (.func gf) #[] lb) (eg : ∀ args w, (callFunc gf args).run P w = .ok (.enter gf args) w)
    {enc : Nat → Array Value} {N : Nat} {ok : World → Prop} (hseq : HandsMid P gf lb enc N ok) (hps : ∀ k, (enc k).size = ps.size)
    (lo : Nat) (hlo : w.heap.size = lo) (Own : List Nat) (hok : ∀ W', Kept (fun j => j < lo ∧ j ∉ Own) w W' → ok W')
    (R : Nat → Nat → World → Prop) (hR : ∀ m k W W', R m k W → Kept (fun j => j < lo ∨ lo + 2 ≤ j) W W' → R m k W') (h0 : ∀ m, R m 0 w) (a₁ : Nat → Act)
    (hassign : ∀ (l k : Nat) (W : World) (K : Act → World → Prop), K (a₁ k) W →
      assign.wpIn (Fence.wide.inRound l) 0 P (Exit.then K (fun _ _ _ => False)) { tmps := (ps.zip (enc k)).foldl (fun t (p, v) => t.setIfInBounds p v) a.tmps, defers := [] } W)
    (hbody : ∀ (l : Nat) (mid k : Nat) (W : World), lo + 2 ≤ mid → mid ≤ W.heap.size → k < N → R mid k W →
      body.wpIn (Fence.wide.inRound l) 0 P (roundKept (fun j => (j < lo ∧ j ∉ Own) ∨ (lo ≤ j ∧ j < mid)) (R mid (k + 1)) W) (a₁ k) W)
    (hdone : ∀ (m : Nat) (W : World), lo + 2 ≤ m → R m N W → Kept (fun j => j < lo ∧ j ∉ Own) w W → W.heap[lo]? = some (.deferred (some [])) → Q .normal { a with defers := { target := .collected lo, args := #[] } :: a.defers } W) :
    (Code.rangeFunc g ps assign body).wp P Q a w := by
  refine (wpIn_wide (n := 0)).1 (wpIn_rangeFunc ?_)
  intro fn hfn
  obtain ⟨rec, hrec⟩ : ∃ rec : LoopState → Option Code → Loop, rec = fun st pe => { state := st, pending := pe, fn, tmps := a.tmps, params := ps, assign, body, defers := lo } := ⟨_, rfl⟩
  obtain ⟨W1, hW1⟩ : ∃ W1, (w.alloc (.deferred (some []))).alloc (.loop (rec .ready none)) = W1 := ⟨_, rfl⟩
  have hz1 : W1.heap.size = lo + 2 := by rw [← hW1]; simp [hlo]
  have hL1 : W1.heap[lo + 1]? = some (.loop (rec .ready none)) := by
    rw [← hW1]; have := World.alloc_heap_new (w.alloc (.deferred (some []))) (.loop (rec .ready none)); rwa [World.size_alloc, hlo] at this
  have hK1 : W1.heap[lo]? = some (.deferred (some [])) := by
    rw [← hW1]
    have := World.alloc_heap_new w (.deferred (some []))
    rw [hlo] at this
    exact (Below.heap_alloc _ _ _ (by simp; omega)).trans this
  have hb1 : Below lo w W1 := by
    rw [← hW1]
    have := Below.refl lo w
    exact (this.alloc (by omega) _).alloc (by simp; omega) _
  have hk1 : Kept (fun j => j < lo ∧ j ∉ Own) w W1 := Kept.of_below hb1 fun j hj => hj.1
  refine ⟨w.heap.size + 1, [{ target := .collected w.heap.size, args := #[] }], W1, { target := .fn (.func gf) lb, args := #[.func (.yield (w.heap.size + 1)) #[] #[]] }, W1, gf,
    #[.func (.yield (w.heap.size + 1)) #[] #[]] ++ lb, W1, ?_, ?_, ?_, ?_, fun h => by simp [Fence.wide] at h, ?_⟩
  · rw [← hW1, hrec, ← hlo]; exact run_enterLoop_outer _ _ _ _ _
  · simp only [resolve, hg]
    simp [go_sem]
  · intro f' hf'; trivial
  · simp [invoke, go_sem, eg]
  · refine callsIn_wide.2 ?_
    rw [hlo]
    have key := hseq (lo + 1)
      (fun m k W => R m k W ∧ Kept (fun j => j < lo ∧ j ∉ Own) w W ∧ W.heap[lo + 1]? = some (.loop (rec .ready none)) ∧ W.heap[lo]? = some (.deferred (some [])) ∧ lo + 2 ≤ W.heap.size)
      W1 (hok W1 hk1) ?_ (fun m => ⟨hR m 0 _ _ (h0 m) ⟨hb1.os, hb1.tape, hb1.output, hb1.size, fun j hj _ => hb1.block j (by omega)⟩, hk1, hL1, hK1, by omega⟩)
    · refine key.mono ?_
      rintro e W2' ⟨⟨v, rfl⟩, m, W2, hm, ⟨hr, hb, hl, hk, hz⟩, hkeep⟩
      rw [hz1] at hm
      have hl' : W2'.heap[lo + 1]? = some (.loop (rec .ready none)) := (hkeep.block _ (by omega) trivial).trans hl
      have hk' : W2'.heap[lo]? = some (.deferred (some [])) := (hkeep.block _ (by omega) trivial).trans hk
      refine ⟨none, _, by have := run_endLoop (P := P) hl' (by rw [hrec]; simp); rw [hrec] at this; exact this, ?_⟩
      have keep : ∀ j, j ≠ lo + 1 → (W2'.putObj (lo + 1) (.loop { rec .ready none with state := .exhausted })).heap[j]? = W2'.heap[j]? := fun j hj => World.putObj_heap_other (by omega)
      have kk : Kept (fun j => j < lo ∨ lo + 2 ≤ j) W2 (W2'.putObj (lo + 1) (.loop { rec .ready none with state := .exhausted })) :=
        (hkeep.less (fun j _ _ => trivial)).trans (Kept.putObj _ _ _ _ (by omega))
      have hq := hdone m _ hm (hR m N _ _ hr kk) (hb.trans (kk.less fun j _ hj => .inl hj.1)) ((keep _ (by omega)).trans hk')
      rw [hrec] at hq
      exact hq
    · rintro m k W W' hm1 hm2 hkN ⟨hr, hb, hl, hk, hz⟩ hkeep
      rw [hz1] at hm1
      have hsz' := hkeep.size
      have hl' : W'.heap[lo + 1]? = some (.loop (rec .ready none)) := (hkeep.block _ (by omega) trivial).trans hl
      have hk' : W'.heap[lo]? = some (.deferred (some [])) := (hkeep.block _ (by omega) trivial).trans hk
      have hr' : R m k W' := hR m k _ _ hr (hkeep.less fun j _ _ => trivial)
      have hb' : Kept (fun j => j < lo ∧ j ∉ Own) w W' := hb.trans (hkeep.less fun j _ _ => trivial)
      have hy := run_yield (P := P) (args := enc k) hl' (by rw [hrec]; exact hps _)
      rw [hrec] at hy
      have hlt' : lo + 1 < W'.heap.size := by omega
      refine ⟨fn, _, assign, body, hy, roundIn_of_wpIn hfn (hassign _ k W' _ ⟨_, run_beginRound hl' (by rw [hrec]), ?_⟩)⟩
      obtain ⟨Wb, hWb⟩ : ∃ Wb, W'.putObj (lo + 1) (.loop { rec .ready none with state := .busy }) = Wb := ⟨_, rfl⟩
      have hl2 : Wb.heap[lo + 1]? = some (.loop { rec .ready none with state := .busy }) := by rw [← hWb]; exact World.putObj_heap_same hlt'
      have keepb : ∀ j, j ≠ lo + 1 → Wb.heap[j]? = W'.heap[j]? := fun j hj => by rw [← hWb]; exact World.putObj_heap_other (by omega)
      have hzb : Wb.heap.size = W'.heap.size := by rw [← hWb]; simp [World.putObj]
      have kb : Kept (fun j => j ≠ lo + 1) W' Wb := by rw [← hWb]; exact Kept.putObj _ _ _ _ (by simp)
      have hbb := hbody (lo + 1) m k Wb hm1 (by omega) hkN (hR m k _ _ hr' (kb.less fun j _ hj => by omega))
      rw [← hWb] at hbb hl2 keepb hzb kb
      refine wpIn_mono hbb ?_
      rw [hWb] at hl2 keepb hzb kb ⊢
      rintro e a3 W3 hp3
      cases e with
      | normal =>
        obtain ⟨hb3, hr3⟩ := hp3
        have hl3 : W3.heap[lo + 1]? = some (.loop { rec .ready none with state := .busy }) := (hb3.block _ (by omega) (.inr ⟨by omega, by omega⟩)).trans hl2
        have hk3 : W3.heap[lo]? = some (.deferred (some [])) := (hb3.block _ (by omega) (.inr ⟨by omega, by omega⟩)).trans ((keepb _ (by omega)).trans hk')
        have hend : (Instr.endRound (lo + 1) none).run P W3 = .ok (.bool true) (W3.putObj (lo + 1) (.loop (rec .ready none))) := by
          have := run_endRound (P := P) none hl3
          rw [hrec] at this ⊢
          exact this
        have hz3 := hb3.size
        have ke : Kept (fun j => j ≠ lo + 1) W3 (W3.putObj (lo + 1) (.loop (rec .ready none))) := Kept.putObj _ _ _ _ (by simp)
        have hfin : Kept (fun j => j < lo ∧ j ∉ Own) w (W3.putObj (lo + 1) (.loop (rec .ready none))) := ((hb'.trans (kb.less fun j _ hj => by omega)).trans (hb3.less fun j _ hj => .inl hj)).trans (ke.less fun j _ hj => by omega)
        have hall : Kept (fun j => lo + 2 ≤ j ∧ j < m) W' (W3.putObj (lo + 1) (.loop (rec .ready none))) := ((kb.less fun j _ hj => by omega).trans (hb3.less fun j _ hj => .inr ⟨by omega, hj.2⟩)).trans (ke.less fun j _ hj => by omega)
        exact ⟨_, _, hend, rfl, ⟨hR _ _ _ _ hr3 (ke.less fun j _ hj => by omega), hfin, World.putObj_heap_same (by omega), (World.putObj_heap_other (by omega)).trans hk3, by simp [World.putObj]; omega⟩, by rw [hz1]; exact hall⟩
      | ret => exact hp3.elim
      | exit id => exact hp3.elim
      | goto t => exact hp3.elim
      | panic ch => exact hp3.elim
      | outgrown => exact hp3.elim
end Go.Proofs.YtfghggfoncfhgaaGreatDoor
/- Layout's leaves: comparing, siblings, parents, what stands, turned bits. -/
namespace Go.Proofs.YtfghggfoncfhgaaGreatDoor
open Go.RowKit

set_option maxHeartbeats 400000 in
theorem isNaN_any (x : Int) (w : World) : Calls Tryz.prog 115 #[.int .u64 x] w fun e w' => e = .returned (.bool false) ∧ w = w' := by
  go_enter Tryz.func115, Tryz.ntmps115
  go_wp2
  go_ret
  exact ⟨by simp, rfl⟩
theorem less_any (x y : Int) (w : World) : Calls Tryz.prog 107 #[.int .u64 x, .int .u64 y] w fun e w' => e = .returned (.bool (decide (x < y))) ∧ w = w' := by
  go_enter Tryz.func107, Tryz.ntmps107
  go_wp2_with (go_at_call 115; refine (isNaN_any _ _).mono ?_; rintro e w' ⟨rfl, rfl⟩)
  go_ret
  exact ⟨rfl, rfl⟩
theorem sibling_any (k : Nat) (hk : k < 18446744073709551616) (w : World) : Calls Tryz.prog 81 #[.int .u64 (k : Int)] w fun e w' => e = .returned (.int .u64 (sib k : Int)) ∧ w = w' := by
  have h1 : bits .xor .u64 (k : Int) ((1 : Nat) : Int) = ((k ^^^ 1 : Nat) : Int) := u64_xor_nat k 1 hk (by decide)
  rw [xor_one] at h1
  generalize sib k = s at *
  go_enter Tryz.func81, Tryz.ntmps81
  go_wp2
  go_ret
  exact ⟨by simp at h1; simp [h1], rfl⟩
end Go.Proofs.YtfghggfoncfhgaaGreatDoor
/- Layout's sets: has, gather; leaves and elements. -/
namespace Go.Proofs.YtfghggfoncfhgaaGreatDoor
open Go.RowKit
open Go.Maps (Keyed)

theorem keyU : Keyed Tryz.prog 23 := Maps.int_keyed Tryz.underlying23
theorem key_of {k : Nat} (h : k < 18446744073709551616) : keyOf Tryz.prog 23 (.int .u64 (k : Int)) = some (lit k) := Maps.keyOf_int_mk Tryz.underlying23 (lit_wf h)
abbrev SetU (b n : Nat) (K : List Nat) (w : World) : Prop := SetAt Tryz.prog 23 b n K w
abbrev RangeU (b r n : Nat) (K V : List Nat) (w : World) : Prop := RangeAt Tryz.prog 23 b r n K V w
theorem has_any (b n : Nat) (K : List Nat) (k : Nat) (hk : k < 18446744073709551616) (w : World) (hs : SetU b n K w) : Calls Tryz.prog 82 #[.map (some b), .int .u64 (k : Int)] w fun e w' => e = .returned (.bool (decide (k ∈ K))) ∧ w.grownBy w' none := by
  obtain ⟨D, hown, hD⟩ := hs
  have hd := hD k
  have hkey := key_of hk
  clear hD
  go_enter Tryz.func82, Tryz.ntmps82
  go_wp2_with (at_lookup; refine wpList_lookup_own_unit _ rfl _ _ 93 rfl 23 129 keyU Tryz.underlying93 (Tryz.zeroValue129 _) b n D rfl hown _ _ rfl hkey ?_)
  go_ret
  refine ⟨by rw [← hd]; rfl, ?_⟩
  exact World.grownBy_alloc _ _ _

/-- the slice at ao lays the numbers L -/
def Nums (ao : Option Addr) (L : List Nat) (w : World) : Prop := L = [] ∨ ∃ b off, ao = some ⟨b, off, none⟩ ∧ b < w.heap.size ∧ ∀ i (h : i < L.length), w.cell? ⟨b, off + i, none⟩ = some (.int .u64 (L[i] : Int))
theorem Nums.kept {S : Nat → Prop} {ao : Option Addr} {L : List Nat} {w w' : World} (h : Nums ao L w) (hk : Kept S w w') (hS : ∀ b, (∃ off, ao = some ⟨b, off, none⟩) → S b) : Nums ao L w' := by
  rcases h with h | ⟨b, off, rfl, h2, h3⟩
  · exact .inl h
  · refine .inr ⟨b, off, rfl, by have := hk.size; omega, fun i hi => ?_⟩
    rw [World.cell?_of_block (hk.block b h2 (hS b ⟨off, rfl⟩))]
    exact h3 i hi
theorem Nums.grown {row : Option Nat} {ao : Option Addr} {L : List Nat} {w w' : World} (h : Nums ao L w) (hg : w.grownBy w' row) (hS : ∀ b off, ao = some ⟨b, off, none⟩ → some b ≠ row) : Nums ao L w' := by
  rcases h with h | ⟨b, off, rfl, h2, h3⟩
  · exact .inl h
  · refine .inr ⟨b, off, rfl, by have := hg.size; omega, fun i hi => ?_⟩
    rw [World.cell?_of_block (hg.block b h2 (hS b off rfl))]
    exact h3 i hi
theorem SetAt.no_cell {P : Program} {ku : TypeId} {b n : Nat} {K : List Nat} {w : World} (h : SetAt P ku b n K w) (o : Nat) : w.cell? ⟨b, o, none⟩ = none := by
  obtain ⟨D, ⟨es, clock, hb, _⟩, _⟩ := h
  simp [World.cell?, hb]
set_option maxRecDepth 100000 in
set_option maxHeartbeats 1000000 in
theorem gather_any (b n : Nat) (K L : List Nat) (ao : Option Addr) (cap : Nat) (w : World) (hs : SetU b n K w) (hn : Nums ao L w) (hL : ∀ x ∈ L, x < 18446744073709551616) (hb : n + L.length ≤ 100000) :
    Calls Tryz.prog 79 #[.map (some b), .slice ao L.length cap] w fun e w' => e = .returned (.tuple #[]) ∧ SetU b (n + L.length) (K ++ L) w' ∧ w.grownBy w' (some b) := by
  have HL := Lib.hid hL
  have HN := Lib.hid hn
  have HS := Lib.hid hs
  have n1 : (L.length : Int) ≤ 100000 := by omega
  clear hL hn hs
  go_enter Tryz.func79, Tryz.ntmps79
  go_wp2
  go_loopw [8] (fun i wr => ∃ k : Nat, k ≤ L.length ∧ i = .int .i64 (k : Int) ∧ Hid (SetU b (n + k) (K ++ L.take k) wr) ∧ Hid (w.grownBy wr (some b))) (fun i _ => (L.length : Int).toNat - (intOf i).toNat)
  case atStart => exact ⟨0, Nat.zero_le _, rfl, Lib.hid (by simpa using HS.out), Lib.hid ⟨rfl, rfl, rfl, Nat.le_refl _, fun _ _ _ => rfl⟩⟩
  case round =>
    obtain ⟨k, hk, rfl, HT, HG⟩ := hrel
    by_cases hke : k = L.length
    · have hl : ¬ (k : Int) < (L.length : Int) := by omega
      have HE := Lib.hid (show SetU b (n + L.length) (K ++ L) wr by have := HT.out; rw [hke, List.take_length] at this; exact this)
      clear hk hke
      go_wp2
      go_end0
      exact ⟨rfl, HE.out, HG.out⟩
    · have hkl : k < L.length := by omega
      have hl : (k : Int) < (L.length : Int) := by omega
      have i0 : (0 : Int) ≤ (k : Int) := by omega
      obtain ⟨x, hx⟩ : ∃ x, L[k] = x := ⟨_, rfl⟩
      have hx64 : x < 18446744073709551616 := hx ▸ HL.out _ (List.getElem_mem hkl)
      have hkey := key_of hx64
      rcases HN.out with h0 | ⟨bb, off, rfl, hbb, hcell⟩
      · subst h0; simp at hkl
      · have hne : bb ≠ b := fun e => by
          have h1 := hcell k hkl
          rw [e, HS.out.no_cell] at h1
          cases h1
        have hc : wr.cell? ⟨bb, off + k, none⟩ = some (.int .u64 (x : Int)) := by
          rw [World.cell?_of_block (HG.out.block bb hbb (fun e => hne (Option.some.inj e))), ← hx]
          exact hcell k hkl
        have HX := Lib.hid hx
        clear hx hcell hke
        obtain ⟨D, hown, hD⟩ := HT.out
        have HD := Lib.hid hD
        clear hD
        go_wp2_with (at_mapUpdate; refine wpList_mapUpdate_own _ rfl _ _ _ 93 rfl 23 129 keyU Tryz.underlying93 unitElem b (n + k) D rfl hown (by unfold maxLen; omega) _ _ (lit x) rfl rfl hkey (.agg []) [] unitElem_mk ?_; intro w1 hown1 hgrow1; have HO1 := Lib.hid hown1; have HG1 := Lib.hid hgrow1; clear hown1 hgrow1)
        go_roundw
        case rel =>
          refine ⟨k + 1, hkl, by go_num, Lib.hid ?_, Lib.hid ?_⟩
          · have := SetAt.push (x := x) hown HD.out HO1.out
            rw [List.append_assoc, ← HX.out, List.take_append_getElem hkl] at this
            exact this
          · exact HG.out.andThen HG1.out (fun j hj => .inr hj)
        case measure => simp [intOf] <;> omega
end Go.Proofs.YtfghggfoncfhgaaGreatDoor
/- The library's sort of numbers, where it goes by insertion: no more than twelve. -/
namespace Go.Proofs.YtfghggfoncfhgaaGreatDoor
open Go.RowKit Go.Sort

/-- the row is some order of what it was -/
structure Ord (w0 : World) (blk off : Nat) (d0 : Array Nat) (dk : Array Nat) (wr : World) : Prop where
  p : PermIn 0 d0.size d0 dk
  w : ∃ n, wr = putRow encU (Sort.ahead w0 n) blk off dk
theorem Ord.size {w0 wr : World} {blk off : Nat} {d0 dk : Array Nat} (h : Ord w0 blk off d0 dk wr) : dk.size = d0.size := h.p.1
theorem Ord.start {w0 : World} {blk off : Nat} {d0 : Array Nat} (h : Holds encU w0 blk off d0) : Ord w0 blk off d0 d0 w0 := ⟨permIn_refl _ _ _, 0, (putRow_self _ _ _ _ _ h).symm⟩
theorem Ord.cell {w0 wr : World} {blk off : Nat} {d0 dk : Array Nat} (h : Ord w0 blk off d0 dk wr) (h0 : Holds encU w0 blk off d0) (t : Nat) (ht : t < d0.size) : wr.cell? ⟨blk, off + t, none⟩ = some (.int .u64 (dk[t]! : Int)) ∧ wr.frozen? ⟨blk, off + t, none⟩ = false := by
  obtain ⟨n, rfl⟩ := h.w
  exact ⟨cell?_putRow _ _ _ _ d0 dk (holds_ahead _ _ _ _ _ _ h0) h.size t (by rw [h.size]; exact ht), by rw [frozen?_putRow]; exact (holds_ahead encU w0 n _ _ _ h0 t ht).2⟩
theorem ahead_put (w : World) (n q blk off : Nat) (d : Array Nat) : (putRow encU (Sort.ahead w n) blk off d).drewN q = putRow encU (Sort.ahead w (n + q)) blk off d := by
  show Sort.ahead (putRow encU (Sort.ahead w n) blk off d) q = _
  rw [putRow_ahead encU w n, ahead_ahead, ← putRow_ahead]
theorem Ord.drewN {w0 wr : World} {blk off : Nat} {d0 dk : Array Nat} (h : Ord w0 blk off d0 dk wr) (q : Nat) : Ord w0 blk off d0 dk (wr.drewN q) := by
  obtain ⟨n, hw⟩ := h.w
  exact ⟨h.p, n + q, by rw [hw]; exact ahead_put _ _ _ _ _ _⟩
theorem Ord.swap {w0 wr : World} {blk off : Nat} {d0 dk : Array Nat} (h : Ord w0 blk off d0 dk wr) (i j : Nat) (hi : i < d0.size) (hj : j < d0.size) :
    Ord w0 blk off d0 (swp dk i j) ((wr.setCell ⟨blk, off + i, none⟩ (encU dk[j]!)).setCell ⟨blk, off + j, none⟩ (encU dk[i]!)) := by
  obtain ⟨n, hw⟩ := h.w
  refine ⟨permIn_trans _ _ _ _ _ h.p (swp_permIn _ _ _ _ _ (Nat.zero_le _) hi (Nat.zero_le _) hj (by rw [h.size]; exact Nat.le_refl _)), n, ?_⟩
  rw [hw]
  exact putRow_swp encU _ blk off dk i j (by rw [h.size]; exact hi) (by rw [h.size]; exact hj)
theorem Up.ends {d : Array Nat} {i n : Nat} (h : Up d i) (hn : n ≤ i) : Up d n := fun p q hpq hq => h p q hpq (by omega)
set_option maxRecDepth 100000 in
set_option maxHeartbeats 2000000 in
theorem ins_any (blk off cap : Nat) (d : Array Nat) (w : World) (hH : Holds encU w blk off d) (hsz : d.size ≤ 100000) :
    Calls Tryz.prog 101 #[.slice (some ⟨blk, off, none⟩) d.size cap, .int .i64 0, .int .i64 (d.size : Int)] w fun e w' => e = .returned (.tuple #[]) ∧ ∃ dk, Ord w blk off d dk w' ∧ Up dk d.size := by
  have HH := Lib.hid hH
  have HO := Lib.hid (Ord.start hH)
  have n1 : (d.size : Int) ≤ 100000 := by omega
  clear hH
  go_enter Tryz.func101, Tryz.ntmps101
  go_wp2
  go_loopw [6] (fun vi wr => ∃ (i : Nat) (dk : Array Nat), vi = .int .i64 (i : Int) ∧ 0 < i ∧ i ≤ d.size + 1 ∧ Hid (Ord w blk off d dk wr) ∧ Hid (Up dk i)) (fun vi _ => d.size + 1 - (intOf vi).toNat)
  case atStart => exact ⟨1, d, by go_num, by omega, by omega, HO, Lib.hid fun p q h1 h2 => by omega⟩
  case round =>
    obtain ⟨i, dk, rfl, hi0, hib, HD, HU⟩ := hrel
    by_cases hlt : i < d.size
    · have hl : (i : Int) < (d.size : Int) := by omega
      go_wp2
      go_loopw [7] (fun vj wr2 => ∃ (j : Nat) (dj : Array Nat), vj = .int .i64 (j : Int) ∧ j ≤ i ∧ Hid (Ord w blk off d dj wr2) ∧ Hid (UpBut dj i j)) (fun vj _ => (intOf vj).toNat)
      case atStart => exact ⟨i, dk, rfl, Nat.le_refl _, HD, Lib.hid HU.out.start⟩
      case round =>
        obtain ⟨j, dj, rfl, hji, HJ, HB⟩ := hrel
        obtain ⟨G, hG⟩ : ∃ G : Nat → Nat, ∀ t, G t = dj[t]! := ⟨fun t => dj[t]!, fun _ => rfl⟩
        have hcw : ∀ t, t < d.size → wr.cell? ⟨blk, off + t, none⟩ = some (.int .u64 (G t : Int)) := fun t ht => by rw [hG]; exact (HJ.out.cell HH.out t ht).1
        have hfw : ∀ t, t < d.size → wr.frozen? ⟨blk, off + t, none⟩ = false := fun t ht => (HJ.out.cell HH.out t ht).2
        have HG := Lib.hid hG
        clear hG
        go_wp2
        by_cases hja : 0 < j
        · have hja' : (0 : Int) < (j : Int) := by omega
          go_quiet (first | (go_at_call 107; refine Calls.quiet_of_same ((less_any _ _ _).mono (fun e w' h => ⟨h.1, h.2.symm⟩))))
          go_wp2
          · have hlt2 : G j < G (j - 1) := by omega
            go_region
            all_goals go_wp2
            go_roundw
            case rel =>
              obtain ⟨m, rfl⟩ : ∃ m, j = m + 1 := ⟨j - 1, by omega⟩
              rw [show m + 1 - 1 = m from rfl] at hlt2
              refine ⟨m, swp dj (m + 1) m, by congr 1; omega, by omega, Lib.hid ?_, Lib.hid (HB.out.step (by omega) (by rw [HJ.out.size]; exact hlt) (by rw [← HG.out, ← HG.out]; exact hlt2))⟩
              have hS := (HJ.out.drewN (nq + 1)).swap (m + 1) m (by omega) (by omega)
              rw [← HG.out, ← HG.out] at hS
              exact hS
            case measure => simp [intOf]; omega
          · have hlt2 : ¬ G j < G (j - 1) := by omega
            go_roundw
            case rel => exact ⟨i + 1, dj, by go_num, by omega, by omega, Lib.hid (HJ.out.drewN nq), Lib.hid (HB.out.stop (.inr (by rw [← HG.out, ← HG.out]; omega)))⟩
            case measure => simp [intOf]; omega
        · have hja' : ¬ (0 : Int) < (j : Int) := by omega
          go_quiet (first | (go_at_call 107; refine Calls.quiet_of_same ((less_any _ _ _).mono (fun e w' h => ⟨h.1, h.2.symm⟩))))
          go_wp2
          go_roundw
          case rel => exact ⟨i + 1, dj, by go_num, by omega, by omega, Lib.hid (HJ.out.drewN nq), Lib.hid (HB.out.stop (.inl (by omega)))⟩
          case measure => simp [intOf]; omega
    · have hl : ¬ (i : Int) < (d.size : Int) := by omega
      go_wp2
      go_end0
      exact ⟨rfl, dk, HD.out, HU.out.ends (by omega)⟩
end Go.Proofs.YtfghggfoncfhgaaGreatDoor
/- The library's Len64 by the shelf; bits.Len, the depth; the sort of no more than twelve. -/
namespace Go.Proofs.YtfghggfoncfhgaaGreatDoor
open Go.RowKit Go.Sort

/-- what the sort's own call answers is what that by insertion does, where there are no more than twelve -/
theorem pdq_of (ao : Option Addr) (n cap : Nat) (hn : n ≤ 12) (lim : Int) (w : World) (R : Ending → World → Prop) (hI : Calls Tryz.prog 101 #[.slice ao n cap, .int .i64 0, .int .i64 (n : Int)] w fun e w' => e = .returned (.tuple #[]) ∧ R e w') :
    Calls Tryz.prog 94 #[.slice ao n cap, .int .i64 0, .int .i64 (n : Int), .int .i64 lim] w R := by
  have HI := Lib.hid hI
  have h12 : (n : Int) ≤ 12 := by omega
  clear hI
  go_enter Tryz.func94, Tryz.ntmps94
  go_wp2
  refine wp_loop_rounds 1 ?_
  rw [rounds_succ]
  go_wp2_with (go_at_call 101; refine HI.out.mono ?_; rintro e w' ⟨rfl, hR⟩)
  go_end0
  exact hR
theorem sort_of (ao : Option Addr) (n cap : Nat) (hn : n ≤ 12) (w : World) (R : Ending → World → Prop) (hI : Calls Tryz.prog 101 #[.slice ao n cap, .int .i64 0, .int .i64 (n : Int)] w fun e w' => e = .returned (.tuple #[]) ∧ R e w') :
    Calls Tryz.prog 83 #[.slice ao n cap] w fun e w' => e = .returned (.tuple #[]) ∧ R e w' := by
  have HP := Lib.hid (pdq_of ao n cap hn (Lib.bitLen n : Int) w (fun e w' => e = .returned (.tuple #[]) ∧ R e w') (hI.mono fun e w' h => ⟨h.1, h⟩))
  have HL := Lib.hid (ylen_any n (by omega) w)
  have h12 : (n : Int) ≤ 12 := by omega
  clear hI
  go_enter Tryz.func83, Tryz.ntmps83
  go_wp2_with (first | (go_at_call 50; refine HL.out.mono ?_; rintro e w' ⟨rfl, rfl⟩) | (go_at_call 94; refine HP.out.mono ?_; rintro e w' ⟨rfl, hR⟩))
  go_end0
  exact ⟨rfl, hR⟩
end Go.Proofs.YtfghggfoncfhgaaGreatDoor
/- A row of the call's own, sorted; the depth. -/
namespace Go.Proofs.YtfghggfoncfhgaaGreatDoor
open Go.RowKit Go.Sort

theorem ins_nil (w : World) : Calls Tryz.prog 101 #[.slice none 0 0, .int .i64 0, .int .i64 ((0 : Nat) : Int)] w fun e w' => e = .returned (.tuple #[]) ∧ w = w' := by
  go_enter Tryz.func101, Tryz.ntmps101
  go_wp2
  refine wp_loop_rounds 1 ?_
  rw [rounds_succ]
  go_wp2
  go_end0
  exact ⟨rfl, rfl⟩
theorem holds_row {w : World} {g cap : Nat} {cur : Array Value} {e : TypeId} {X : List Nat} (hb : w.heap[g]? = some (.cells cur e (0, 0))) (ht : cur.toList.take X.length = X.map encU) (_hc : X.length ≤ cap) : Holds encU w g 0 X.toArray := by
  intro j hj
  have hj' : j < X.length := by simpa using hj
  refine ⟨?_, by simp [World.frozen?, hb]⟩
  have h1 : (cur.toList.take X.length)[j]? = (X.map encU)[j]? := by rw [ht]
  rw [List.getElem?_take_of_lt hj', Array.getElem?_toList] at h1
  simp only [World.cell?, hb, Nat.zero_add]
  simp only [Option.isSome_none, Bool.false_eq_true, if_false]
  rw [h1]
  simp [hj']
theorem sort_row (base : Nat) (v : Value) (n : Nat) (X : List Nat) (w : World) (ho : w.ownsRow base 23 1 v n (X.map encU)) (hn : n ≤ 12) (hX : X.Nodup) :
    Calls Tryz.prog 83 #[v] w fun e w' => e = .returned (.tuple #[]) ∧ w.grownBy w' v.ownBlock ∧ ∃ N : List Nat, N.Pairwise (· < ·) ∧ (∀ x, x ∈ N ↔ x ∈ X) ∧ w'.ownsRow base 23 1 v n (N.map encU) := by
  have hlen : X.length = n := by simpa using ho.1
  rcases ho.2 with ⟨rfl, hn0⟩ | ⟨g, cap0, cur, rfl, hbase, hb, h1, h2, h3, h4⟩
  · have hX0 : X = [] := List.length_eq_zero_iff.1 (by omega)
    subst hX0
    subst hn0
    refine (sort_of none 0 0 (by omega) w (fun _ w' => w = w') (ins_nil w)).mono ?_
    rintro e w' ⟨rfl, rfl⟩
    exact ⟨rfl, ⟨rfl, rfl, rfl, Nat.le_refl _, fun _ _ _ => rfl⟩, [], by simp, by simp, ho⟩
  · have hH : Holds encU w g 0 X.toArray := holds_row hb (by rw [hlen]; simpa using h4) (hlen ▸ h1)
    have hI := ins_any g 0 cap0 X.toArray w hH (by simp; omega)
    simp only [List.size_toArray, hlen] at hI
    refine (sort_of _ n cap0 hn w (fun _ w' => ∃ dk, Ord w g 0 X.toArray dk w' ∧ Up dk n) hI).mono ?_
    rintro e w' ⟨rfl, dk, hO, hU⟩
    have hsz : dk.size = n := by rw [hO.size]; simpa using hlen
    obtain ⟨m, hw⟩ := hO.w
    have hp : dk.toList.Perm X := by simpa using permIn_list hO.p
    have hsorted : dk.toList.Pairwise (· ≤ ·) := Up.pairwise (by rw [hsz]; exact hU)
    have hnd : dk.toList.Nodup := hp.nodup_iff.2 hX
    have hb' : w'.heap[g]? = some (.cells (putCells encU 0 dk cur) 23 (0, 0)) := by
      rw [hw]
      simp [putRow, mapBlock, Sort.ahead, Array.getElem?_modify, hb, onCells]
    refine ⟨rfl, ?_, dk.toList, ?_, fun x => hp.mem_iff, ?_⟩
    · rw [hw]
      refine ⟨rfl, rfl, rfl, by simp, fun k hk hne => ?_⟩
      have : g ≠ k := fun e => hne (by rw [e]; rfl)
      simp [putRow, mapBlock, Sort.ahead, Array.getElem?_modify, this]
    · refine (hsorted.and hnd).imp fun h => ?_
      have := h.1
      have := h.2
      omega
    · refine ⟨by simp [hsz], .inr ⟨g, cap0, _, rfl, hbase, hb', h1, h2, by simp [putCells, h3], ?_⟩⟩
      apply List.ext_getElem?
      intro j
      by_cases hj : j < n
      · rw [Nat.mul_one, List.getElem?_take_of_lt hj, Array.getElem?_toList]
        simp [putCells, hsz, hj, show j < cur.size by omega]
      · rw [Nat.mul_one, List.getElem?_take_eq_none (by omega), List.getElem?_eq_none (by simp; omega)]
end Go.Proofs.YtfghggfoncfhgaaGreatDoor
