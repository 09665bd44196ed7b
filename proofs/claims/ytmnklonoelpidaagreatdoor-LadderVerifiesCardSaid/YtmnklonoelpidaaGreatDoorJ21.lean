/- Rising lists; made rows of numbers. -/
import Derived.Test.YtmnklonoelpidaaGreatDoorJ1
import Derived.Test.YtmnklonoelpidaaGreatDoorJ10
import Derived.Laws.MakeOwn
import Derived.Deep.Cut
import Derived.Deep.RegionHeld3
import Derived.Test.YtmnklonoelpidaaGreatDoorJ20
import Derived.Test.YtmnklonoelpidaaGreatDoorJ8
import Derived.Laws.EntriesVeiled
namespace Go.Proofs.YtmnklonoelpidaaGreatDoor
open Go.RowKit Go.Sort

theorem adj_lt {P : List Nat} (h : ∀ t (ht : t + 1 < P.length), P[t] < P[t + 1]) : P.Pairwise (· < ·) := by
  rw [List.pairwise_iff_getElem]
  intro i j hi hj hij
  obtain ⟨k, rfl⟩ : ∃ k, j = i + k + 1 := ⟨j - i - 1, by omega⟩
  induction k with
  | zero => exact h i hj
  | succ k ih => exact Nat.lt_trans (ih (by omega) (by omega)) (h (i + k + 1) (by omega))
theorem lt_adj {P : List Nat} (h : P.Pairwise (· < ·)) (t : Nat) (ht : t + 1 < P.length) : P[t] < P[t + 1] := by
  rw [List.pairwise_iff_getElem] at h
  exact h t (t + 1) (by omega) ht (by omega)
/-- a made row of numbers, the first ones of which are laid -/
def ups (V : List Nat) (n : Nat) : List Value := V.map encU ++ List.replicate (n - V.length) (.int .u64 0)
theorem ups_len {V : List Nat} {n : Nat} (h : V.length ≤ n) : (ups V n).length = n := by simp [ups]; omega
theorem ups_put {V : List Nat} {n x : Nat} (h : V.length < n) : (ups V n).toArray.setIfInBounds V.length (encU x) = (ups (V ++ [x]) n).toArray := by
  obtain ⟨m, hm⟩ : ∃ m, n - V.length = m + 1 := ⟨n - V.length - 1, by omega⟩
  simp only [ups, hm, List.replicate_succ, List.setIfInBounds_toArray, List.map_append, List.map_cons, List.map_nil, List.length_append, List.length_cons, List.length_nil, List.append_assoc, List.cons_append, List.nil_append]
  rw [show n - (V.length + (0 + 1)) = m by omega]
  congr 1
  rw [List.set_append_right _ _ (by simp)]
  simp
theorem ups_all {V : List Nat} : ups V V.length = V.map encU := by simp [ups]
theorem nums_ups {w : World} {B : Nat} {V : List Nat} {fr : Nat × Nat} (h : w.heap[B]? = some (.cells (ups V V.length).toArray 22 fr)) : Nums (some ⟨B, 0, none⟩) V w := nums_lit h (by rw [ups_all])
theorem made_nums (n : Nat) : madeCells (Value.int .u64 0).cells n = (ups [] n).toArray := by
  apply Array.ext
  · simp [madeCells, ups]
  · intro i h1 h2
    simp [madeCells, Value.cells, Nat.mod_one, ups]
end Go.Proofs.YtmnklonoelpidaaGreatDoor
/- What is needed, as rows in memory; leaves of positions; how many digests a proof has. -/
namespace Go.Proofs.YtmnklonoelpidaaGreatDoor
open Go.RowKit Go.Sort

/-- a row whose block lies from lo on below hi -/
def RowAt (lo hi : Nat) (ai : Option Addr) (N : List Nat) (w : World) : Prop := N = [] ∨ ∃ g, ai = some ⟨g, 0, none⟩ ∧ lo ≤ g ∧ g < hi ∧ ∀ t (h : t < N.length), w.cell? ⟨g, t, none⟩ = some (.int .u64 (N[t] : Int))
theorem RowAt.kept {lo hi : Nat} {ai : Option Addr} {N : List Nat} {w w' : World} (h : RowAt lo hi ai N w) (hw : hi ≤ w.heap.size) (hk : Kept (fun j => lo ≤ j ∧ j < hi) w w') : RowAt lo hi ai N w' := by
  rcases h with h6 | ⟨g, g1, g2, g3, g4⟩
  · exact .inl h6
  · exact .inr ⟨g, g1, g2, g3, fun t ht => (World.cell?_of_block (a := ⟨g, t, none⟩) (hk.block g (by omega) ⟨g2, g3⟩)).trans (g4 t ht)⟩
/-- rows of rows, all of whose blocks lie from lo on below hi -/
def RowsIn (lo hi : Nat) (bo : Option Addr) (M : List (List Nat)) (w : World) : Prop :=
  M = [] ∨ ∃ b, bo = some ⟨b, 0, none⟩ ∧ lo ≤ b ∧ b < hi ∧ ∀ i (h : i < M.length), ∃ ai ci, w.cell? ⟨b, i, none⟩ = some (.slice ai (M[i]).length ci) ∧ RowAt lo hi ai M[i] w
theorem RowsIn.kept {lo hi : Nat} {bo : Option Addr} {M : List (List Nat)} {w w' : World} (h : RowsIn lo hi bo M w) (hw : hi ≤ w.heap.size) (hk : Kept (fun j => lo ≤ j ∧ j < hi) w w') : RowsIn lo hi bo M w' := by
  rcases h with h | ⟨b, h1, h2, h3, h4⟩
  · exact .inl h
  · refine .inr ⟨b, h1, h2, h3, fun i hi' => ?_⟩
    obtain ⟨ai, ci, h5, h6⟩ := h4 i hi'
    exact ⟨ai, ci, (World.cell?_of_block (a := ⟨b, i, none⟩) (hk.block b (by omega) ⟨h2, h3⟩)).trans h5, h6.kept hw hk⟩
theorem needs_in (ao : Option Addr) (cap : Nat) (L : List Nat) (n d : Nat) (w : World) (hN : Nums ao L w) (hn0 : L.length = n) (h0 : L ≠ []) (hn : L.length ≤ 1000) (hs : ∀ x ∈ L, x < 2 ^ d) (hd : d ≤ 16) :
    Calls Tryz.prog 146 #[.slice ao n cap, .int .i64 (d : Int)] w fun e w' => ∃ (bo : Option Addr) (cp : Nat), e = .returned (.slice bo d cp) ∧ RowsIn w.heap.size w'.heap.size bo (needM L d) w' ∧ Below w.heap.size w w' := by
  subst hn0
  have hp : 2 ^ d ≤ 2 ^ 16 := Nat.pow_le_pow_right (by decide) hd
  refine (needs49_any ao cap L d w hN (fun x hx => by have := hs x hx; omega) h0 hn (fun x hx => by have := hs x hx; simp [standsB, this]; omega) hd).mono ?_
  rintro e w' ⟨v, vs, Ms, rfl, hown, hMs, hrows, hb⟩
  have hvl : vs.length = d := by simpa using hown.1
  have hall : ∀ i N, Ms[i]? = some N → ∃ x, vs[i]? = some x ∧ w'.ownsRow w.heap.size 22 1 x N.length (N.map encU) ∧ Need49 (upTo L i) N := by
    intro i N hN'
    have hi := (List.getElem?_eq_some_iff.1 hN').1
    obtain ⟨x, hx⟩ : ∃ x, vs[i]? = some x := ⟨_, List.getElem?_eq_getElem (by omega)⟩
    exact ⟨x, hx, hrows i x N hx hN'⟩
  have hNd : Needs L d Ms := ⟨hMs, fun i N h => by obtain ⟨x, _, _, h3⟩ := hall i N h; exact h3.1⟩
  obtain rfl := hNd.eq (needs_M hs)
  have hlt := hown.lt
  have hown0 := hown
  rcases hown.2 with ⟨rfl, hd0⟩ | ⟨g, cp, cur, rfl, h1, h2, h3, h4, h5, h6⟩
  · exact ⟨none, 0, by rw [hd0], .inl (List.length_eq_zero_iff.1 (by omega)), hb⟩
  · refine ⟨_, cp, rfl, .inr ⟨g, rfl, h1, lit_lt h2, fun i hi => ?_⟩, hb⟩
    obtain ⟨x, hx, hrow, _⟩ := hall i (needM L d)[i] (List.getElem?_eq_getElem hi)
    obtain ⟨ai, ci, rfl, hn3, hn4⟩ := nums_of_row hrow
    refine ⟨ai, ci, (hown0.cellAt i (by omega)).trans hx, ?_⟩
    rcases hrow.2 with ⟨_, hz⟩ | ⟨g2, cp2, cur2, e2, k1, k2, k3, k4, k5, k6⟩
    · exact .inl (List.length_eq_zero_iff.1 hz)
    · cases e2
      refine .inr ⟨g2, rfl, k1, lit_lt k2, fun t ht => ?_⟩
      rw [hrow.cellAt t (by omega), List.getElem?_map, List.getElem?_eq_getElem ht]
      rfl
/-- what is known of positions -/
abbrev lvs (P : List Nat) (d : Nat) : List Nat := P.map fun x => turnB x (d : Int)
/-- how many digests a proof has -/
def sizeD (P : List Nat) (n : Nat) : Nat := pre (needM (lvs P (dep n)) (dep n)) (dep n)
theorem sizeD_le {P : List Nat} {n : Nat} (h : standsP P n = true) (hn : n ≤ 65536) : sizeD P n ≤ P.length * dep n := by
  have hpp := stands_parts h
  refine pre_bound (fun N hN => ?_) _ (by rw [needM_len]; exact Nat.le_refl _)
  obtain ⟨i, hi⟩ := List.getElem?_of_mem hN
  have h1 := need_le ((needs_M (L := lvs P (dep n)) (d := dep n) (fun x hx => by
    obtain ⟨y, hy, rfl⟩ := List.mem_map.1 hx
    exact turnB_lt (dep_le n hn) (Nat.lt_of_lt_of_le (hpp.2.2 y hy) (dep_spec n hn).1))).2 i N hi)
  simpa [upTo] using h1
end Go.Proofs.YtmnklonoelpidaaGreatDoor
/- Ranges over a function whose iterator makes some blocks of its own ahead of the first round, and reads them then: what the caller owes, at the wide fence. -/
namespace Go.Proofs.YtmnklonoelpidaaGreatDoor
open Go.RowKit

/-- what is asked of an iterator that makes the blocks up to 'mid' ahead of its first round, writes nothing, and hands over enc 0 .. enc (N - 1) -/
def HandsMid (P : Program) (gf : Nat) (lb : Array Value) (enc : Nat → Array Value) (N : Nat) (ok : World → Prop) : Prop :=
  ∀ (l : Nat) (J : Nat → Nat → World → Prop) (W : World), ok W →
    (∀ mid k W1 W', W.heap.size ≤ mid → mid ≤ W'.heap.size → k < N → J mid k W1 → Kept (fun _ => True) W1 W' →
      YieldAt Fence.wide 0 P l (enc k) W' fun e W'' => e = .returned (.bool true) ∧ J mid (k + 1) W'' ∧ Kept (fun j => W.heap.size ≤ j ∧ j < mid) W' W'') →
    (∀ mid, J mid 0 W) → Calls P gf (#[.func (.yield l) #[] #[]] ++ lb) W fun e W' => (∃ v, e = .returned v) ∧ ∃ mid W1, W.heap.size ≤ mid ∧ J mid N W1 ∧ Kept (fun _ => True) W1 W'

theorem wp_rangeFunc_mid {P : Program} {g : Operand} {ps : Array Tmp} {assign body : Code} {Q : Exit → Act → World → Prop} {a : Act} {w : World}
    {gf : Nat} {lb : Array Value} (hg : a.eval g = .func (.func gf) #[] lb) (eg : ∀ args w, (callFunc gf args).run P w = .ok (.enter gf args) w)
    {enc : Nat → Array Value} {N : Nat} {ok : World → Prop} (hseq : HandsMid P gf lb enc N ok) (hps : ∀ k, (enc k).size = ps.size)
    (lo : Nat) (hlo : w.heap.size = lo) (Own : List Nat) (hok : ∀ W', Kept (fun j => j < lo ∧ j ∉ Own) w W' → ok W')
    (R : Nat → Nat → World → Prop) (hR : ∀ m k W W', R m k W → Kept (fun j => j < lo ∨ lo + 2 ≤ j) W W' → R m k W') (h0 : ∀ m, R m 0 w) (a₁ : Nat → Act)
    (hassign : ∀ (l k : Nat) (W : World) (K : Act → World → Prop), K (a₁ k) W →
      assign.wpIn (Fence.wide.inRound l) 0 P (Exit.then K (fun _ _ _ => False)) { tmps := (ps.zip (enc k)).foldl (fun t (p, v) => t.setIfInBounds p v) a.tmps, defers := [] } W)
    (hbody : ∀ (l : Nat) (mid k : Nat) (W : World), lo + 2 ≤ mid → mid ≤ W.heap.size → k < N → R mid k W →
      body.wpIn (Fence.wide.inRound l) 0 P (roundKept (fun j => (j < lo ∧ j ∉ Own) ∨ (lo ≤ j ∧ j < mid)) (R mid (k + 1)) W) (a₁ k) W)
    (hdone : ∀ (m : Nat) (W : World), lo + 2 ≤ m → R m N W → Kept (fun j => j < lo ∧ j ∉ Own) w W → W.heap[lo]? = some (.deferred (some [])) → Q .normal { a with defers := { target := .collected lo, args := #[] } :: a.defers } W) :
    (Code.rangeFunc g ps assign body).wp P Q a w := by
  refine (wpIn_wide (n := 0)).1 (wpIn_rangeFunc ?_)
  intro fn hfn
  obtain ⟨rec, hrec⟩ : ∃ rec : LoopState → Option Code → Loop, rec = fun st pe => { state := st, pending := pe, fn, tmps := a.tmps, params := ps, assign, body, defers := lo } := ⟨_, rfl⟩
  obtain ⟨W1, hW1⟩ : ∃ W1, (w.alloc (.deferred (some []))).alloc (.loop (rec .ready none)) = W1 := ⟨_, rfl⟩
  have hz1 : W1.heap.size = lo + 2 := by rw [← hW1]; simp [hlo]
  have hL1 : W1.heap[lo + 1]? = some (.loop (rec .ready none)) := by
    rw [← hW1]; have := World.alloc_heap_new (w.alloc (.deferred (some []))) (.loop (rec .ready none)); rwa [World.size_alloc, hlo] at this
  have hK1 : W1.heap[lo]? = some (.deferred (some [])) := by
    rw [← hW1]
    have := World.alloc_heap_new w (.deferred (some []))
    rw [hlo] at this
    exact (Below.heap_alloc _ _ _ (by simp; omega)).trans this
  have hb1 : Below lo w W1 := by
    rw [← hW1]
    have := Below.refl lo w
    exact (this.alloc (by omega) _).alloc (by simp; omega) _
  have hk1 : Kept (fun j => j < lo ∧ j ∉ Own) w W1 := Kept.of_below hb1 fun j hj => hj.1
  refine ⟨w.heap.size + 1, [{ target := .collected w.heap.size, args := #[] }], W1, { target := .fn (.func gf) lb, args := #[.func (.yield (w.heap.size + 1)) #[] #[]] }, W1, gf,
    #[.func (.yield (w.heap.size + 1)) #[] #[]] ++ lb, W1, ?_, ?_, ?_, ?_, fun h => by simp [Fence.wide] at h, ?_⟩
  · rw [← hW1, hrec, ← hlo]; exact run_enterLoop_outer _ _ _ _ _
  · simp only [resolve, hg]
    simp [go_sem]
  · intro f' hf'; trivial
  · simp [invoke, go_sem, eg]
  · refine callsIn_wide.2 ?_
    rw [hlo]
    have key := hseq (lo + 1)
      (fun m k W => R m k W ∧ Kept (fun j => j < lo ∧ j ∉ Own) w W ∧ W.heap[lo + 1]? = some (.loop (rec .ready none)) ∧ W.heap[lo]? = some (.deferred (some [])) ∧ lo + 2 ≤ W.heap.size)
      W1 (hok W1 hk1) ?_ (fun m => ⟨hR m 0 _ _ (h0 m) ⟨hb1.os, hb1.tape, hb1.output, hb1.size, fun j hj _ => hb1.block j (by omega)⟩, hk1, hL1, hK1, by omega⟩)
    · refine key.mono ?_
      rintro e W2' ⟨⟨v, rfl⟩, m, W2, hm, ⟨hr, hb, hl, hk, hz⟩, hkeep⟩
      rw [hz1] at hm
      have hl' : W2'.heap[lo + 1]? = some (.loop (rec .ready none)) := (hkeep.block _ (by omega) trivial).trans hl
      have hk' : W2'.heap[lo]? = some (.deferred (some [])) := (hkeep.block _ (by omega) trivial).trans hk
      refine ⟨none, _, by have := run_endLoop (P := P) hl' (by rw [hrec]; simp); rw [hrec] at this; exact this, ?_⟩
      have keep : ∀ j, j ≠ lo + 1 → (W2'.putObj (lo + 1) (.loop { rec .ready none with state := .exhausted })).heap[j]? = W2'.heap[j]? := fun j hj => World.putObj_heap_other (by omega)
      have kk : Kept (fun j => j < lo ∨ lo + 2 ≤ j) W2 (W2'.putObj (lo + 1) (.loop { rec .ready none with state := .exhausted })) :=
        (hkeep.less (fun j _ _ => trivial)).trans (Kept.putObj _ _ _ _ (by omega))
      have hq := hdone m _ hm (hR m N _ _ hr kk) (hb.trans (kk.less fun j _ hj => .inl hj.1)) ((keep _ (by omega)).trans hk')
      rw [hrec] at hq
      exact hq
    · rintro m k W W' hm1 hm2 hkN ⟨hr, hb, hl, hk, hz⟩ hkeep
      rw [hz1] at hm1
      have hsz' := hkeep.size
      have hl' : W'.heap[lo + 1]? = some (.loop (rec .ready none)) := (hkeep.block _ (by omega) trivial).trans hl
      have hk' : W'.heap[lo]? = some (.deferred (some [])) := (hkeep.block _ (by omega) trivial).trans hk
      have hr' : R m k W' := hR m k _ _ hr (hkeep.less fun j _ _ => trivial)
      have hb' : Kept (fun j => j < lo ∧ j ∉ Own) w W' := hb.trans (hkeep.less fun j _ _ => trivial)
      have hy := run_yield (P := P) (args := enc k) hl' (by rw [hrec]; exact hps _)
      rw [hrec] at hy
      have hlt' : lo + 1 < W'.heap.size := by omega
      refine ⟨fn, _, assign, body, hy, roundIn_of_wpIn hfn (hassign _ k W' _ ⟨_, run_beginRound hl' (by rw [hrec]), ?_⟩)⟩
      obtain ⟨Wb, hWb⟩ : ∃ Wb, W'.putObj (lo + 1) (.loop { rec .ready none with state := .busy }) = Wb := ⟨_, rfl⟩
      have hl2 : Wb.heap[lo + 1]? = some (.loop { rec .ready none with state := .busy }) := by rw [← hWb]; exact World.putObj_heap_same hlt'
      have keepb : ∀ j, j ≠ lo + 1 → Wb.heap[j]? = W'.heap[j]? := fun j hj => by rw [← hWb]; exact World.putObj_heap_other (by omega)
      have hzb : Wb.heap.size = W'.heap.size := by rw [← hWb]; simp [World.putObj]
      have kb : Kept (fun j => j ≠ lo + 1) W' Wb := by rw [← hWb]; exact Kept.putObj _ _ _ _ (by simp)
      have hbb := hbody (lo + 1) m k Wb hm1 (by omega) hkN (hR m k _ _ hr' (kb.less fun j _ hj => by omega))
      rw [← hWb] at hbb hl2 keepb hzb kb
      refine wpIn_mono hbb ?_
      rw [hWb] at hl2 keepb hzb kb ⊢
      rintro e a3 W3 hp3
      cases e with
      | normal =>
        obtain ⟨hb3, hr3⟩ := hp3
        have hl3 : W3.heap[lo + 1]? = some (.loop { rec .ready none with state := .busy }) := (hb3.block _ (by omega) (.inr ⟨by omega, by omega⟩)).trans hl2
        have hk3 : W3.heap[lo]? = some (.deferred (some [])) := (hb3.block _ (by omega) (.inr ⟨by omega, by omega⟩)).trans ((keepb _ (by omega)).trans hk')
        have hend : (Instr.endRound (lo + 1) none).run P W3 = .ok (.bool true) (W3.putObj (lo + 1) (.loop (rec .ready none))) := by
          have := run_endRound (P := P) none hl3
          rw [hrec] at this ⊢
          exact this
        have hz3 := hb3.size
        have ke : Kept (fun j => j ≠ lo + 1) W3 (W3.putObj (lo + 1) (.loop (rec .ready none))) := Kept.putObj _ _ _ _ (by simp)
        have hfin : Kept (fun j => j < lo ∧ j ∉ Own) w (W3.putObj (lo + 1) (.loop (rec .ready none))) := ((hb'.trans (kb.less fun j _ hj => by omega)).trans (hb3.less fun j _ hj => .inl hj)).trans (ke.less fun j _ hj => by omega)
        have hall : Kept (fun j => lo + 2 ≤ j ∧ j < m) W' (W3.putObj (lo + 1) (.loop (rec .ready none))) := ((kb.less fun j _ hj => by omega).trans (hb3.less fun j _ hj => .inr ⟨by omega, hj.2⟩)).trans (ke.less fun j _ hj => by omega)
        exact ⟨_, _, hend, rfl, ⟨hR _ _ _ _ hr3 (ke.less fun j _ hj => by omega), hfin, World.putObj_heap_same (by omega), (World.putObj_heap_other (by omega)).trans hk3, by simp [World.putObj]; omega⟩, by rw [hz1]; exact hall⟩
      | ret => exact hp3.elim
      | exit id => exact hp3.elim
      | goto t => exact hp3.elim
      | panic ch => exact hp3.elim
      | outgrown => exact hp3.elim
end Go.Proofs.YtmnklonoelpidaaGreatDoor
/- Layer 10: do positions stand, and their leaves. -/
namespace Go.Proofs.YtmnklonoelpidaaGreatDoor
open Go.RowKit Go.Sort

theorem rises_any (ao : Option Addr) (cap : Nat) (P : List Nat) (w : World) (hN : Nums ao P w) (hn : P.length ≤ 100000) :
    Calls Tryz.prog 143 #[.slice ao P.length cap] w fun e w' => e = .returned (.bool (decide (P.Pairwise (· < ·)))) ∧ Below w.heap.size w w' := by
  have HN := Lib.hid hN
  have n1 : (P.length : Int) ≤ 100000 := by omega
  clear hN
  go_enter Tryz.func143, Tryz.ntmps143
  go_wp2
  go_loopw [3] (fun vi wr => ∃ i : Nat, vi = .int .i64 (i : Int) ∧ 1 ≤ i ∧ i ≤ 100001 ∧ Hid (Below w.heap.size w wr) ∧ Hid (∀ t (h : t + 1 < P.length), t + 1 < i → P[t] < P[t + 1])) (fun vi _ => 100002 - (intOf vi).toNat)
  case atStart => exact ⟨1, rfl, Nat.le_refl _, by omega, Lib.hid (Below.refl _ _), Lib.hid (fun t _ h => by omega)⟩
  case round =>
    obtain ⟨i, rfl, h1, h2, HB, HR⟩ := hrel
    by_cases hie : i < P.length
    · obtain ⟨j, hj⟩ : ∃ j, j + 1 = i := ⟨i - 1, by omega⟩
      have hsub : (i : Int) - 1 = (j : Int) := by omega
      have hl : (i : Int) < (P.length : Int) := by omega
      have hl2 : (j : Int) < (P.length : Int) := by omega
      have i0 : (0 : Int) ≤ (i : Int) := by omega
      have j0 : (0 : Int) ≤ (j : Int) := by omega
      have hjl : j < P.length := by omega
      obtain ⟨b, off, rfl, hc⟩ := nums_at (nums_next HN.out HB.out) i hie
      obtain ⟨b', off', e, hc'⟩ := nums_at (nums_next HN.out HB.out) j hjl
      cases e
      have HP := Lib.hid (show ∀ x y, x = P[j] → y = P[i] → (x < y → ∀ t (h : t + 1 < P.length), t + 1 < i + 1 → P[t] < P[t + 1]) ∧ (¬ x < y → ¬ P.Pairwise (· < ·)) from fun x y hx hy => ⟨fun h t ht hti => by
        by_cases c : t = j
        · subst c; subst hj; rw [← hx, ← hy]; exact h
        · exact HR.out t ht (by omega), fun h hp => h (by have := lt_adj hp j (by omega); subst hj; rw [hx, hy]; exact this)⟩)
      obtain ⟨x, hx⟩ : ∃ x, x = P[j] := ⟨_, rfl⟩
      obtain ⟨y, hy⟩ : ∃ y, y = P[i] := ⟨_, rfl⟩
      rw [← hx] at hc'
      rw [← hy] at hc
      have HQ := Lib.hid (HP.out x y hx hy)
      clear hx hy HP hj
      by_cases hxy : x < y
      · have hge : ¬ (x : Int) ≥ (y : Int) := by omega
        have HR2 := Lib.hid (HQ.out.1 hxy)
        clear hxy HQ
        go_wp2
        go_quiet (fail)
        go_wp2
        go_roundw
        case rel => exact ⟨i + 1, by go_num, by omega, by omega, Lib.hid (HB.out.trans ⟨rfl, rfl, rfl, Nat.le_refl _, fun _ _ => rfl⟩), HR2⟩
        case measure => simp [intOf] <;> omega
      · have hge : (x : Int) ≥ (y : Int) := by omega
        have HR2 := Lib.hid (HQ.out.2 hxy)
        clear hxy HQ
        go_wp2
        go_quiet (fail)
        go_wp2
        go_ret
        exact ⟨by rw [decide_eq_false HR2.out]; trivial, HB.out.trans ⟨rfl, rfl, rfl, Nat.le_refl _, fun _ _ => rfl⟩⟩
    · have hl : ¬ (i : Int) < (P.length : Int) := by omega
      have HD := Lib.hid (show P.Pairwise (· < ·) from adj_lt fun t ht => HR.out t ht (by omega))
      go_wp2
      go_ret
      exact ⟨by rw [decide_eq_true HD.out]; trivial, HB.out⟩
theorem last_nil (ao : Option Addr) (cap : Nat) (w : World) : Calls Tryz.prog 142 #[.slice ao 0 cap] w fun e w' => e = .returned (.tuple #[.int .u64 0, .bool false]) ∧ w = w' := by
  go_enter Tryz.func142, Tryz.ntmps142
  go_wp2
  exact bodyPost_ret (v := .tuple #[.int .u64 0, .bool false]) (by simp [results, Tryz.results142, go_sem]) rfl ⟨rfl, rfl⟩
theorem last_any (ao : Option Addr) (cap : Nat) (P : List Nat) (w : World) (hN : Nums ao P w) (h0 : P ≠ []) (hn : P.length ≤ 100000) :
    Calls Tryz.prog 142 #[.slice ao P.length cap] w fun e w' => e = .returned (.tuple #[.int .u64 (P.getLast h0 : Int), .bool true]) ∧ w = w' := by
  have hp := List.length_pos_iff.2 h0
  obtain ⟨j, hj⟩ : ∃ j, j + 1 = P.length := ⟨P.length - 1, by omega⟩
  have hsub : (P.length : Int) - 1 = (j : Int) := by omega
  have hl2 : (j : Int) < (P.length : Int) := by omega
  have j0 : (0 : Int) ≤ (j : Int) := by omega
  have n1 : (P.length : Int) ≤ 100000 := by omega
  have hz : ((P.length : Int) == 0) = false := by rw [beq_eq_false_iff_ne]; omega
  obtain ⟨b, off, rfl, hc⟩ := nums_at hN j (by omega)
  have e : P[j]'(by omega) = P.getLast h0 := by rw [List.getLast_eq_getElem]; simp [← hj]
  rw [e] at hc
  generalize P.getLast h0 = x at *
  clear hN h0 hp hj e
  go_enter Tryz.func142, Tryz.ntmps142
  go_wp2
  exact bodyPost_ret (v := .tuple #[.int .u64 (x : Int), .bool true]) (by simp [results, Tryz.results142, go_sem]) rfl ⟨rfl, rfl⟩
theorem stand_any (ao : Option Addr) (cap : Nat) (P : List Nat) (n : Nat) (w : World) (hN : Nums ao P w) (hn : P.length ≤ 100000) (hnn : n ≤ 1000000) :
    Calls Tryz.prog 117 #[.slice ao P.length cap, .int .i64 (n : Int)] w fun e w' => e = .returned (.bool (standsP P n)) ∧ Below w.heap.size w w' := by
  have hwn : IntKind.u64.wrap (n : Int) = (n : Int) := by rw [IntKind.wrap_u64]; omega
  by_cases h0 : P = []
  · subst h0
    have HL := Lib.hid (last_nil ao cap w)
    have hs : standsP [] n = false := by simp [standsP]
    rw [hs]
    clear hs
    simp only [List.length_nil]
    go_enter Tryz.func117, Tryz.ntmps117
    go_wp2_with (go_at_call 142; refine HL.out.mono ?_; rintro e w' ⟨rfl, rfl⟩)
    go_ret
    exact ⟨rfl, Below.refl _ _⟩
  · have HL := Lib.hid (last_any ao cap P w hN h0 hn)
    have HR := Lib.hid (rises_any ao cap P w hN hn)
    have HS := Lib.hid (show standsP P n = (decide (P.getLast h0 < n) && decide (P.Pairwise (· < ·))) by
      rw [standsP, ← Bool.decide_and]
      refine decide_eq_decide.2 ⟨fun h => ⟨(rising_last h.2.1 h0).1 h.2.2, h.2.1⟩, fun h => ⟨h0, h.2, (rising_last h.2 h0).2 h.1⟩⟩)
    generalize P.getLast h0 = x at *
    by_cases hx : x < n
    · have hx2 : (x : Int) < (n : Int) := by omega
      rw [decide_eq_true hx] at HS
      clear hN hx
      go_enter Tryz.func117, Tryz.ntmps117
      go_wp2_with (first | (go_at_call 142; refine HL.out.mono ?_; rintro e w' ⟨rfl, rfl⟩) | (go_at_call 143; refine HR.out.mono ?_; rintro e w' ⟨rfl, hb⟩; have HB := Lib.hid hb; clear hb))
      go_ret
      exact ⟨by rw [HS.out]; simp, HB.out⟩
    · have hx2 : ¬ (x : Int) < (n : Int) := by omega
      rw [decide_eq_false hx] at HS
      clear hN hx
      go_enter Tryz.func117, Tryz.ntmps117
      go_wp2_with (first | (go_at_call 142; refine HL.out.mono ?_; rintro e w' ⟨rfl, rfl⟩) | (go_at_call 143; refine HR.out.mono ?_; rintro e w' ⟨rfl, hb⟩; have HB := Lib.hid hb; clear hb))
      go_ret
      exact ⟨by rw [HS.out]; simp, Below.refl _ _⟩
set_option maxRecDepth 100000 in
set_option maxHeartbeats 1000000 in
theorem mleaves_any (ao : Option Addr) (cap : Nat) (P : List Nat) (d : Int) (w : World) (hN : Nums ao P w) (hn : P.length ≤ 100000) (hP : ∀ x ∈ P, x < 18446744073709551616) :
    Calls Tryz.prog 147 #[.slice ao P.length cap, .int .i64 d] w fun e w' => e = .returned (.slice (some ⟨w.heap.size, 0, none⟩) P.length P.length) ∧ w'.heap[w.heap.size]? = some (.cells (ups (P.map fun x => turnB x d) P.length).toArray 22 (0, 0)) ∧ Below w.heap.size w w' := by
  obtain ⟨i0, hi, hz0, hz1, hz2⟩ := info_parts infoU
  obtain ⟨n, hne⟩ : ∃ n, n = P.length := ⟨_, rfl⟩
  have hm : (Instr.makeSlice 44 (.int .i64 (n : Int)) (.int .i64 (n : Int))).run Tryz.prog w = .ok (.slice (some ⟨w.heap.size, 0, none⟩) n n) (w.alloc (.cells (ups [] n).toArray 22)) := by
    have h := run_make (P := Tryz.prog) w 44 22 i0 (.int .u64 0) Tryz.underlying44 hi hz0 .i64 .i64 (n : Int) (n : Int) (by omega) (by omega) (by rw [hz2]; omega) (by omega)
    rw [h, hz1, Int.toNat_natCast, Nat.mul_one, made_nums]
  obtain ⟨B, hB⟩ : ∃ B, B = w.heap.size := ⟨_, rfl⟩
  have HB0 := Lib.hid (show Below B w (w.alloc (.cells (ups [] n).toArray 22)) from by rw [hB]; exact by0 w _)
  have HN0 := Lib.hid (show (w.alloc (.cells (ups [] n).toArray 22)).heap[B]? = some (.cells (ups [] n).toArray 22 (0, 0)) from by rw [hB]; exact heap_alloc_new w _)
  rw [← hB] at hm
  have HM := Lib.hid hm
  have HN := Lib.hid hN
  have HP := Lib.hid hP
  have HB := Lib.hid hB
  have HE := Lib.hid hne
  have n1 : (n : Int) ≤ 100000 := by omega
  rw [show w.heap.size = B from hB.symm]
  simp only [show P.length = n from hne.symm]
  clear hm hN hP hB hn hi hz0 hz1 hz2 hne
  go_enter Tryz.func147, Tryz.ntmps147
  go_upto_region 1 with fail
  have hmm := HM.out
  go_upto_region 2 with fail
  clear hmm HM
  generalize w.alloc (.cells (ups [] n).toArray 22) = w1 at *
  go_wp2
  go_loopw [6, 7, 13] (fun _ _ vi wr => ∃ k : Nat, k ≤ n ∧ vi = .int .i64 (k : Int) ∧ Hid (wr.heap[B]? = some (.cells (ups ((P.take k).map fun x => turnB x d) n).toArray 22 (0, 0)) ∧ Below B w wr)) (fun _ _ vi _ => n - (intOf vi).toNat)
  case atStart => exact ⟨0, Nat.zero_le _, rfl, Lib.hid ⟨HN0.out, HB0.out⟩⟩
  case round =>
    obtain ⟨k, hk, rfl, HK⟩ := hrel
    by_cases hlt : k < n
    · have k0 : (0 : Int) ≤ (k : Int) := by omega
      have k1 : (k : Int) < (n : Int) := by omega
      have hkP : k < P.length := by rw [← HE.out]; exact hlt
      obtain ⟨b, off, rfl, hc⟩ := nums_at (nums_next HN.out (by rw [← HB.out]; exact HK.out.2)) k hkP
      obtain ⟨x, hx⟩ : ∃ x, x = P[k] := ⟨_, rfl⟩
      rw [← hx] at hc
      have HLY := Lib.hid (fun w => leaf_any x (by rw [hx]; exact HP.out _ (List.getElem_mem hkP)) d w)
      have hlk : ((P.take k).map fun x => turnB x d).length = k := by rw [List.length_map, List.length_take]; omega
      have HPT := Lib.hid (show ((P.take k).map fun x => turnB x d) ++ [turnB x d] = (P.take (k + 1)).map fun x => turnB x d by
        rw [← List.take_append_getElem hkP, List.map_append, hx]; rfl)
      have HUP := Lib.hid (ups_put (V := (P.take k).map fun x => turnB x d) (n := n) (x := turnB x d) (by rw [hlk]; exact hlt))
      rw [HPT.out, hlk] at HUP
      generalize turnB x d = y at *
      obtain ⟨old, hcj⟩ : ∃ old, wr.cell? ⟨B, k, none⟩ = some old := ⟨_, (lit_cell HK.out.1 k).trans (Array.getElem?_eq_getElem (by rw [List.size_toArray, ups_len (by rw [hlk]; omega)]; exact hlt))⟩
      have hfj := lit_free HK.out.1 k
      have HSET := Lib.hid (lit_set (k := k) (encU y) HK.out.1)
      rw [HUP.out] at HSET
      have HSB := Lib.hid (show Below B w (wr.setCell ⟨B, k, none⟩ (encU y)) from HK.out.2.setCell (show B ≤ B from Nat.le_refl _) _)
      clear hx hlk HPT HUP hkP
      go_wp2_with (go_at_call 99; refine (HLY.out _).mono ?_; rintro e w' ⟨rfl, rfl⟩)
      go_roundw
      case rel => exact ⟨k + 1, hlt, by go_num, Lib.hid ⟨HSET.out, HSB.out⟩⟩
      case measure => simp [intOf] <;> omega
    · have hkn : k = n := by omega
      have k1 : ¬ (k : Int) < (n : Int) := by omega
      have HF := Lib.hid (show wr.heap[B]? = some (.cells (ups (P.map fun x => turnB x d) n).toArray 22 (0, 0)) by
        have := HK.out.1
        rw [hkn] at this
        rwa [show P.take n = P from by rw [HE.out, List.take_length]] at this)
      clear hkn
      go_wp2
      go_ret
      exact ⟨rfl, HF.out, HK.out.2⟩
end Go.Proofs.YtmnklonoelpidaaGreatDoor
/- The places that are needed, as an iterator hands them over. -/
namespace Go.Proofs.YtmnklonoelpidaaGreatDoor
open Go.RowKit Go.Sort

/-- the k-th place that is needed: its level, its number there -/
def encA (P : List Nat) (d k : Nat) : Nat := ((flat (needM (lvs P d) d))[k]?.getD (0, 0)).1
def encB (P : List Nat) (d k : Nat) : Nat := ((flat (needM (lvs P d) d))[k]?.getD (0, 0)).2
theorem enc_at {P : List Nat} {d i j x : Nat} {N : List Nat} (hi : (needM (lvs P d) d)[i]? = some N) (hj : N[j]? = some x) : encA P d (pre (needM (lvs P d) d) i + j) = i ∧ encB P d (pre (needM (lvs P d) d) i + j) = x := by
  obtain ⟨h1, h2⟩ := List.getElem?_eq_some_iff.1 hi
  obtain ⟨h3, h4⟩ := List.getElem?_eq_some_iff.1 hj
  subst h2
  rw [encA, encB, flat_get _ 0 i j h1 h3, h4]
  simp
theorem mneeded_any (ao : Option Addr) (n cap : Nat) (d : Int) (w : World) : Calls Tryz.prog 120 #[.slice ao n cap, .int .i64 d] w fun e w' => e = .returned (.func (.func 145) #[] #[.pointer (some ⟨w.heap.size, 0, none⟩), .pointer (some ⟨w.heap.size + 1, 0, none⟩)]) ∧ w' = (w.alloc (.cells #[.slice ao n cap] 44)).alloc (.cells #[.int .i64 d] 3) := by
  go_enter Tryz.func120, Tryz.ntmps120
  go_wp2
  go_ret
  exact ⟨rfl, rfl⟩
abbrev NeS (b1 b2 : Nat) (v1 v2 : Value) (W wz : World) : Prop := wz.cell? ⟨b1, 0, none⟩ = some v1 ∧ wz.cell? ⟨b2, 0, none⟩ = some v2 ∧ Below W.heap.size W wz
theorem ne_next {b1 b2 : Nat} {v1 v2 : Value} {W wz wa : World} (h : NeS b1 b2 v1 v2 W wz) (hb : Below wz.heap.size wz wa) : NeS b1 b2 v1 v2 W wa :=
  ⟨(World.cell?_of_block (a := ⟨b1, 0, none⟩) (hb.block b1 (World.block_lt_of_cell? wz _ h.1))).trans h.1, (World.cell?_of_block (a := ⟨b2, 0, none⟩) (hb.block b2 (World.block_lt_of_cell? wz _ h.2.1))).trans h.2.1, h.2.2.trans (hb.mono h.2.2.size)⟩
theorem ne_drew {b1 b2 : Nat} {v1 v2 : Value} {W wz : World} (h : NeS b1 b2 v1 v2 W wz) : NeS b1 b2 v1 v2 W wz.drew := ne_next h (Below.refl _ _).drew
set_option maxRecDepth 100000 in
set_option maxHeartbeats 2000000 in
theorem needed_hands (b1 b2 : Nat) (ao : Option Addr) (cap : Nat) (P : List Nat) (d : Nat) (h0 : P ≠ []) (hn : P.length ≤ 1000) (hP : ∀ x ∈ P, x < 2 ^ d) (hd : d ≤ 16) :
    HandsMid Tryz.prog 145 #[.pointer (some ⟨b1, 0, none⟩), .pointer (some ⟨b2, 0, none⟩)] (fun k => #[.int .i64 (encA P d k : Int), .int .u64 (encB P d k : Int)]) (pre (needM (lvs P d) d) d)
      (fun W => W.cell? ⟨b1, 0, none⟩ = some (.slice ao P.length cap) ∧ W.cell? ⟨b2, 0, none⟩ = some (.int .i64 (d : Int)) ∧ Nums ao P W) := by
  rintro l J W ⟨hc1, hc2, hN⟩ hY h0J
  have hp16 : 2 ^ d ≤ 2 ^ 16 := Nat.pow_le_pow_right (by decide) hd
  have hLn : (lvs P d).length = P.length := by simp
  have hL0 : lvs P d ≠ [] := fun e => h0 (List.map_eq_nil_iff.1 e)
  have hLt : ∀ x ∈ lvs P d, x < 2 ^ d := by
    intro x hx
    obtain ⟨y, hy, rfl⟩ := List.mem_map.1 hx
    exact turnB_lt hd (hP y hy)
  have HL := Lib.hid (fun wz (h : NeS b1 b2 (.slice ao P.length cap) (.int .i64 (d : Int)) W wz) => mleaves_any ao cap P (d : Int) wz (nums_next hN h.2.2) (by omega) (fun x hx => by have := hP x hx; omega))
  have HD := Lib.hid (fun B wz (h : wz.heap[B]? = some (.cells (ups (lvs P d) P.length).toArray 22 (0, 0))) => needs_in (some ⟨B, 0, none⟩) P.length (lvs P d) P.length d wz (nums_ups (by rw [hLn]; exact h)) hLn hL0 (by omega) hLt hd)
  have HML := Lib.hid (needM_len (lvs P d) d)
  have H49 := Lib.hid (show ∀ i (h : i < (needM (lvs P d) d).length), ((needM (lvs P d) d)[i]).length ≤ 1000 from fun i h => by
    have h1 := need_le ((needs_M hLt).2 i _ (List.getElem?_eq_getElem h))
    simp only [upTo, List.length_map] at h1
    omega)
  have HEN := Lib.hid (fun i j x N hi hj => enc_at (P := P) (d := d) (i := i) (j := j) (x := x) (N := N) hi hj)
  have HPS := Lib.hid (fun i (h : i < (needM (lvs P d) d).length) => pre_succ h)
  have HPL := Lib.hid (fun i j (h : i < (needM (lvs P d) d).length) hj => pre_lt (j := j) h hj)
  have HY := Lib.hid hY
  have HJ0 := Lib.hid h0J
  have n0 : (d : Int) ≤ 16 := by omega
  have n1 : (P.length : Int) ≤ 1000 := by omega
  clear hN hY h0J hP h0 hLn hL0 hLt hp16
  generalize needM (lvs P d) d = M at *
  refine (callsIn_wide (n := 1)).1 ?_
  refine callsIn_of_wp Tryz.func145 rfl trivial ?_ rfl
  simp only [Tryz.ntmps145, List.size_toArray, List.length_cons, List.length_nil, Nat.reduceAdd, Nat.reduceSub, Array.replicate_succ, Array.replicate_zero, List.push_toArray, List.append_toArray, List.nil_append, List.cons_append]
  gi_wp2
  refine wpIn_wide.2 ?_
  have hs0 : NeS b1 b2 (.slice ao P.length cap) (.int .i64 (d : Int)) W W := ⟨hc1, hc2, Below.refl _ _⟩
  have hs1 := ne_drew hs0
  go_region_held3 (fun wz => NeS b1 b2 (.slice ao P.length cap) (.int .i64 (d : Int)) W wz)
      (first | (with_reducible assumption) | (with_reducible exact ne_drew (by assumption)))
      (first
        | (go_at_call 147; refine (HL.out _ (by with_reducible assumption)).mono ?_; rintro e w2 ⟨rfl, hrow, hb2⟩; have hs2 := ne_next (by with_reducible assumption) hb2)
        | (go_at_call 146; refine (HD.out _ _ hrow).mono ?_; rintro e w3 ⟨bo, cp, rfl, hin, hb3⟩; have hs3 := ne_next (by with_reducible assumption) hb3))
  obtain ⟨lo, hlo⟩ : ∃ lo, lo = w2.heap.size := ⟨_, rfl⟩
  obtain ⟨mid, hmid⟩ : ∃ mid, mid = w3.heap.size := ⟨_, rfl⟩
  have HIN0 : Hid (RowsIn lo mid bo M w3) := Lib.hid (by rw [hlo, hmid]; exact hin)
  have HW3 : Hid (W.heap.size ≤ lo ∧ W.heap.size ≤ mid ∧ mid ≤ w3.heap.size ∧ Kept (fun _ => True) W w3) := Lib.hid ⟨by rw [hlo]; exact hs2.2.2.size, by rw [hmid]; exact hs3.2.2.size, by rw [hmid]; exact Nat.le_refl _, hs3.2.2.os, hs3.2.2.tape, hs3.2.2.output, hs3.2.2.size, fun j hj _ => hs3.2.2.block j hj⟩
  have HJ1 := Lib.hid (show J mid (pre M 0) W by rw [pre_zero]; exact HJ0.out mid)
  clear hs0 hs1 hrow hb2 hs2 hin hb3 hs3 hlo hmid HJ0 HL HD hc1 hc2
  gi_wp2
  gi_loopw [4, 5, 7, 14] (fun v4 v5 v7 v14 wr => ∃ i : Nat, i ≤ d ∧ v14 = .int .i64 (i : Int) ∧ Hid (∃ W1, J mid (pre M i) W1 ∧ Kept (fun _ => True) W1 wr) ∧ Hid (RowsIn lo mid bo M wr) ∧ Hid (mid ≤ wr.heap.size)) (fun _ _ _ v14 _ => d - (intOf v14).toNat)
  case atStart => exact ⟨0, Nat.zero_le _, rfl, Lib.hid ⟨W, HJ1.out, HW3.out.2.2.2⟩, HIN0, Lib.hid HW3.out.2.2.1⟩
  case round =>
    obtain ⟨i, hi, rfl, HJ, HIN, HZ⟩ := hrel
    by_cases hid : i < d
    · have hl : (i : Int) < (d : Int) := by omega
      have i0 : (0 : Int) ≤ (i : Int) := by omega
      have hiM : i < M.length := by rw [HML.out]; exact hid
      have hq := HIN.out
      rcases hq with hM0 | ⟨b, rfl, g1, g2, g3⟩
      · rw [hM0] at hiM; simp at hiM
      obtain ⟨ai, ci, hcell, hrow⟩ := g3 i hiM
      have H49i := H49.out i hiM
      have HPi := Lib.hid (HPS.out i hiM)
      have HPLi := Lib.hid (fun j hj => HPL.out i j hiM hj)
      have HENi := Lib.hid (fun j x hj => HEN.out i j x _ (List.getElem?_eq_getElem hiM) hj)
      obtain ⟨N, hNe⟩ : ∃ N, N = M[i] := ⟨_, rfl⟩
      rw [← hNe] at hcell hrow H49i HPi HPLi HENi
      have HROW := Lib.hid hrow
      have n49 : (N.length : Int) ≤ 1000 := by omega
      clear hNe hrow g3 hiM
      gi_wp2
      gi_loopw [7, 21] (fun v7 v21 wr2 => ∃ j : Nat, j ≤ N.length ∧ v21 = .int .i64 (j : Int) ∧ Hid (∃ W1, J mid (pre M i + j) W1 ∧ Kept (fun _ => True) W1 wr2) ∧ Hid (RowsIn lo mid (some ⟨b, 0, none⟩) M wr2) ∧ Hid (RowAt lo mid ai N wr2) ∧ Hid (mid ≤ wr2.heap.size)) (fun _ v21 _ => N.length - (intOf v21).toNat)
      case atStart => exact ⟨0, Nat.zero_le _, rfl, HJ, HIN, HROW, HZ⟩
      case round =>
        obtain ⟨j, hj, rfl, HJ2, HIN2, HROW2, HZ2⟩ := hrel
        by_cases hjl : j < N.length
        · have hl2 : (j : Int) < (N.length : Int) := by omega
          have j0 : (0 : Int) ≤ (j : Int) := by omega
          have hq := HROW2.out
          rcases hq with h0 | ⟨g, rfl, g1, g2, g3⟩
          · rw [h0] at hjl; simp at hjl
          have hx := g3 j hjl
          have hen := HENi.out j _ (List.getElem?_eq_getElem hjl)
          obtain ⟨x, hxe⟩ : ∃ x, x = N[j] := ⟨_, rfl⟩
          rw [← hxe] at hx hen
          obtain ⟨W1, hj1, hk1⟩ := HJ2.out
          have HY2 := HY.out mid (pre M i + j) W1 wr HW3.out.2.1 HZ2.out (by rw [← HML.out]; exact HPLi.out j hjl) hj1 hk1
          simp only [hen.1, hen.2] at HY2
          obtain ⟨fn, tmps, assign, body, hy, hR⟩ := HY2
          clear hj1 hk1 hen hxe g3
          gi_wp2
          refine hR.mono ?_
          rintro e w4 ⟨rfl, hj2, hk2⟩
          have HJ3 := Lib.hid hj2
          have HK := Lib.hid (hk2.less (T := fun j => lo ≤ j ∧ j < mid) fun j _ h => ⟨Nat.le_trans HW3.out.1 h.1, h.2⟩)
          clear hR hy hj2 hk2
          gi_wp2
          go_roundw
          case rel => exact ⟨j + 1, hjl, by go_num, Lib.hid ⟨w4, HJ3.out, Kept.refl _ _⟩, Lib.hid (HIN2.out.kept HZ2.out HK.out), Lib.hid (HROW2.out.kept HZ2.out HK.out), Lib.hid (Nat.le_trans HZ2.out HK.out.size)⟩
          case measure => simp [intOf] <;> omega
        · have hl2 : ¬ (j : Int) < (N.length : Int) := by omega
          have HJ3 := Lib.hid (show ∃ W1, J mid (pre M (i + 1)) W1 ∧ Kept (fun _ => True) W1 wr by
            have hjn : j = N.length := by omega
            rw [HPi.out, ← hjn]; exact HJ2.out)
          gi_wp2
          go_roundw
          case rel => exact ⟨i + 1, hid, by go_num, HJ3, HIN2, HZ2⟩
          case measure => simp [intOf] <;> omega
    · have hl : ¬ (i : Int) < (d : Int) := by omega
      have HF := Lib.hid (show ∃ W1, J mid (pre M d) W1 ∧ Kept (fun _ => True) W1 wr by
        have hin : i = d := by omega
        rw [← hin]; exact HJ.out)
      gi_wp2
      go_end0
      obtain ⟨W1, f1, f2⟩ := HF.out
      exact ⟨⟨_, rfl⟩, mid, HW3.out.2.1, W1, f1, f2⟩
end Go.Proofs.YtmnklonoelpidaaGreatDoor
/- At: a place's digest. -/
namespace Go.Proofs.YtmnklonoelpidaaGreatDoor
open Go.RowKit

/-- is there such a place? -/
def atIn (d : Nat) (level : Int) (k : Nat) : Bool := decide (0 ≤ level) && (decide (level ≤ (d : Int)) && decide (k < 2 ^ (d - level.toNat)))
def atD (L : List (List UInt8)) (level : Int) (k : Nat) : (List UInt8) := if atIn (dep L.length) level k = true then dg (gl L (dep L.length)) level.toNat k else []
abbrev atV (L : List (List UInt8)) (level : Int) (k : Nat) : Value := .tuple #[.string ⟨(atD L level k).toArray⟩, .bool (atIn (dep L.length) level k)]
theorem half_pow (k q : Nat) : k / 2 ^ q = 2 * (k / 2 ^ (q + 1)) + k / 2 ^ q % 2 := by
  have : k / 2 ^ (q + 1) = k / 2 ^ q / 2 := by rw [Nat.pow_succ, Nat.div_div_eq_div_mul]
  omega
theorem shl_pow {e : Nat} (he : e ≤ 16) : IntKind.u64.wrap ((2 : Int) ^ e) = (2 : Int) ^ e ∧ (2 : Int) ^ e = ((2 ^ e : Nat) : Int) ∧ 2 ^ e ≤ 65536 := by
  have hp : 2 ^ e ≤ 2 ^ 16 := Nat.pow_le_pow_right (by decide) he
  have hc : ((2 : Int) ^ e) = ((2 ^ e : Nat) : Int) := by simp
  refine ⟨?_, hc, hp⟩
  rw [hc, IntKind.wrap_u64]
  generalize 2 ^ e = p at hp ⊢
  omega
theorem at_bad (t : Value) (D : Int) (level : Int) (k : Nat) (w : World) (hD : Calls Tryz.prog 116 #[t] w fun e w' => e = .returned (.int .i64 D) ∧ w = w') (h : level < 0 ∨ D < level) :
    Calls Tryz.prog 119 #[t, .int .i64 level, .int .u64 (k : Int)] w fun e w' => e = .returned (.tuple #[.string ⟨#[]⟩, .bool false]) ∧ w = w' := by
  have HD := Lib.hid hD
  clear hD
  rcases h with h | h
  · go_enter Tryz.func119, Tryz.ntmps119
    go_wp2_with (go_at_call 116; refine HD.out.mono ?_; rintro e w' ⟨rfl, rfl⟩)
    exact bodyPost_ret (v := .tuple #[.string ⟨#[]⟩, .bool false]) (by simp [results, Tryz.results119, go_sem]) rfl ⟨rfl, rfl⟩
  · by_cases h0 : level < 0
    · go_enter Tryz.func119, Tryz.ntmps119
      go_wp2_with (go_at_call 116; refine HD.out.mono ?_; rintro e w' ⟨rfl, rfl⟩)
      exact bodyPost_ret (v := .tuple #[.string ⟨#[]⟩, .bool false]) (by simp [results, Tryz.results119, go_sem]) rfl ⟨rfl, rfl⟩
    · go_enter Tryz.func119, Tryz.ntmps119
      go_wp2_with (go_at_call 116; refine HD.out.mono ?_; rintro e w' ⟨rfl, rfl⟩)
      exact bodyPost_ret (v := .tuple #[.string ⟨#[]⟩, .bool false]) (by simp [results, Tryz.results119, go_sem]) rfl ⟨rfl, rfl⟩
set_option maxRecDepth 100000 in
set_option maxHeartbeats 1000000 in
theorem at_any (L : List (List UInt8)) (t : Nat) (level : Int) (k : Nat) (w : World) (hT : TreeM L w t) (hk : k < 18446744073709551616) :
    Calls Tryz.prog 119 #[.pointer (some ⟨t, 0, none⟩), .int .i64 level, .int .u64 (k : Int)] w fun e w' => e = .returned (atV L level k) ∧ Below w.heap.size w w' := by
  have hD := depthT_any L t w hT
  have hd := dep_le L.length hT.le
  by_cases hl : level < 0 ∨ (dep L.length : Int) < level
  · have e : atIn (dep L.length) level k = false := by simp [atIn]; omega
    rw [atV, atD, e]
    exact (at_bad _ _ level k w hD hl).mono fun e w' h => ⟨h.1, h.2 ▸ Below.refl _ _⟩
  obtain ⟨v, rfl⟩ : ∃ v : Nat, level = (v : Int) := ⟨level.toNat, by omega⟩
  obtain ⟨E, hE⟩ : ∃ E, E = dep L.length - v := ⟨_, rfl⟩
  have HD := Lib.hid hD
  have hdv : (dep L.length : Int) - (v : Int) = (E : Int) := by omega
  have hv : (v : Int) ≤ (dep L.length : Int) := by omega
  have hv2 : ¬ (v : Int) < 0 := by omega
  have hv3 : ¬ (dep L.length : Int) < (v : Int) := by omega
  obtain ⟨r, h1, h2⟩ := hT.blk
  have hatin : atIn (dep L.length) (v : Int) k = decide (k < 2 ^ E) := by
    rw [hE]
    simp [atIn]
    omega
  have hatD : k < 2 ^ E → atD L (v : Int) k = dg (gl L (dep L.length)) v k := fun h => by
    rw [atD, hatin, if_pos (by simpa using h)]
    rfl
  have HBAD : Hid (¬ k < 2 ^ E → atD L (v : Int) k = []) := Lib.hid fun h => by
    rw [atD, hatin, if_neg (by simpa using h)]
  have HIN : Hid (InT (gl L (dep L.length)) w (v + E) 0 r) := Lib.hid (by rw [hE, show v + (dep L.length - v) = dep L.length by omega]; exact h2)
  rw [atV, hatin]
  have c0 := (lit_cell h1 0).trans rfl
  have hE16 : E ≤ 16 := by omega
  have hv16 : (v : Int) ≤ 16 := by omega
  have HS := Lib.hid (fun q (hq : q < 64) w => side_any k q hk hq w)
  clear hD hT hl h1 h2 hE hatin
  generalize gl L (dep L.length) = g at *
  generalize dep L.length = d at *
  obtain ⟨hs1, hs2, hs3⟩ := shl_pow hE16
  by_cases hkE : k < 2 ^ E
  · have hlt : ¬ (2 : Int) ^ E ≤ (k : Int) := by rw [hs2]; omega
    rw [hatD hkE, decide_eq_true hkE]
    have HK := Lib.hid hkE
    clear hatD hkE hs2 hs3
    go_enter Tryz.func119, Tryz.ntmps119
    go_upto_region 2 with (go_at_call 116; refine HD.out.mono ?_; rintro e w' ⟨rfl, rfl⟩)
    go_wp2
    have hf1 : decide (d < v) = false := decide_eq_false (by omega)
    have hf2 : decide ((v : Int) < 0) = false := decide_eq_false (by omega)
    have hf3 : decide ((2 : Int) ^ E ≤ (k : Int)) = false := decide_eq_false (Int.not_le.2 hlt)
    simp only [hf1, hf2, hf3, Bool.or_false]
    have HE16 := Lib.hid hE16
    clear hf1 hf2 hf3 hv2 hv3 hlt hv hdv hs1 hE16 hv16 c0 hd
    go_loopw [9, 10] (fun p dn wr => ∃ q b : Nat, q ≤ E ∧ p = .pointer (some ⟨b, 0, none⟩) ∧ dn = .int .i64 (q : Int) ∧ Hid (InT g wr (v + q) (k / 2 ^ q) b) ∧ Below w.heap.size w wr) (fun _ dn _ => (intOf dn).toNat)
    case atStart => exact ⟨E, r, Nat.le_refl _, rfl, rfl, Lib.hid (by rw [Nat.div_eq_of_lt HK.out]; exact HIN.out), Below.refl _ _⟩
    case round =>
      obtain ⟨q, b, hq, rfl, rfl, HB, hbw⟩ := hrel
      by_cases hq0 : q = 0
      · subst hq0
        have hb := HB.out
        rw [Nat.pow_zero, Nat.div_one, Nat.add_zero] at hb
        obtain ⟨x, y, hb⟩ := hb.blk
        have d0 := (lit_cell hb 0).trans rfl
        clear hb
        go_wp2
        exact bodyPost_ret (v := .tuple #[.string ⟨(dg g v k).toArray⟩, .bool true]) (by simp [results, Tryz.results119, go_sem]) rfl ⟨rfl, hbw⟩
      · obtain ⟨j, hj⟩ : ∃ j, q = j + 1 := ⟨q - 1, by omega⟩
        have hb := HB.out
        rw [hj] at hb
        obtain ⟨x, y, hb, hx, hy⟩ := hb
        have d1 := (lit_cell hb 1).trans rfl
        have d2 := (lit_cell hb 2).trans rfl
        have HX := Lib.hid hx
        have HY := Lib.hid hy
        have HJ := Lib.hid (half_pow k j)
        have HSJ := Lib.hid (fun w => HS.out j (by have := HE16.out; omega) w)
        have k0 : (0 : Int) < (q : Int) := by omega
        have e1 : (q : Int) - 1 = (j : Int) := by omega
        have e2 : (0 : Int) ≤ (j : Int) := by omega
        have e3 : IntKind.i64.wrap (j : Int) = (j : Int) := by rw [IntKind.wrap_i64]; have := HE16.out; omega
        have HQ := Lib.hid (And.intro hj hq)
        clear hb hx hy HB hj hq hq0
        rcases Nat.mod_two_eq_zero_or_one (k / 2 ^ j) with hs | hs
        · rw [hs] at HSJ
          have HE := Lib.hid (show k / 2 ^ j = 2 * (k / 2 ^ (j + 1)) from by have := HJ.out; omega)
          clear hs
          go_wp2
          go_region_held3 (fun w' => w'.cell? ⟨b, 1, none⟩ = some (.pointer (some ⟨x, 0, none⟩)) ∧ w'.cell? ⟨b, 2, none⟩ = some (.pointer (some ⟨y, 0, none⟩))) (first | (with_reducible assumption) | (exact ⟨d1, d2⟩))
            (first | (go_at_call 144; refine (HSJ.out _).mono ?_; rintro e w' ⟨rfl, rfl⟩))
          all_goals
            go_wp2
            go_roundw
            case rel => exact ⟨j, x, by have := HQ.out; omega, rfl, rfl, Lib.hid (by rw [HE.out]; exact HX.out.below (Below.refl _ _).drew), hbw.drew⟩
            case measure => simp [intOf]; have := HQ.out; omega
        · rw [hs] at HSJ
          have HE := Lib.hid (show k / 2 ^ j = 2 * (k / 2 ^ (j + 1)) + 1 from by have := HJ.out; omega)
          clear hs
          go_wp2
          go_region_held3 (fun w' => w'.cell? ⟨b, 1, none⟩ = some (.pointer (some ⟨x, 0, none⟩)) ∧ w'.cell? ⟨b, 2, none⟩ = some (.pointer (some ⟨y, 0, none⟩))) (first | (with_reducible assumption) | (exact ⟨d1, d2⟩))
            (first | (go_at_call 144; refine (HSJ.out _).mono ?_; rintro e w' ⟨rfl, rfl⟩))
          all_goals
            go_wp2
            go_roundw
            case rel => exact ⟨j, y, by have := HQ.out; omega, rfl, rfl, Lib.hid (by rw [HE.out]; exact HY.out.below (Below.refl _ _).drew), hbw.drew⟩
            case measure => simp [intOf]; have := HQ.out; omega
  · have hlt : (2 : Int) ^ E ≤ (k : Int) := by rw [hs2]; omega
    rw [decide_eq_false hkE, show atD L (v : Int) k = [] from HBAD.out hkE]
    clear hatD hkE hs2 hs3
    go_enter Tryz.func119, Tryz.ntmps119
    go_wp2_with (go_at_call 116; refine HD.out.mono ?_; rintro e w' ⟨rfl, rfl⟩)
    exact bodyPost_ret (v := .tuple #[.string ⟨#[]⟩, .bool false]) (by simp [results, Tryz.results119, go_sem]) rfl ⟨rfl, Below.refl _ _⟩
theorem at_in {L : List (List UInt8)} {v k : Nat} (hv : v ≤ dep L.length) (hk : k < 2 ^ (dep L.length - v)) : atV L (v : Int) k = .tuple #[.string ⟨(dg (gl L (dep L.length)) v k).toArray⟩, .bool true] := by
  have h : atIn (dep L.length) (v : Int) k = true := by simp [atIn]; omega
  rw [atV, atD, h, if_pos rfl, Int.toNat_natCast]
end Go.Proofs.YtmnklonoelpidaaGreatDoor
/- Layer 10's Prove and Size. -/
namespace Go.Proofs.YtmnklonoelpidaaGreatDoor
open Go.RowKit Go.Sort
attribute [local go_sem] Oper.semAt_some

/-- append, by its run, in a fence -/
theorem wpListIn_append_run {F : Fence} {n : Nat} {P : Program} {w w2 : World} {ops : Array Oper} {rest : List Oper} {o : Oper} {a : Act} {Q : Exit → Act → World → Prop} {v u v2 : Value}
    (hg : o.guard = none) (s x : Operand) (t : TypeId) (hop : o.op = Op.call { callee := Callee.builtin Builtin.append, args := #[s, x], argTypes := #[t, t] }) (hs : a.eval s = v) (hx : a.eval x = u)
    (hrun : (Builtin.append_ #[t, t] o.type #[v, u]).run P w = .ok v2 w2) (hK : wpListIn F n P ops Q rest (a.put o.dst v2) w2) : wpListIn F n P ops Q (o :: rest) a w := by
  refine wpListIn_plain hg fun K hK' => ?_
  unfold Oper.wpIn
  refine ⟨?_, ?_⟩
  · simp [Oper.about, hop, resolve, Target.leads, Sem.run_pure]
  · rw [Oper.semAt_plain F _ _ (by rw [hop]; intro c hc'; cases hc')]
    simp [execOp, hop, resolve, invoke, builtin, hs, hx, hrun, Result.andThen]
    exact hK' _ _ hK
theorem pr_step {lo mid b4 k : Nat} {W : World} {v : Value} {xs : List Value} {X : (List UInt8)} (h4 : b4 < lo) (hlm : lo ≤ mid) (hz : mid ≤ W.heap.size) (hk : k ≤ 100000)
    (hcell : W.heap[b4]? = some (.cells #[v] 41 (0, 0))) (hown : W.ownsRow mid 9 1 v k xs) :
    ∃ (g cp : Nat) (w2 : World), (Builtin.append_ #[41, 41] 41 #[v, .slice (some ⟨W.heap.size, 0, none⟩) 1 1]).run Tryz.prog (W.alloc (.cells #[.string ⟨X.toArray⟩] 9)) = .ok (.slice (some ⟨g, 0, none⟩) (k + 1) cp) w2 ∧
      w2.cell? ⟨b4, 0, none⟩ = some v ∧ w2.frozen? ⟨b4, 0, none⟩ = false ∧
      Kept (fun j => (j < lo ∧ j ∉ [b4]) ∨ (lo ≤ j ∧ j < mid)) W (w2.setCell ⟨b4, 0, none⟩ (.slice (some ⟨g, 0, none⟩) (k + 1) cp)) ∧
      (w2.setCell ⟨b4, 0, none⟩ (.slice (some ⟨g, 0, none⟩) (k + 1) cp)).heap[b4]? = some (.cells #[.slice (some ⟨g, 0, none⟩) (k + 1) cp] 41 (0, 0)) ∧
      (w2.setCell ⟨b4, 0, none⟩ (.slice (some ⟨g, 0, none⟩) (k + 1) cp)).ownsRow mid 9 1 (.slice (some ⟨g, 0, none⟩) (k + 1) cp) (k + 1) (xs ++ [.string ⟨X.toArray⟩]) := by
  obtain ⟨i0, hi, hz0, hz1, hz2⟩ := info_parts info_str
  have ka : Kept (fun j => j < W.heap.size) W (W.alloc (.cells #[.string ⟨X.toArray⟩] 9)) := Kept.of_below (by0 W _) fun j h => h
  obtain ⟨v2, w2, hrun, ho2, hg2, _⟩ := run_append_own (P := Tryz.prog) (w := W.alloc (.cells #[.string ⟨X.toArray⟩] 9)) mid 41 41 9 i0 _ 1 16 Tryz.underlying41 hi hz0 hz1 hz2 rfl (by decide) v k xs (hown.alloc _) ⟨W.heap.size, 0, none⟩ 1 1 [.string ⟨X.toArray⟩] rfl (cell_one_new _ _ _)
    (by intro u hu; simp at hu; subst hu; rfl) (by unfold maxLen; omega) (by omega) (by simp; omega)
  obtain ⟨g, cp, rfl⟩ := ownsRow_succ ho2
  have hv4 : ∀ j, some j = v.ownBlock → mid ≤ j := fun j e => (hown.lt j e.symm).1
  have kw : Kept (fun j => j < mid) W w2 := (ka.less (fun j _ h => by omega)).grown hg2 (fun j e _ h => by have := hv4 j e; omega)
  have c2 : w2.heap[b4]? = some (.cells #[v] 41 (0, 0)) := (kw.block b4 (by omega) (by omega)).trans hcell
  have ks : Kept (fun j => (j < lo ∧ j ∉ [b4]) ∨ (lo ≤ j ∧ j < mid)) W (w2.setCell ⟨b4, 0, none⟩ (.slice (some ⟨g, 0, none⟩) (k + 1) cp)) := (kw.less (fun j _ h => by rcases h with h | h <;> omega)).setCell b4 0 _ (fun _ h => h.elim (fun h => h.2 (by simp)) (fun h => by omega))
  have k2 : Kept (fun j => j ≠ b4) w2 (w2.setCell ⟨b4, 0, none⟩ (.slice (some ⟨g, 0, none⟩) (k + 1) cp)) := (Kept.refl _ w2).setCell b4 0 _ (fun _ h => h rfl)
  exact ⟨g, cp, w2, hrun, by simp [World.cell?, c2], by simp [World.frozen?, c2], ks, lit_set _ c2, own_kept ho2 k2 (fun j hj => by omega)⟩
/-- a proof: the digests of the places that are needed -/
def proofD (L : List (List UInt8)) (P : List Nat) : List (List UInt8) := (flat (needM (lvs P (dep L.length)) (dep L.length))).map fun x => dg (gl L (dep L.length)) x.1 x.2
theorem flat_mem : ∀ (M : List (List Nat)) (s : Nat) (p : Nat × Nat), p ∈ flatFrom s M → ∃ i N, p.1 = s + i ∧ M[i]? = some N ∧ p.2 ∈ N
  | N :: M, s, p, h => by
    rw [flatFrom, List.mem_append] at h
    rcases h with h | h
    · obtain ⟨k, hk, rfl⟩ := List.mem_map.1 h
      exact ⟨0, N, rfl, rfl, hk⟩
    · obtain ⟨i, N', h1, h2, h3⟩ := flat_mem M (s + 1) p h
      exact ⟨i + 1, N', by omega, by simpa using h2, h3⟩
theorem flat_in {L : List Nat} {d : Nat} {p : Nat × Nat} (h : p ∈ flat (needM L d)) : p.1 < d ∧ p.2 < 2 ^ (d - p.1) := by
  obtain ⟨i, N, h1, h2, h3⟩ := flat_mem _ 0 p h
  have hi : i < d := by have := (List.getElem?_eq_some_iff.1 h2).1; rwa [needM_len] at this
  rw [needM_at hi] at h2
  cases h2
  rw [needOf, List.mem_filter, List.mem_range] at h3
  rw [h1, Nat.zero_add]
  exact ⟨hi, h3.1⟩
theorem proofD_len (L : List (List UInt8)) (P : List Nat) : (proofD L P).length = pre (needM (lvs P (dep L.length)) (dep L.length)) (dep L.length) := by
  rw [proofD, List.length_map, flat_len, needM_len]
theorem at_enc {L : List (List UInt8)} {P : List Nat} {k : Nat} (hd : dep L.length ≤ 16) (hk : k < (proofD L P).length) : ∃ i x : Nat, encA P (dep L.length) k = i ∧ encB P (dep L.length) k = x ∧ x < 18446744073709551616 ∧ atV L (i : Int) x = .tuple #[.string ⟨((proofD L P)[k]).toArray⟩, .bool true] := by
  have hk2 : k < (flat (needM (lvs P (dep L.length)) (dep L.length))).length := by simpa [proofD] using hk
  obtain ⟨p, hp⟩ : ∃ p, p = (flat (needM (lvs P (dep L.length)) (dep L.length)))[k] := ⟨_, rfl⟩
  have hin := flat_in (L := lvs P (dep L.length)) (d := dep L.length) (p := p) (by rw [hp]; exact List.getElem_mem hk2)
  have hpw : 2 ^ (dep L.length - p.1) ≤ 2 ^ 16 := Nat.pow_le_pow_right (by decide) (by omega)
  refine ⟨p.1, p.2, by rw [encA, List.getElem?_eq_getElem hk2, ← hp]; rfl, by rw [encB, List.getElem?_eq_getElem hk2, ← hp]; rfl, by omega, ?_⟩
  rw [at_in (by omega) hin.2]
  simp only [proofD, List.getElem_map, ← hp]
set_option maxRecDepth 100000 in
set_option maxHeartbeats 2000000 in
theorem prove_good (L : List (List UInt8)) (t : Nat) (ao : Option Addr) (cap : Nat) (P : List Nat) (w : World) (hT : TreeM L w t) (hN : Nums ao P w) (hn : P.length ≤ 1000) (hs : standsP P L.length = true) :
    Calls Tryz.prog 84 #[.pointer (some ⟨t, 0, none⟩), .slice ao P.length cap] w fun e w' => ∃ v, e = .returned (.tuple #[v, .int .i64 0]) ∧ w'.ownsRow w.heap.size 9 1 v (proofD L P).length (strC (proofD L P)) ∧ Below w.heap.size w w' := by
  have hle := hT.le
  have hpp := stands_parts hs
  have hd16 := dep_le L.length hle
  have hpd : ∀ x ∈ P, x < 2 ^ dep L.length := fun x hx => Nat.lt_of_lt_of_le (hpp.2.2 x hx) (dep_spec L.length hle).1
  have hN800 : pre (needM (lvs P (dep L.length)) (dep L.length)) (dep L.length) ≤ 1000 * 16 := by
    have h1 := pre_bound (M := needM (lvs P (dep L.length)) (dep L.length)) (B := 1000) (fun N hN => by
      obtain ⟨i, hi⟩ := List.getElem?_of_mem hN
      have h1 := need_le ((needs_M (L := lvs P (dep L.length)) (d := dep L.length) (fun x hx => by
        obtain ⟨y, hy, rfl⟩ := List.mem_map.1 hx
        exact turnB_lt hd16 (hpd y hy))).2 i N hi)
      simp only [upTo, List.length_map] at h1
      omega) (dep L.length) (by rw [needM_len]; exact Nat.le_refl _)
    omega
  have HD := Lib.hid (depthT_any L t w hT)
  have HL := Lib.hid (lenT_any L t w hT)
  have HS := Lib.hid (stand_any ao cap P L.length w hN (by omega) (by omega))
  rw [hs] at HS
  have d0 : ¬ ((dep L.length : Nat) : Int) < 0 := by omega
  have HT := Lib.hid hT
  have HN := Lib.hid hN
  refine calls_of_wp_marks Tryz.func84 rfl ?_
  simp only [Tryz.ntmps84, List.size_toArray, List.length_cons, List.length_nil, Nat.reduceAdd, Nat.reduceSub, Array.replicate_succ, Array.replicate_zero, List.push_toArray, List.append_toArray, List.nil_append, List.cons_append]
  clear hT hN hs hle
  go_upto_region 6 with (first
    | (go_at_call 116; refine HD.out.mono ?_; rintro e w' ⟨rfl, rfl⟩)
    | (go_at_call 118; refine HL.out.mono ?_; rintro e w' ⟨rfl, rfl⟩)
    | (go_at_call 117; refine HS.out.mono ?_; rintro e w1 ⟨rfl, hb⟩))
  go_upto_region 7 with fail
  go_upto_region 8 with fail
  obtain ⟨b7, hb7⟩ : ∃ b7, b7 = w1.heap.size := ⟨_, rfl⟩
  have hz1 := hb.size
  obtain ⟨wA, hA⟩ : ∃ wA, (w1.alloc (.cells #[.func (.func 119) #[.pointer (some ⟨t, 0, none⟩)] #[]] 159)).alloc (.cells #[.slice none 0 0] 41) = wA := ⟨_, rfl⟩
  have zA : wA.heap.size = b7 + 2 := by rw [← hA, World.size_alloc, World.size_alloc, ← hb7]
  have cN : wA.heap[b7 + 1]? = some (.cells #[.slice none 0 0] 41 (0, 0)) := by
    rw [← hA, show b7 + 1 = (w1.alloc (.cells #[.func (.func 119) #[.pointer (some ⟨t, 0, none⟩)] #[]] 159)).heap.size by rw [World.size_alloc, ← hb7]]
    exact heap_alloc_new _ _
  have cA : wA.heap[b7]? = some (.cells #[.func (.func 119) #[.pointer (some ⟨t, 0, none⟩)] #[]] 159 (0, 0)) := by
    rw [← hA, hb7]
    exact lit_old _ (heap_alloc_new _ _)
  have bA : Below w.heap.size w wA := by rw [← hA]; exact below_alloc (below_alloc hb _) _
  obtain ⟨wB, hB⟩ : ∃ wB, (wA.alloc (.cells #[.slice ao P.length cap] 44)).alloc (.cells #[.int .i64 (dep L.length : Int)] 3) = wB := ⟨_, rfl⟩
  have zB : wB.heap.size = b7 + 4 := by rw [← hB, World.size_alloc, World.size_alloc, zA]
  have kB : Below (b7 + 2) wA wB := by rw [← hB]; exact ((Below.refl _ _).alloc (by omega) _).alloc (by simp; omega) _
  have q1 : wB.cell? ⟨b7 + 2, 0, none⟩ = some (.slice ao P.length cap) := by
    rw [← hB, ← zA]; exact (World.cell?_alloc_lt _ _ _ (by simp)).trans (by simp)
  have q2 : wB.cell? ⟨b7 + 3, 0, none⟩ = some (.int .i64 (dep L.length : Int)) := by
    rw [← hB, show b7 + 3 = (wA.alloc (.cells #[.slice ao P.length cap] 44)).heap.size by simp; omega]; simp
  have HV := Lib.hid (mneeded_any ao P.length cap (dep L.length : Int) wA)
  rw [hB, zA] at HV
  have HF := Lib.hid (And.intro hz1 (And.intro (bA.trans (kB.mono (by omega))) (And.intro ((kB.block b7 (by omega)).trans cA) (And.intro ((kB.block (b7 + 1) (by omega)).trans cN) (And.intro q1 q2)))))
  have HZ := Lib.hid (And.intro zB hb7)
  have hw1 : w1.heap.size = b7 := hb7.symm
  clear hb hz1 zA cN cA bA zB kB q1 q2 hB hb7 HD HL HS
  rw [hA, hw1]
  clear hA hw1
  go_wp2_with (go_at_call 120; refine HV.out.mono ?_; rintro e wx ⟨rfl, hwx⟩; have hwx := hwx.symm; subst hwx)
  have HP := Lib.hid (And.intro hpp.1 hpd)
  refine wp_rangeFunc_mid (gf := 145) (lb := #[.pointer (some ⟨b7 + 2, 0, none⟩), .pointer (some ⟨b7 + 3, 0, none⟩)]) rfl (enters_of Tryz.func145 (by kernel_rfl) rfl)
    (needed_hands (b7 + 2) (b7 + 3) ao cap P (dep L.length) hpp.1 hn hpd hd16) (fun _ => rfl) (b7 + 4) HZ.out.1 [b7 + 1] ?ok
    (fun m k W => b7 + 6 ≤ m → ∃ v, W.heap[b7 + 1]? = some (.cells #[v] 41 (0, 0)) ∧ W.ownsRow m 9 1 v k (strC ((proofD L P).take k)) ∧ Kept (fun j => j < b7 + 4 ∧ j ∉ [b7 + 1]) wB W) ?keep ?start
    (fun k => { tmps := #[.pointer (some ⟨t, 0, none⟩), .slice ao P.length cap, undef, undef, .slice none 0 0, .int .i64 0, .int .i64 (dep L.length : Int), .pointer (some ⟨b7, 0, none⟩), .pointer (some ⟨b7 + 1, 0, none⟩), .int .i64 (encA P (dep L.length) k : Int), .int .u64 (encB P (dep L.length) k : Int), undef, undef, .pointer (some ⟨t, 0, none⟩), .int .i64 (dep L.length : Int), .int .i64 (dep L.length : Int), .bool (decide ((dep L.length : Int) < 0)), .slice ao P.length cap, .pointer (some ⟨t, 0, none⟩), .int .i64 (L.length : Int), .bool true, .bool false, .pointer (some ⟨t, 0, none⟩), .func (.func 119) #[.pointer (some ⟨t, 0, none⟩)] #[], .slice ao P.length cap, .int .i64 (dep L.length : Int), .func (.func 145) #[] #[.pointer (some ⟨b7 + 2, 0, none⟩), .pointer (some ⟨b7 + 3, 0, none⟩)], .int .i64 (encA P (dep L.length) k : Int), .int .u64 (encB P (dep L.length) k : Int), undef, undef, undef, undef, undef, undef, undef, undef, undef, undef, undef, undef], defers := [] }) ?assign ?body ?done
  case ok =>
    intro W' hW'
    have hz := HZ.out.1
    refine ⟨(World.cell?_of_block (a := ⟨b7 + 2, 0, none⟩) (hW'.block (b7 + 2) (by omega) ⟨by omega, by simp⟩)).trans HF.out.2.2.2.2.1, (World.cell?_of_block (a := ⟨b7 + 3, 0, none⟩) (hW'.block (b7 + 3) (by omega) ⟨by omega, by simp⟩)).trans HF.out.2.2.2.2.2, ?_⟩
    exact nums_next HN.out (HF.out.2.1.trans (hW'.below (B := w.heap.size) (by have := HF.out.1; have := HZ.out.2; omega) (fun j hj => ⟨by have := HF.out.1; have := HZ.out.2; omega, by simp; have := HF.out.1; have := HZ.out.2; omega⟩)))
  case keep =>
    intro m k W W' h hk hm
    obtain ⟨v, h1, h2, h3⟩ := h hm
    exact ⟨v, (hk.block (b7 + 1) (lit_lt h1) (.inl (by omega))).trans h1, own_kept h2 hk (fun j hj => .inr (by omega)), h3.trans (hk.less fun j _ hj => .inl hj.1)⟩
  case start =>
    intro m hm
    exact ⟨_, HF.out.2.2.2.1, by rw [List.take_zero]; exact World.ownsRow_nil _ _ _ _, Kept.refl _ _⟩
  case assign =>
    intro l k W K hK
    gi_wp2
    exact hK
  case body =>
    intro l' mid k W hm1 hm2 hkN h
    have hm6 : b7 + 6 ≤ mid := by omega
    obtain ⟨v, hcell, hown, hkp⟩ := h hm6
    have hk : k < (proofD L P).length := by rw [proofD_len]; exact hkN
    obtain ⟨i, x, e1, e2, hx, hat⟩ := at_enc hd16 hk
    have hzw := HF.out.1
    have hzb := HZ.out.2
    have c7 : W.cell? ⟨b7, 0, none⟩ = some (.func (.func 119) #[.pointer (some ⟨t, 0, none⟩)] #[]) := (World.cell?_of_block (a := ⟨b7, 0, none⟩) (hkp.block b7 (by rw [HZ.out.1]; omega) ⟨by omega, by simp⟩)).trans ((lit_cell HF.out.2.2.1 0).trans rfl)
    have c8 : W.cell? ⟨b7 + 1, 0, none⟩ = some v := (lit_cell hcell 0).trans rfl
    have hTW : TreeM L W t := HT.out.below (HF.out.2.1.trans (hkp.below (B := w.heap.size) (by rw [HZ.out.1]; omega) (fun j hj => ⟨by omega, by simp; omega⟩)))
    have hA := at_any L t (i : Int) x W hTW hx
    rw [hat] at hA
    have HA := Lib.hid hA
    have hk5 : k ≤ 100000 := by have := hN800; omega
    have HE := Lib.hid (show strC ((proofD L P).take k) ++ [.string ⟨((proofD L P)[k]).toArray⟩] = strC ((proofD L P).take (k + 1)) by
      rw [← List.take_append_getElem hk, strC, strC, List.map_append]; rfl)
    have HST := Lib.hid (And.intro hcell (And.intro hown (And.intro hkp (And.intro hm2 hk5))))
    have HM6 := Lib.hid hm6
    simp only [e1, e2]
    generalize (proofD L P)[k] = X at *
    clear hown hkp hcell hat hTW hA h hk e1 e2 hk5 hzw hzb hm1 hm2 hm6 hkN c8
    gi_wp2
    refine ⟨trivial, rfl, (CallsIn.inRound l' (callsIn_wide.2 HA.out)).mono ?_⟩
    rintro e w' ⟨rfl, hbw⟩
    have hK : Kept (fun _ => True) W w' := ⟨hbw.os, hbw.tape, hbw.output, hbw.size, fun j hj _ => hbw.block j hj⟩
    obtain ⟨hcell, hown, hkp, hm2, hk5⟩ := HST.out
    have hcell' := (hbw.block (b7 + 1) (lit_lt hcell)).trans hcell
    obtain ⟨g, cp, w2, hrun, f1, f2, f3, f4, f5⟩ := pr_step (X := X) (lo := b7 + 4) (mid := mid) (by omega) (by have := HM6.out; omega) (Nat.le_trans hm2 hbw.size) hk5 hcell' (own_kept hown hK (fun _ _ => trivial))
    rw [HE.out] at f5
    have c8 : w'.cell? ⟨b7 + 1, 0, none⟩ = some v := (lit_cell hcell' 0).trans rfl
    have HKP := Lib.hid ((hK.less (T := fun j => (j < b7 + 4 ∧ j ∉ [b7 + 1]) ∨ (b7 + 4 ≤ j ∧ j < mid)) fun _ _ _ => trivial).trans f3)
    have HFI := Lib.hid (And.intro f4 (And.intro f5 (hkp.trans (HKP.out.less fun j _ hj => .inl hj))))
    clear hown hkp hcell hcell' hK f3 f4 f5 hbw hm2 hk5 c7
    gi_wp2_with (gi_at_builtin; refine wpListIn_append_run rfl (.tmp 36) (.tmp 38) 41 rfl rfl rfl hrun ?_)
    exact ⟨HKP.out, fun _ => ⟨_, HFI.out⟩⟩
  case done =>
    intro m W hm h hkp hdef
    obtain ⟨v, h1, h2, h3⟩ := h (by omega)
    rw [← proofD_len, List.take_length] at h2
    have c8 : W.cell? ⟨b7 + 1, 0, none⟩ = some v := (lit_cell h1 0).trans rfl
    have HR := Lib.hid h2
    have HK := Lib.hid hkp
    have HM := Lib.hid hm
    clear h1 h2 h3 hkp h hm
    go_wp2
    refine ⟨by simp, .inl ⟨_, _, rfl, run_takeDeferred hdef, ?_⟩⟩
    have kp : Kept (fun j => j ≠ b7 + 4) W (W.putObj (b7 + 4) (.deferred none)) := Kept.putObj _ _ _ _ (by simp)
    have hbw := (HK.out.trans (kp.less (T := fun j => j < b7 + 4 ∧ j ∉ [b7 + 1]) fun j _ h => by omega)).below (B := w.heap.size) (by have := HF.out.1; have := HZ.out; omega) (fun j h => ⟨by have := HF.out.1; have := HZ.out; omega, by simp; have := HF.out.1; have := HZ.out; omega⟩)
    refine ⟨.tuple #[v, .int .i64 0], by simp [results, Tryz.results84, go_sem], v, rfl, row_base (own_kept HR.out kp fun j h => by have := HM.out; omega) (by have := HF.out.1; have := HZ.out; have := HM.out; omega), HF.out.2.1.trans hbw⟩
theorem sizeD_eq (L : List (List UInt8)) (P : List Nat) : (proofD L P).length = sizeD P L.length := proofD_len L P
end Go.Proofs.YtmnklonoelpidaaGreatDoor
