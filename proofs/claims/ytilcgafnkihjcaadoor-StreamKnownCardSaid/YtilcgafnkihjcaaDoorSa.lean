/- Ranges over a function whose iterator writes memory of its own between two rounds: what the caller owes, at the wide fence. -/
import Derived.Test.YtilcgafnkihjcaaDoorTk
import Derived.RangeFuncNested
import Derived.RangeFuncBound
import Derived.RangeFuncCalls
import Derived.RangeFuncLeaves
import Derived.Shelf.Abstract
import Derived.Shelf.RegionOpen
import Derived.WalkKit
import Derived.OwnWalkIn
import Derived.TacticsInMore
import Derived.LoopNIn
import Derived.LoopIn
namespace Go.Proofs.YtilcgafnkihjcaaDoor
open Go.RowKit

/-- whatever lay there lies as it lay, but for the blocks that S names -/
structure ButS (S : List Nat) (w w' : World) : Prop where
  os : w'.os = w.os
  tape : w'.tape = w.tape
  output : w'.output = w.output
  size : w.heap.size ≤ w'.heap.size
  block : ∀ k, k < w.heap.size → k ∉ S → w'.heap[k]? = w.heap[k]?
theorem ButS.refl (S : List Nat) (w : World) : ButS S w w := ⟨rfl, rfl, rfl, Nat.le_refl _, fun _ _ _ => rfl⟩
theorem ButS.trans {S : List Nat} {w w1 w2 : World} (h : ButS S w w1) (k : ButS S w1 w2) : ButS S w w2 :=
  ⟨k.os.trans h.os, k.tape.trans h.tape, k.output.trans h.output, Nat.le_trans h.size k.size, fun j hj hS => (k.block j (Nat.lt_of_lt_of_le hj h.size) hS).trans (h.block j hj hS)⟩
theorem ButS.more {S T : List Nat} {w w' : World} (h : ButS S w w') (hST : ∀ j ∈ S, j ∈ T) : ButS T w w' := ⟨h.os, h.tape, h.output, h.size, fun j hj hT => h.block j hj fun e => hT (hST j e)⟩
theorem ButS.of_but {b : Nat} {S : List Nat} {w w' : World} (h : But b w w') (hb : b ∈ S) : ButS S w w' := ⟨h.os, h.tape, h.output, h.size, fun j hj hS => h.block j hj fun e => hS (e ▸ hb)⟩
theorem ButS.but {b : Nat} {w w' : World} (h : ButS [b] w w') : But b w w' := ⟨h.os, h.tape, h.output, h.size, fun j hj hS => h.block j hj (by simpa using hS)⟩
theorem ButS.of_below {S : List Nat} {w w' : World} (h : Below w.heap.size w w') : ButS S w w' := ⟨h.os, h.tape, h.output, h.size, fun j hj _ => h.block j hj⟩
theorem ButS.drew {S : List Nat} {a w : World} (h : ButS S a w) : ButS S a w.drew := ⟨h.os, h.tape, h.output, h.size, h.block⟩
theorem ButS.alloc {S : List Nat} {a w : World} (h : ButS S a w) (o : Obj) : ButS S a (w.alloc o) :=
  h.trans (.of_below ((Below.refl _ w).alloc (Nat.le_refl _) o))
theorem ButS.setCell {S : List Nat} {a w : World} (h : ButS S a w) (b o : Nat) (v : Value) (hb : b ∈ S) : ButS S a (w.setCell ⟨b, o, none⟩ v) :=
  h.trans (.of_but ((But.refl b w).setCell o v) hb)
/-- blocks laid since do not count -/
theorem ButS.forget {S T : List Nat} {w w1 w2 : World} (h : ButS S w w1) (k : ButS T w1 w2) (hT : ∀ j ∈ T, j ∈ S ∨ w.heap.size ≤ j) : ButS S w w2 :=
  ⟨k.os.trans h.os, k.tape.trans h.tape, k.output.trans h.output, Nat.le_trans h.size k.size, fun j hj hS => (k.block j (Nat.lt_of_lt_of_le hj h.size) (fun e => (hT j e).elim hS (fun h' => by omega))).trans (h.block j hj hS)⟩
theorem ButS.below {S : List Nat} {B : Nat} {w w' : World} (h : ButS S w w') (hB : B ≤ w.heap.size) (hS : ∀ j ∈ S, B ≤ j) : Below B w w' := ⟨h.os, h.tape, h.output, h.size, fun j hj => h.block j (by omega) (fun e => by have := hS j e; omega)⟩
theorem ButS.putObj (S : List Nat) (w : World) (l : Nat) (o : Obj) (hl : l ∈ S) : ButS S w (w.putObj l o) :=
  ⟨rfl, rfl, rfl, by simp [World.putObj], fun j _ hS => World.putObj_heap_other (fun e => hS (e ▸ hl))⟩

theorem calls_of_wp_marks {P : Program} {f : FuncId} {fn : Func} {c : Code} {args : Array Value} {w : World} {R : Ending → World → Prop}
    (hf : P.funcs[f]? = some fn) (hb : fn.body = some c) (h : c.wp P (bodyPostM Fence.wide 0 P fn R) { tmps := args ++ Array.replicate (fn.ntmps - args.size) undef, defers := [] } w) : Calls P f args w R :=
  (callsIn_wide (n := 0)).1 (callsIn_of_wp_marks hf hb trivial (wpIn_wide.2 h) rfl)

/-- what the body of a round ends in -/
def roundEnd (Own : List Nat) (R : World → Prop) (W : World) : Exit → Act → World → Prop
  | .normal, _, W' => ButS Own W W' ∧ R W'
  | _, _, _ => False

/-- what is asked of an iterator that hands N elements over and writes the block b alone: Pos k says where it stands -/
def Hands {α : Type} (P : Program) (gf : Nat) (lb : Array Value) (encs : α → Array Value) (b : Nat) (Pos : Nat → World → Prop) (N : Nat) (x : Nat → α) : Prop :=
  ∀ (l : Nat) (J : Nat → World → Prop) (W : World), (∀ k W, J k W → Pos k W) →
    (∀ k W1 W', k < N → J k W1 → But b W1 W' → Pos (k + 1) W' → YieldAt Fence.wide 0 P l (encs (x k)) W' fun e W'' => e = .returned (.bool true) ∧ J (k + 1) W'') →
    J 0 W → Calls P gf (#[.func (.yield l) #[] #[]] ++ lb) W fun e W' => (∃ v, e = .returned v) ∧ J N W'

theorem wp_rangeFunc_hands {P : Program} {α : Type} {g : Operand} {ps : Array Tmp} {assign body : Code} {Q : Exit → Act → World → Prop} {a : Act} {w : World}
    {gf : Nat} {lb : Array Value} (hg : a.eval g = .func (.func gf) #[] lb) (eg : ∀ args w, (callFunc gf args).run P w = .ok (.enter gf args) w)
    {encs : α → Array Value} {b : Nat} {Pos : Nat → World → Prop} {N : Nat} {x : Nat → α} (hseq : Hands P gf lb encs b Pos N x) (hps : ∀ y, (encs y).size = ps.size)
    (Own : List Nat) (hown : ∀ j ∈ Own, j < w.heap.size ∧ j ≠ b) (hbl : b < w.heap.size)
    (hPos : ∀ k W W', Pos k W → (∀ j, j < w.heap.size → j ∉ Own → W'.heap[j]? = W.heap[j]?) → Pos k W') (hp0 : Pos 0 w)
    (R : Nat → World → Prop) (hR : ∀ k W W', R k W → (∀ j ∈ Own, W'.heap[j]? = W.heap[j]?) → R k W') (h0 : R 0 w) (a₁ : α → Act)
    (hassign : ∀ (l : Nat) (y : α) (W : World) (K : Act → World → Prop), K (a₁ y) W →
      assign.wpIn (Fence.wide.inRound l) 0 P (Exit.then K (fun _ _ _ => False)) { tmps := (ps.zip (encs y)).foldl (fun t (p, v) => t.setIfInBounds p v) a.tmps, defers := [] } W)
    (hbody : ∀ (l : Nat) (k : Nat) (W : World), k < N → w.heap.size ≤ W.heap.size → R k W → body.wpIn (Fence.wide.inRound l) 0 P (roundEnd Own (R (k + 1)) W) (a₁ (x k)) W)
    (hdone : ∀ (W : World), R N W → Pos N W → ButS (b :: Own) w W → W.heap[w.heap.size]? = some (.deferred (some [])) → Q .normal { a with defers := { target := .collected w.heap.size, args := #[] } :: a.defers } W) :
    (Code.rangeFunc g ps assign body).wp P Q a w := by
  refine (wpIn_wide (n := 0)).1 (wpIn_rangeFunc ?_)
  intro fn hfn
  obtain ⟨rec, hrec⟩ : ∃ rec : LoopState → Option Code → Loop, rec = fun st pe => { state := st, pending := pe, fn, tmps := a.tmps, params := ps, assign, body, defers := w.heap.size } := ⟨_, rfl⟩
  obtain ⟨W1, hW1⟩ : ∃ W1, (w.alloc (.deferred (some []))).alloc (.loop (rec .ready none)) = W1 := ⟨_, rfl⟩
  have hL1 : W1.heap[w.heap.size + 1]? = some (.loop (rec .ready none)) := by
    rw [← hW1]; have := World.alloc_heap_new (w.alloc (.deferred (some []))) (.loop (rec .ready none)); rwa [World.size_alloc] at this
  have hK1 : W1.heap[w.heap.size]? = some (.deferred (some [])) := by
    rw [← hW1]; exact (Below.heap_alloc _ _ _ (by simp)).trans (World.alloc_heap_new w _)
  have hb1 : ButS (b :: Own) w W1 := by rw [← hW1]; exact ((ButS.refl _ w).alloc _).alloc _
  have hB1 : ∀ j, j < w.heap.size → W1.heap[j]? = w.heap[j]? := fun j hj => by
    rw [← hW1]; exact (Below.heap_alloc _ _ _ (by simp; omega)).trans (Below.heap_alloc _ _ _ hj)
  refine ⟨w.heap.size + 1, [{ target := .collected w.heap.size, args := #[] }], W1, { target := .fn (.func gf) lb, args := #[.func (.yield (w.heap.size + 1)) #[] #[]] }, W1, gf,
    #[.func (.yield (w.heap.size + 1)) #[] #[]] ++ lb, W1, ?_, ?_, ?_, ?_, fun h => by simp [Fence.wide] at h, ?_⟩
  · rw [← hW1, hrec]; exact run_enterLoop_outer _ _ _ _ _
  · simp only [resolve, hg]
    simp [go_sem]
  · intro f' hf'; trivial
  · simp [invoke, go_sem, eg]
  · refine callsIn_wide.2 ?_
    have key := hseq (w.heap.size + 1)
      (fun k W => R k W ∧ Pos k W ∧ ButS (b :: Own) w W ∧ W.heap[w.heap.size + 1]? = some (.loop (rec .ready none)) ∧ W.heap[w.heap.size]? = some (.deferred (some [])))
      W1 (fun k W h => h.2.1) ?_ ⟨hR 0 _ _ h0 fun j hj => hB1 j (hown j hj).1, hPos 0 _ _ hp0 fun j hj _ => hB1 j hj, hb1, hL1, hK1⟩
    · refine key.mono ?_
      rintro e W2 ⟨⟨v, rfl⟩, hr, hp, hb, hl, hk⟩
      refine ⟨none, _, by have := run_endLoop (P := P) hl (by rw [hrec]; simp); rw [hrec] at this; exact this, ?_⟩
      have keep : ∀ j, j < w.heap.size → (W2.putObj (w.heap.size + 1) (.loop { rec .ready none with state := .exhausted })).heap[j]? = W2.heap[j]? := fun j hj => World.putObj_heap_other (by omega)
      have hq := hdone _ (hR N _ _ hr fun j hj => keep j (hown j hj).1) (hPos N _ _ hp fun j hj _ => keep j hj) (hb.forget (ButS.putObj [w.heap.size + 1] W2 (w.heap.size + 1) _ (by simp)) (by simp)) ((World.putObj_heap_other (by omega)).trans hk)
      rw [hrec] at hq
      exact hq
    · rintro k W W' hkN ⟨hr, hp, hb, hl, hk⟩ hbut hp'
      have hsz := hb.size
      have hlt : w.heap.size + 1 < W.heap.size := (Array.getElem?_eq_some_iff.1 hl).1
      have hl' : W'.heap[w.heap.size + 1]? = some (.loop (rec .ready none)) := (hbut.block _ hlt (by omega)).trans hl
      have hk' : W'.heap[w.heap.size]? = some (.deferred (some [])) := (hbut.block _ (by omega) (by omega)).trans hk
      have hlt' : w.heap.size + 1 < W'.heap.size := (Array.getElem?_eq_some_iff.1 hl').1
      have hr' : R k W' := hR k _ _ hr fun j hj => hbut.block j (by have := (hown j hj).1; omega) (hown j hj).2
      have hb' : ButS (b :: Own) w W' := hb.trans (.of_but hbut (by simp))
      have hy := run_yield (P := P) (args := encs (x k)) hl' (by rw [hrec]; exact hps (x k))
      rw [hrec] at hy
      refine ⟨fn, _, assign, body, hy, roundIn_of_wpIn hfn (hassign _ (x k) W' _ ⟨_, run_beginRound hl' (by rw [hrec]), ?_⟩)⟩
      have keep : ∀ (V : World) (o : Obj), ∀ j, j < w.heap.size → (V.putObj (w.heap.size + 1) o).heap[j]? = V.heap[j]? := fun V o j hj => World.putObj_heap_other (by omega)
      have hl2 : (W'.putObj (w.heap.size + 1) (.loop { rec .ready none with state := .busy })).heap[w.heap.size + 1]? = some (.loop { rec .ready none with state := .busy }) := World.putObj_heap_same hlt'
      have hk2 : (W'.putObj (w.heap.size + 1) (.loop { rec .ready none with state := .busy })).heap[w.heap.size]? = some (.deferred (some [])) := (World.putObj_heap_other (by omega)).trans hk'
      have hbb := hbody (w.heap.size + 1) k _ hkN (by simp [World.putObj]; omega) (hR k _ (W'.putObj (w.heap.size + 1) (.loop { rec .ready none with state := .busy })) hr' fun j hj => keep W' _ j (hown j hj).1)
      refine wpIn_mono hbb ?_
      rintro e a3 W3 hp3
      cases e with
      | normal =>
        obtain ⟨hb3, hr3⟩ := hp3
        have hz3 : (W'.putObj (w.heap.size + 1) (.loop { rec .ready none with state := .busy })).heap.size = W'.heap.size := by simp [World.putObj]
        have hl3 : W3.heap[w.heap.size + 1]? = some (.loop { rec .ready none with state := .busy }) := (hb3.block _ (by omega) (fun e => by have := (hown _ e).1; omega)).trans hl2
        have hk3 : W3.heap[w.heap.size]? = some (.deferred (some [])) := (hb3.block _ (by omega) (fun e => by have := (hown _ e).1; omega)).trans hk2
        have hend : (Instr.endRound (w.heap.size + 1) none).run P W3 = .ok (.bool true) (W3.putObj (w.heap.size + 1) (.loop (rec .ready none))) := by
          have := run_endRound (P := P) none hl3
          rw [hrec] at this ⊢
          exact this
        refine ⟨_, _, hend, rfl, hR _ _ _ hr3 fun j hj => keep W3 _ j (hown j hj).1, hPos _ _ _ hp' fun j hj hjo => ?_, ?_, World.putObj_heap_same (Array.getElem?_eq_some_iff.1 hl3).1, (World.putObj_heap_other (by omega)).trans hk3⟩
        · rw [keep W3 _ j hj, hb3.block j (by omega) hjo, keep W' _ j hj]
        · exact ((hb'.forget (ButS.putObj [w.heap.size + 1] W' (w.heap.size + 1) _ (by simp)) (by simp)).forget hb3 (fun j hj => .inl (List.mem_cons_of_mem _ hj))).forget (ButS.putObj [w.heap.size + 1] W3 (w.heap.size + 1) _ (by simp)) (by simp)
      | ret => exact hp3.elim
      | exit id => exact hp3.elim
      | goto t => exact hp3.elim
      | panic ch => exact hp3.elim
      | outgrown => exact hp3.elim
end Go.Proofs.YtilcgafnkihjcaaDoor
