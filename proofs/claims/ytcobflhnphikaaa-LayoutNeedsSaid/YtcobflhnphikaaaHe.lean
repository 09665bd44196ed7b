/- Ranges over a function whose iterator makes a block of its own, hands it over, and writes it between two rounds: what the caller owes, at the wide fence. -/
import Derived.Test.YtcobflhnphikaaaHd
import Derived.RangeFuncNested
import Derived.RangeFuncBound
import Derived.RangeFuncCalls
import Derived.RangeFuncLeaves
import Derived.Shelf.Abstract
import Derived.Shelf.RegionOpen
import Derived.WalkKit
import Derived.OwnWalkIn
import Derived.TacticsInMore
import Derived.LoopNIn
import Derived.LoopIn
namespace Go.Proofs.Ytcobflhnphikaaa
open Go.RowKit

/-- whatever lay in the blocks that S names lies as it lay -/
structure Kept (S : Nat → Prop) (w w' : World) : Prop where
  os : w'.os = w.os
  tape : w'.tape = w.tape
  output : w'.output = w.output
  size : w.heap.size ≤ w'.heap.size
  block : ∀ k, k < w.heap.size → S k → w'.heap[k]? = w.heap[k]?
theorem Kept.refl (S : Nat → Prop) (w : World) : Kept S w w := ⟨rfl, rfl, rfl, Nat.le_refl _, fun _ _ _ => rfl⟩
theorem Kept.trans {S : Nat → Prop} {w w1 w2 : World} (h : Kept S w w1) (k : Kept S w1 w2) : Kept S w w2 :=
  ⟨k.os.trans h.os, k.tape.trans h.tape, k.output.trans h.output, Nat.le_trans h.size k.size, fun j hj hS => (k.block j (Nat.lt_of_lt_of_le hj h.size) hS).trans (h.block j hj hS)⟩
theorem Kept.less {S T : Nat → Prop} {w w' : World} (h : Kept S w w') (hT : ∀ j, j < w.heap.size → T j → S j) : Kept T w w' := ⟨h.os, h.tape, h.output, h.size, fun j hj hS => h.block j hj (hT j hj hS)⟩
theorem Kept.of_below {S : Nat → Prop} {B : Nat} {w w' : World} (h : Below B w w') (hS : ∀ j, S j → j < B) : Kept S w w' := ⟨h.os, h.tape, h.output, h.size, fun j _ hj => h.block j (hS j hj)⟩
theorem Kept.below {S : Nat → Prop} {B : Nat} {w w' : World} (h : Kept S w w') (hB : B ≤ w.heap.size) (hS : ∀ j, j < B → S j) : Below B w w' := ⟨h.os, h.tape, h.output, h.size, fun j hj => h.block j (by omega) (hS j hj)⟩
theorem Kept.drew {S : Nat → Prop} {a w : World} (h : Kept S a w) : Kept S a w.drew := ⟨h.os, h.tape, h.output, h.size, h.block⟩
theorem Kept.grown {S : Nat → Prop} {a w w' : World} {row : Option Nat} (h : Kept S a w) (g : w.grownBy w' row) (hr : ∀ j, some j = row → j < a.heap.size → ¬ S j) : Kept S a w' :=
  ⟨g.os.trans h.os, g.tape.trans h.tape, g.output.trans h.output, Nat.le_trans h.size g.size, fun j hj hS => (g.block j (Nat.lt_of_lt_of_le hj h.size) fun e => hr j e hj hS).trans (h.block j hj hS)⟩
theorem Kept.alloc {S : Nat → Prop} {a w : World} (h : Kept S a w) (o : Obj) : Kept S a (w.alloc o) := h.grown (World.grownBy_alloc w o none) (fun _ e => by cases e)
theorem Kept.putObj (S : Nat → Prop) (w : World) (l : Nat) (o : Obj) (hl : ¬ S l) : Kept S w (w.putObj l o) :=
  ⟨rfl, rfl, rfl, by simp [World.putObj], fun j _ hS => World.putObj_heap_other (fun e => hl (e ▸ hS))⟩
theorem Kept.setCell {S : Nat → Prop} {a w : World} (h : Kept S a w) (b o : Nat) (v : Value) (hb : b < a.heap.size → ¬ S b) : Kept S a (w.setCell ⟨b, o, none⟩ v) :=
  ⟨h.os, h.tape, h.output, by rw [show (w.setCell ⟨b, o, none⟩ v).heap.size = w.heap.size from by simp [World.setCell]]; exact h.size, fun j hj hS => (Below.heap_setCell _ _ _ _ (show j ≠ b from fun e => by subst e; exact hb hj hS)).trans (h.block j hj hS)⟩
theorem Kept.to_grown {w w' : World} {b : Nat} (h : Kept (· ≠ b) w w') : w.grownBy w' (some b) := ⟨h.os, h.tape, h.output, h.size, fun j hj hne => h.block j hj fun e => hne (by rw [e])⟩
theorem Kept.of_grown {w w' : World} {b : Nat} (h : w.grownBy w' (some b)) : Kept (· ≠ b) w w' := ⟨h.os, h.tape, h.output, h.size, fun j hj hne => h.block j hj fun e => hne (Option.some.inj e)⟩

theorem calls_of_wp_marks {P : Program} {f : FuncId} {fn : Func} {c : Code} {args : Array Value} {w : World} {R : Ending → World → Prop}
    (hf : P.funcs[f]? = some fn) (hb : fn.body = some c) (h : c.wp P (bodyPostM Fence.wide 0 P fn R) { tmps := args ++ Array.replicate (fn.ntmps - args.size) undef, defers := [] } w) : Calls P f args w R :=
  (callsIn_wide (n := 0)).1 (callsIn_of_wp_marks hf hb trivial (wpIn_wide.2 h) rfl)

/-- what the body of a round ends in -/
def roundKept (S : Nat → Prop) (R : World → Prop) (W : World) : Exit → Act → World → Prop
  | .normal, _, W' => Kept S W W' ∧ R W'
  | _, _, _ => False

/-- what is asked of an iterator that makes a block of its own, the next one, and hands it over N times: Pos m k: how the block m stands behind k rounds; it reads the blocks of Cap -/
def HandsOwn (P : Program) (gf : Nat) (lb : Array Value) (enc : Nat → Array Value) (Cap : List Nat) (Pos : Nat → Nat → World → Prop) (N : Nat) (ok : World → Prop) : Prop :=
  ∀ (l : Nat) (J : Nat → World → Prop) (W : World), ok W → (∀ j ∈ Cap, j < W.heap.size) →
    (∀ k W1 W', k < N → J k W1 → Kept (· ≠ W.heap.size) W1 W' → W.heap.size < W'.heap.size → Pos W.heap.size k W' → YieldAt Fence.wide 0 P l (enc W.heap.size) W' fun e W'' => e = .returned (.bool true) ∧ J (k + 1) W'' ∧ Kept (fun j => j ∈ Cap ∨ j = W.heap.size) W' W'') →
    J 0 W → Calls P gf (#[.func (.yield l) #[] #[]] ++ lb) W fun e W' => (∃ v, e = .returned v) ∧ ∃ W1, J N W1 ∧ Kept (· ≠ W.heap.size) W1 W'

theorem wp_rangeFunc_own {P : Program} {g : Operand} {ps : Array Tmp} {assign body : Code} {Q : Exit → Act → World → Prop} {a : Act} {w : World}
    {gf : Nat} {lb : Array Value} (hg : a.eval g = .func (.func gf) #[] lb) (eg : ∀ args w, (callFunc gf args).run P w = .ok (.enter gf args) w)
    {enc : Nat → Array Value} {Cap : List Nat} {Pos : Nat → Nat → World → Prop} {N : Nat} {ok : World → Prop} (hseq : HandsOwn P gf lb enc Cap Pos N ok) (hps : ∀ m, (enc m).size = ps.size)
    (lo : Nat) (hlo : w.heap.size = lo) (hok : ∀ W', Below lo w W' → ok W') (hcap : ∀ j ∈ Cap, j < lo)
    (Own : List Nat) (hown : ∀ j ∈ Own, j ∉ Cap)
    (hPos : ∀ k W W', Pos (lo + 2) k W → W'.heap[lo + 2]? = W.heap[lo + 2]? → Pos (lo + 2) k W')
    (R : Nat → World → Prop) (hR : ∀ k W W', R k W → Kept (fun j => j < lo ∨ lo + 3 ≤ j) W W' → R k W') (h0 : R 0 w) (a₁ : Nat → Act)
    (hassign : ∀ (l : Nat) (W : World) (K : Act → World → Prop), K (a₁ (lo + 2)) W →
      assign.wpIn (Fence.wide.inRound l) 0 P (Exit.then K (fun _ _ _ => False)) { tmps := (ps.zip (enc (lo + 2))).foldl (fun t (p, v) => t.setIfInBounds p v) a.tmps, defers := [] } W)
    (hbody : ∀ (l : Nat) (k : Nat) (W : World), k < N → lo + 3 ≤ W.heap.size → R k W → Pos (lo + 2) k W →
      body.wpIn (Fence.wide.inRound l) 0 P (roundKept (fun j => (j < lo ∧ j ∉ Own) ∨ (lo ≤ j ∧ j < lo + 3)) (R (k + 1)) W) (a₁ (lo + 2)) W)
    (hdone : ∀ (W : World), R N W → Kept (fun j => j < lo ∧ j ∉ Own) w W → W.heap[lo]? = some (.deferred (some [])) → Q .normal { a with defers := { target := .collected lo, args := #[] } :: a.defers } W) :
    (Code.rangeFunc g ps assign body).wp P Q a w := by
  refine (wpIn_wide (n := 0)).1 (wpIn_rangeFunc ?_)
  intro fn hfn
  obtain ⟨rec, hrec⟩ : ∃ rec : LoopState → Option Code → Loop, rec = fun st pe => { state := st, pending := pe, fn, tmps := a.tmps, params := ps, assign, body, defers := lo } := ⟨_, rfl⟩
  obtain ⟨W1, hW1⟩ : ∃ W1, (w.alloc (.deferred (some []))).alloc (.loop (rec .ready none)) = W1 := ⟨_, rfl⟩
  have hz1 : W1.heap.size = lo + 2 := by rw [← hW1]; simp [hlo]
  have hL1 : W1.heap[lo + 1]? = some (.loop (rec .ready none)) := by
    rw [← hW1]; have := World.alloc_heap_new (w.alloc (.deferred (some []))) (.loop (rec .ready none)); rwa [World.size_alloc, hlo] at this
  have hK1 : W1.heap[lo]? = some (.deferred (some [])) := by
    rw [← hW1]
    have := World.alloc_heap_new w (.deferred (some []))
    rw [hlo] at this
    exact (Below.heap_alloc _ _ _ (by simp; omega)).trans this
  have hb1 : Below lo w W1 := by
    rw [← hW1]
    have := Below.refl lo w
    exact (this.alloc (by omega) _).alloc (by simp; omega) _
  refine ⟨w.heap.size + 1, [{ target := .collected w.heap.size, args := #[] }], W1, { target := .fn (.func gf) lb, args := #[.func (.yield (w.heap.size + 1)) #[] #[]] }, W1, gf,
    #[.func (.yield (w.heap.size + 1)) #[] #[]] ++ lb, W1, ?_, ?_, ?_, ?_, fun h => by simp [Fence.wide] at h, ?_⟩
  · rw [← hW1, hrec, ← hlo]; exact run_enterLoop_outer _ _ _ _ _
  · simp only [resolve, hg]
    simp [go_sem]
  · intro f' hf'; trivial
  · simp [invoke, go_sem, eg]
  · refine callsIn_wide.2 ?_
    rw [hlo]
    have key := hseq (lo + 1)
      (fun k W => R k W ∧ Kept (fun j => j < lo ∧ j ∉ Own) w W ∧ W.heap[lo + 1]? = some (.loop (rec .ready none)) ∧ W.heap[lo]? = some (.deferred (some [])) ∧ lo + 2 ≤ W.heap.size)
      W1 (hok W1 hb1) (fun j hj => by have := hcap j hj; omega) ?_ ⟨hR 0 _ _ h0 ⟨hb1.os, hb1.tape, hb1.output, hb1.size, fun j hj _ => hb1.block j (by omega)⟩, Kept.of_below hb1 fun j hj => hj.1, hL1, hK1, by omega⟩
    · refine key.mono ?_
      rintro e W2' ⟨⟨v, rfl⟩, W2, ⟨hr, hb, hl, hk, hz⟩, hkeep⟩
      rw [hz1] at hkeep
      have hl' : W2'.heap[lo + 1]? = some (.loop (rec .ready none)) := (hkeep.block _ (by omega) (by omega)).trans hl
      have hk' : W2'.heap[lo]? = some (.deferred (some [])) := (hkeep.block _ (by omega) (by omega)).trans hk
      refine ⟨none, _, by have := run_endLoop (P := P) hl' (by rw [hrec]; simp); rw [hrec] at this; exact this, ?_⟩
      have keep : ∀ j, j ≠ lo + 1 → (W2'.putObj (lo + 1) (.loop { rec .ready none with state := .exhausted })).heap[j]? = W2'.heap[j]? := fun j hj => World.putObj_heap_other (by omega)
      have kk : Kept (fun j => j < lo ∨ lo + 3 ≤ j) W2 (W2'.putObj (lo + 1) (.loop { rec .ready none with state := .exhausted })) :=
        (hkeep.less (fun j _ hj => by omega)).trans (Kept.putObj _ _ _ _ (by omega))
      have hq := hdone _ (hR N _ _ hr kk) (hb.trans (kk.less fun j _ hj => .inl hj.1)) ((keep _ (by omega)).trans hk')
      rw [hrec] at hq
      exact hq
    · rw [hz1]
      rintro k W W' hkN ⟨hr, hb, hl, hk, hz⟩ hbut hsz' hp'
      have hl' : W'.heap[lo + 1]? = some (.loop (rec .ready none)) := (hbut.block _ (by omega) (by omega)).trans hl
      have hk' : W'.heap[lo]? = some (.deferred (some [])) := (hbut.block _ (by omega) (by omega)).trans hk
      have hr' : R k W' := hR k _ _ hr (hbut.less fun j _ hj => by omega)
      have hb' : Kept (fun j => j < lo ∧ j ∉ Own) w W' := hb.trans (hbut.less fun j _ hj => by omega)
      have hy := run_yield (P := P) (args := enc (lo + 2)) hl' (by rw [hrec]; exact hps _)
      rw [hrec] at hy
      have hlt' : lo + 1 < W'.heap.size := by omega
      refine ⟨fn, _, assign, body, hy, roundIn_of_wpIn hfn (hassign _ W' _ ⟨_, run_beginRound hl' (by rw [hrec]), ?_⟩)⟩
      obtain ⟨Wb, hWb⟩ : ∃ Wb, W'.putObj (lo + 1) (.loop { rec .ready none with state := .busy }) = Wb := ⟨_, rfl⟩
      have hl2 : Wb.heap[lo + 1]? = some (.loop { rec .ready none with state := .busy }) := by rw [← hWb]; exact World.putObj_heap_same hlt'
      have keepb : ∀ j, j ≠ lo + 1 → Wb.heap[j]? = W'.heap[j]? := fun j hj => by rw [← hWb]; exact World.putObj_heap_other (by omega)
      have hzb : Wb.heap.size = W'.heap.size := by rw [← hWb]; simp [World.putObj]
      have kb : Kept (fun j => j ≠ lo + 1) W' Wb := by rw [← hWb]; exact Kept.putObj _ _ _ _ (by simp)
      have hbb := hbody (lo + 1) k Wb hkN (by omega) (hR k _ _ hr' (kb.less fun j _ hj => by omega)) (hPos k _ _ hp' (keepb _ (by omega)))
      rw [← hWb] at hbb hl2 keepb hzb kb
      refine wpIn_mono hbb ?_
      rw [hWb] at hl2 keepb hzb kb ⊢
      rintro e a3 W3 hp3
      cases e with
      | normal =>
        obtain ⟨hb3, hr3⟩ := hp3
        have hl3 : W3.heap[lo + 1]? = some (.loop { rec .ready none with state := .busy }) := (hb3.block _ (by omega) (.inr ⟨by omega, by omega⟩)).trans hl2
        have hk3 : W3.heap[lo]? = some (.deferred (some [])) := (hb3.block _ (by omega) (.inr ⟨by omega, by omega⟩)).trans ((keepb _ (by omega)).trans hk')
        have hend : (Instr.endRound (lo + 1) none).run P W3 = .ok (.bool true) (W3.putObj (lo + 1) (.loop (rec .ready none))) := by
          have := run_endRound (P := P) none hl3
          rw [hrec] at this ⊢
          exact this
        have hz3 := hb3.size
        have ke : Kept (fun j => j ≠ lo + 1) W3 (W3.putObj (lo + 1) (.loop (rec .ready none))) := Kept.putObj _ _ _ _ (by simp)
        refine ⟨_, _, hend, rfl, ⟨hR _ _ _ hr3 (ke.less fun j _ hj => by omega), ?_, World.putObj_heap_same (by omega), (World.putObj_heap_other (by omega)).trans hk3, by simp [World.putObj]; omega⟩, ?_⟩
        · exact ((hb'.trans (kb.less fun j _ hj => by omega)).trans (hb3.less fun j _ hj => .inl hj)).trans (ke.less fun j _ hj => by omega)
        · refine ((kb.less fun j _ hj => ?_).trans (hb3.less fun j _ hj => ?_)).trans (ke.less fun j _ hj => ?_)
          · rcases hj with hj | hj
            · have := hcap j hj; omega
            · omega
          · rcases hj with hj | hj
            · exact .inl ⟨hcap j hj, fun h => hown j h hj⟩
            · exact .inr ⟨by omega, by omega⟩
          · rcases hj with hj | hj
            · have := hcap j hj; omega
            · omega
      | ret => exact hp3.elim
      | exit id => exact hp3.elim
      | goto t => exact hp3.elim
      | panic ch => exact hp3.elim
      | outgrown => exact hp3.elim
end Go.Proofs.Ytcobflhnphikaaa
