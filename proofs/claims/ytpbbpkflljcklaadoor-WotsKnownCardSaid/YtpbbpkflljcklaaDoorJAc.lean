/- Ranges over a function whose iterator writes nothing: what the caller owes, at the wide fence. -/
import Derived.Test.YtpbbpkflljcklaaDoorJ1
namespace Go.Proofs.YtpbbpkflljcklaaDoor
open Go.RowKit

/-- what is asked of an iterator that writes nothing, and hands over enc 0 .. enc (N - 1) -/
def HandsRead (P : Program) (gf : Nat) (lb : Array Value) (enc : Nat → Array Value) (N : Nat) (ok : World → Prop) : Prop :=
  ∀ (l : Nat) (J : Nat → World → Prop) (W : World), ok W →
    (∀ k W1 W', k < N → J k W1 → Kept (fun _ => True) W1 W' → YieldAt Fence.wide 0 P l (enc k) W' fun e W'' => e = .returned (.bool true) ∧ J (k + 1) W'' ∧ ok W'') →
    J 0 W → Calls P gf (#[.func (.yield l) #[] #[]] ++ lb) W fun e W' => (∃ v, e = .returned v) ∧ ∃ W1, J N W1 ∧ Kept (fun _ => True) W1 W'

theorem wp_rangeFunc_read {P : Program} {g : Operand} {ps : Array Tmp} {assign body : Code} {Q : Exit → Act → World → Prop} {a : Act} {w : World}
    {gf : Nat} {lb : Array Value} (hg : a.eval g = .func (.func gf) #[] lb) (eg : ∀ args w, (callFunc gf args).run P w = .ok (.enter gf args) w)
    {enc : Nat → Array Value} {N : Nat} {ok : World → Prop} (hseq : HandsRead P gf lb enc N ok) (hps : ∀ k, (enc k).size = ps.size)
    (lo : Nat) (hlo : w.heap.size = lo) (Own : List Nat) (hok : ∀ W', Kept (fun j => j < lo ∧ j ∉ Own) w W' → ok W')
    (R : Nat → World → Prop) (hR : ∀ k W W', R k W → Kept (fun j => j < lo ∨ lo + 2 ≤ j) W W' → R k W') (h0 : R 0 w) (a₁ : Nat → Act)
    (hassign : ∀ (l k : Nat) (W : World) (K : Act → World → Prop), K (a₁ k) W →
      assign.wpIn (Fence.wide.inRound l) 0 P (Exit.then K (fun _ _ _ => False)) { tmps := (ps.zip (enc k)).foldl (fun t (p, v) => t.setIfInBounds p v) a.tmps, defers := [] } W)
    (hbody : ∀ (l : Nat) (k : Nat) (W : World), k < N → lo + 2 ≤ W.heap.size → R k W →
      body.wpIn (Fence.wide.inRound l) 0 P (roundKept (fun j => (j < lo ∧ j ∉ Own) ∨ (lo ≤ j ∧ j < lo + 2)) (R (k + 1)) W) (a₁ k) W)
    (hdone : ∀ (W : World), R N W → Kept (fun j => j < lo ∧ j ∉ Own) w W → W.heap[lo]? = some (.deferred (some [])) → Q .normal { a with defers := { target := .collected lo, args := #[] } :: a.defers } W) :
    (Code.rangeFunc g ps assign body).wp P Q a w := by
  refine (wpIn_wide (n := 0)).1 (wpIn_rangeFunc ?_)
  intro fn hfn
  obtain ⟨rec, hrec⟩ : ∃ rec : LoopState → Option Code → Loop, rec = fun st pe => { state := st, pending := pe, fn, tmps := a.tmps, params := ps, assign, body, defers := lo } := ⟨_, rfl⟩
  obtain ⟨W1, hW1⟩ : ∃ W1, (w.alloc (.deferred (some []))).alloc (.loop (rec .ready none)) = W1 := ⟨_, rfl⟩
  have hz1 : W1.heap.size = lo + 2 := by rw [← hW1]; simp [hlo]
  have hL1 : W1.heap[lo + 1]? = some (.loop (rec .ready none)) := by
    rw [← hW1]; have := World.alloc_heap_new (w.alloc (.deferred (some []))) (.loop (rec .ready none)); rwa [World.size_alloc, hlo] at this
  have hK1 : W1.heap[lo]? = some (.deferred (some [])) := by
    rw [← hW1]
    have := World.alloc_heap_new w (.deferred (some []))
    rw [hlo] at this
    exact (Below.heap_alloc _ _ _ (by simp; omega)).trans this
  have hb1 : Below lo w W1 := by
    rw [← hW1]
    have := Below.refl lo w
    exact (this.alloc (by omega) _).alloc (by simp; omega) _
  have hk1 : Kept (fun j => j < lo ∧ j ∉ Own) w W1 := Kept.of_below hb1 fun j hj => hj.1
  refine ⟨w.heap.size + 1, [{ target := .collected w.heap.size, args := #[] }], W1, { target := .fn (.func gf) lb, args := #[.func (.yield (w.heap.size + 1)) #[] #[]] }, W1, gf,
    #[.func (.yield (w.heap.size + 1)) #[] #[]] ++ lb, W1, ?_, ?_, ?_, ?_, fun h => by simp [Fence.wide] at h, ?_⟩
  · rw [← hW1, hrec, ← hlo]; exact run_enterLoop_outer _ _ _ _ _
  · simp only [resolve, hg]
    simp [go_sem]
  · intro f' hf'; trivial
  · simp [invoke, go_sem, eg]
  · refine callsIn_wide.2 ?_
    rw [hlo]
    have key := hseq (lo + 1)
      (fun k W => R k W ∧ Kept (fun j => j < lo ∧ j ∉ Own) w W ∧ W.heap[lo + 1]? = some (.loop (rec .ready none)) ∧ W.heap[lo]? = some (.deferred (some [])) ∧ lo + 2 ≤ W.heap.size)
      W1 (hok W1 hk1) ?_ ⟨hR 0 _ _ h0 ⟨hb1.os, hb1.tape, hb1.output, hb1.size, fun j hj _ => hb1.block j (by omega)⟩, hk1, hL1, hK1, by omega⟩
    · refine key.mono ?_
      rintro e W2' ⟨⟨v, rfl⟩, W2, ⟨hr, hb, hl, hk, hz⟩, hkeep⟩
      have hl' : W2'.heap[lo + 1]? = some (.loop (rec .ready none)) := (hkeep.block _ (by omega) trivial).trans hl
      have hk' : W2'.heap[lo]? = some (.deferred (some [])) := (hkeep.block _ (by omega) trivial).trans hk
      refine ⟨none, _, by have := run_endLoop (P := P) hl' (by rw [hrec]; simp); rw [hrec] at this; exact this, ?_⟩
      have keep : ∀ j, j ≠ lo + 1 → (W2'.putObj (lo + 1) (.loop { rec .ready none with state := .exhausted })).heap[j]? = W2'.heap[j]? := fun j hj => World.putObj_heap_other (by omega)
      have kk : Kept (fun j => j < lo ∨ lo + 2 ≤ j) W2 (W2'.putObj (lo + 1) (.loop { rec .ready none with state := .exhausted })) :=
        (hkeep.less (fun j _ _ => trivial)).trans (Kept.putObj _ _ _ _ (by omega))
      have hq := hdone _ (hR N _ _ hr kk) (hb.trans (kk.less fun j _ hj => .inl hj.1)) ((keep _ (by omega)).trans hk')
      rw [hrec] at hq
      exact hq
    · rintro k W W' hkN ⟨hr, hb, hl, hk, hz⟩ hkeep
      have hsz' := hkeep.size
      have hl' : W'.heap[lo + 1]? = some (.loop (rec .ready none)) := (hkeep.block _ (by omega) trivial).trans hl
      have hk' : W'.heap[lo]? = some (.deferred (some [])) := (hkeep.block _ (by omega) trivial).trans hk
      have hr' : R k W' := hR k _ _ hr (hkeep.less fun j _ _ => trivial)
      have hb' : Kept (fun j => j < lo ∧ j ∉ Own) w W' := hb.trans (hkeep.less fun j _ _ => trivial)
      have hy := run_yield (P := P) (args := enc k) hl' (by rw [hrec]; exact hps _)
      rw [hrec] at hy
      have hlt' : lo + 1 < W'.heap.size := by omega
      refine ⟨fn, _, assign, body, hy, roundIn_of_wpIn hfn (hassign _ k W' _ ⟨_, run_beginRound hl' (by rw [hrec]), ?_⟩)⟩
      obtain ⟨Wb, hWb⟩ : ∃ Wb, W'.putObj (lo + 1) (.loop { rec .ready none with state := .busy }) = Wb := ⟨_, rfl⟩
      have hl2 : Wb.heap[lo + 1]? = some (.loop { rec .ready none with state := .busy }) := by rw [← hWb]; exact World.putObj_heap_same hlt'
      have keepb : ∀ j, j ≠ lo + 1 → Wb.heap[j]? = W'.heap[j]? := fun j hj => by rw [← hWb]; exact World.putObj_heap_other (by omega)
      have hzb : Wb.heap.size = W'.heap.size := by rw [← hWb]; simp [World.putObj]
      have kb : Kept (fun j => j ≠ lo + 1) W' Wb := by rw [← hWb]; exact Kept.putObj _ _ _ _ (by simp)
      have hbb := hbody (lo + 1) k Wb hkN (by omega) (hR k _ _ hr' (kb.less fun j _ hj => by omega))
      rw [← hWb] at hbb hl2 keepb hzb kb
      refine wpIn_mono hbb ?_
      rw [hWb] at hl2 keepb hzb kb ⊢
      rintro e a3 W3 hp3
      cases e with
      | normal =>
        obtain ⟨hb3, hr3⟩ := hp3
        have hl3 : W3.heap[lo + 1]? = some (.loop { rec .ready none with state := .busy }) := (hb3.block _ (by omega) (.inr ⟨by omega, by omega⟩)).trans hl2
        have hk3 : W3.heap[lo]? = some (.deferred (some [])) := (hb3.block _ (by omega) (.inr ⟨by omega, by omega⟩)).trans ((keepb _ (by omega)).trans hk')
        have hend : (Instr.endRound (lo + 1) none).run P W3 = .ok (.bool true) (W3.putObj (lo + 1) (.loop (rec .ready none))) := by
          have := run_endRound (P := P) none hl3
          rw [hrec] at this ⊢
          exact this
        have hz3 := hb3.size
        have ke : Kept (fun j => j ≠ lo + 1) W3 (W3.putObj (lo + 1) (.loop (rec .ready none))) := Kept.putObj _ _ _ _ (by simp)
        have hfin : Kept (fun j => j < lo ∧ j ∉ Own) w (W3.putObj (lo + 1) (.loop (rec .ready none))) := ((hb'.trans (kb.less fun j _ hj => by omega)).trans (hb3.less fun j _ hj => .inl hj)).trans (ke.less fun j _ hj => by omega)
        exact ⟨_, _, hend, rfl, ⟨hR _ _ _ hr3 (ke.less fun j _ hj => by omega), hfin, World.putObj_heap_same (by omega), (World.putObj_heap_other (by omega)).trans hk3, by simp [World.putObj]; omega⟩, hok _ hfin⟩
      | ret => exact hp3.elim
      | exit id => exact hp3.elim
      | goto t => exact hp3.elim
      | panic ch => exact hp3.elim
      | outgrown => exact hp3.elim
end Go.Proofs.YtpbbpkflljcklaaDoor
