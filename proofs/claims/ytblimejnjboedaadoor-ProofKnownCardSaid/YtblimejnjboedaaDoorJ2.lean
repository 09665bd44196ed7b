/- What is kept of memory; what the body of a round over a function ends in. -/
import Derived.Test.YtblimejnjboedaaDoorProg
import Derived.RangeFuncNested
import Derived.RangeFuncBound
import Derived.RangeFuncCalls
import Derived.RangeFuncLeaves
import Derived.Shelf.Abstract
import Derived.Shelf.RegionOpen
import Derived.WalkKit
import Derived.OwnWalkIn
import Derived.TacticsInMore
import Derived.LoopNIn
import Derived.LoopIn
import Derived.Test.YtblimejnjboedaaDoorJ1
import Derived.Lib.Hide
import Derived.Handy
import Derived.Shelf.Small.Bits
import Derived.Shelf.Strconv.Itoa0
namespace Go.Proofs.YtblimejnjboedaaDoor
open Go.RowKit

/-- whatever lay in the blocks that S names lies as it lay -/
structure Kept (S : Nat → Prop) (w w' : World) : Prop where
  os : w'.os = w.os
  tape : w'.tape = w.tape
  output : w'.output = w.output
  size : w.heap.size ≤ w'.heap.size
  block : ∀ k, k < w.heap.size → S k → w'.heap[k]? = w.heap[k]?
theorem Kept.refl (S : Nat → Prop) (w : World) : Kept S w w := ⟨rfl, rfl, rfl, Nat.le_refl _, fun _ _ _ => rfl⟩
theorem Kept.trans {S : Nat → Prop} {w w1 w2 : World} (h : Kept S w w1) (k : Kept S w1 w2) : Kept S w w2 :=
  ⟨k.os.trans h.os, k.tape.trans h.tape, k.output.trans h.output, Nat.le_trans h.size k.size, fun j hj hS => (k.block j (Nat.lt_of_lt_of_le hj h.size) hS).trans (h.block j hj hS)⟩
theorem Kept.less {S T : Nat → Prop} {w w' : World} (h : Kept S w w') (hT : ∀ j, j < w.heap.size → T j → S j) : Kept T w w' := ⟨h.os, h.tape, h.output, h.size, fun j hj hS => h.block j hj (hT j hj hS)⟩
theorem Kept.of_below {S : Nat → Prop} {B : Nat} {w w' : World} (h : Below B w w') (hS : ∀ j, S j → j < B) : Kept S w w' := ⟨h.os, h.tape, h.output, h.size, fun j _ hj => h.block j (hS j hj)⟩
theorem Kept.below {S : Nat → Prop} {B : Nat} {w w' : World} (h : Kept S w w') (hB : B ≤ w.heap.size) (hS : ∀ j, j < B → S j) : Below B w w' := ⟨h.os, h.tape, h.output, h.size, fun j hj => h.block j (by omega) (hS j hj)⟩
theorem Kept.drew {S : Nat → Prop} {a w : World} (h : Kept S a w) : Kept S a w.drew := ⟨h.os, h.tape, h.output, h.size, h.block⟩
theorem Kept.grown {S : Nat → Prop} {a w w' : World} {row : Option Nat} (h : Kept S a w) (g : w.grownBy w' row) (hr : ∀ j, some j = row → j < a.heap.size → ¬ S j) : Kept S a w' :=
  ⟨g.os.trans h.os, g.tape.trans h.tape, g.output.trans h.output, Nat.le_trans h.size g.size, fun j hj hS => (g.block j (Nat.lt_of_lt_of_le hj h.size) fun e => hr j e hj hS).trans (h.block j hj hS)⟩
theorem Kept.alloc {S : Nat → Prop} {a w : World} (h : Kept S a w) (o : Obj) : Kept S a (w.alloc o) := h.grown (World.grownBy_alloc w o none) (fun _ e => by cases e)
theorem Kept.putObj (S : Nat → Prop) (w : World) (l : Nat) (o : Obj) (hl : ¬ S l) : Kept S w (w.putObj l o) :=
  ⟨rfl, rfl, rfl, by simp [World.putObj], fun j _ hS => World.putObj_heap_other (fun e => hl (e ▸ hS))⟩
theorem Kept.setCell {S : Nat → Prop} {a w : World} (h : Kept S a w) (b o : Nat) (v : Value) (hb : b < a.heap.size → ¬ S b) : Kept S a (w.setCell ⟨b, o, none⟩ v) :=
  ⟨h.os, h.tape, h.output, by rw [show (w.setCell ⟨b, o, none⟩ v).heap.size = w.heap.size from by simp [World.setCell]]; exact h.size, fun j hj hS => (Below.heap_setCell _ _ _ _ (show j ≠ b from fun e => by subst e; exact hb hj hS)).trans (h.block j hj hS)⟩
theorem Kept.to_grown {w w' : World} {b : Nat} (h : Kept (· ≠ b) w w') : w.grownBy w' (some b) := ⟨h.os, h.tape, h.output, h.size, fun j hj hne => h.block j hj fun e => hne (by rw [e])⟩
theorem Kept.of_grown {w w' : World} {b : Nat} (h : w.grownBy w' (some b)) : Kept (· ≠ b) w w' := ⟨h.os, h.tape, h.output, h.size, fun j hj hne => h.block j hj fun e => hne (Option.some.inj e)⟩

theorem calls_of_wp_marks {P : Program} {f : FuncId} {fn : Func} {c : Code} {args : Array Value} {w : World} {R : Ending → World → Prop}
    (hf : P.funcs[f]? = some fn) (hb : fn.body = some c) (h : c.wp P (bodyPostM Fence.wide 0 P fn R) { tmps := args ++ Array.replicate (fn.ntmps - args.size) undef, defers := [] } w) : Calls P f args w R :=
  (callsIn_wide (n := 0)).1 (callsIn_of_wp_marks hf hb trivial (wpIn_wide.2 h) rfl)

/-- what the body of a round ends in -/
def roundKept (S : Nat → Prop) (R : World → Prop) (W : World) : Exit → Act → World → Prop
  | .normal, _, W' => Kept S W W' ∧ R W'
  | _, _, _ => False

theorem own_kept {S : Nat → Prop} {base m : Nat} {e : TypeId} {v : Value} {xs : List Value} {w w' : World} (h : w.ownsRow base e 1 v m xs) (hk : Kept S w w') (hS : ∀ j, base ≤ j → S j) : w'.ownsRow base e 1 v m xs := by
  refine ⟨h.1, ?_⟩
  rcases h.2 with h | ⟨g, cap, cur, h0, h1, h2, h3⟩
  · exact .inl h
  · exact .inr ⟨g, cap, cur, h0, h1, (hk.block g (Array.getElem?_eq_some_iff.1 h2).1 (hS g h1)).trans h2, h3⟩
theorem step_append_in {F : Fence} {n : Nat} {P : Program} {ops : Array Oper} {o : Oper} {a : Act} {K : Act → World → Prop} {Q : Exit → Act → World → Prop} {E : Prop} {w w2 : World} {v u v2 : Value} (hgd : o.guard = none) (s x : Operand) (t : TypeId)
    (ho : o.op = .call { callee := .builtin .append, args := #[s, x], argTypes := #[t, t] }) (hs : a.eval s = v) (hx : a.eval x = u) (hrun : (Builtin.append_ #[t, t] o.type #[v, u]).run P w = .ok v2 w2)
    (h : K (a.put o.dst v2) w2) : if Region.wanted o (yielded ops a.tmps) = true then Oper.wpIn F n P o a w K Q else E := by
  have hw : Region.wanted o (yielded ops a.tmps) = true := by simp [Region.wanted, hgd]
  rw [if_pos hw]
  unfold Oper.wpIn
  refine ⟨?_, ?_⟩
  · simp [Oper.about, ho, resolve, Target.leads, Sem.run_pure]
  · rw [Oper.semAt_plain F _ _ (by rw [ho]; intro c hc'; cases hc')]
    simp [execOp, ho, resolve, invoke, builtin, hs, hx, hrun, Result.andThen]
    exact h
end Go.Proofs.YtblimejnjboedaaDoor
/- Ranges over a function whose iterator makes a block of its own, hands it over, and writes it between two rounds: what the caller owes, at the wide fence. -/
namespace Go.Proofs.YtblimejnjboedaaDoor
open Go.RowKit

/-- what is asked of an iterator that makes a block of its own, the next one, and hands it over N times: Pos m k: how the block m stands behind k rounds; it reads the blocks of Cap -/
def HandsOwn (P : Program) (gf : Nat) (lb : Array Value) (enc : Nat → Array Value) (Cap : List Nat) (Pos : Nat → Nat → World → Prop) (N : Nat) (ok : World → Prop) : Prop :=
  ∀ (l : Nat) (J : Nat → World → Prop) (W : World), ok W → (∀ j ∈ Cap, j < W.heap.size) →
    (∀ k W1 W', k < N → J k W1 → Kept (· ≠ W.heap.size) W1 W' → W.heap.size < W'.heap.size → Pos W.heap.size k W' → YieldAt Fence.wide 0 P l (enc W.heap.size) W' fun e W'' => e = .returned (.bool true) ∧ J (k + 1) W'' ∧ Kept (fun j => j ∈ Cap ∨ j = W.heap.size) W' W'') →
    J 0 W → Calls P gf (#[.func (.yield l) #[] #[]] ++ lb) W fun e W' => (∃ v, e = .returned v) ∧ ∃ W1, J N W1 ∧ Kept (· ≠ W.heap.size) W1 W'

theorem wp_rangeFunc_own {P : Program} {g : Operand} {ps : Array Tmp} {assign body : Code} {Q : Exit → Act → World → Prop} {a : Act} {w : World}
    {gf : Nat} {lb : Array Value} (hg : a.eval g = .func (.func gf) #[] lb) (eg : ∀ args w, (callFunc gf args).run P w = .ok (.enter gf args) w)
    {enc : Nat → Array Value} {Cap : List Nat} {Pos : Nat → Nat → World → Prop} {N : Nat} {ok : World → Prop} (hseq : HandsOwn P gf lb enc Cap Pos N ok) (hps : ∀ m, (enc m).size = ps.size)
    (lo : Nat) (hlo : w.heap.size = lo) (hok : ∀ W', Below lo w W' → ok W') (hcap : ∀ j ∈ Cap, j < lo)
    (Own : List Nat) (hown : ∀ j ∈ Own, j ∉ Cap)
    (hPos : ∀ k W W', Pos (lo + 2) k W → W'.heap[lo + 2]? = W.heap[lo + 2]? → Pos (lo + 2) k W')
    (R : Nat → World → Prop) (hR : ∀ k W W', R k W → Kept (fun j => j < lo ∨ lo + 3 ≤ j) W W' → R k W') (h0 : R 0 w) (a₁ : Nat → Act)
    (hassign : ∀ (l : Nat) (W : World) (K : Act → World → Prop), K (a₁ (lo + 2)) W →
      assign.wpIn (Fence.wide.inRound l) 0 P (Exit.then K (fun _ _ _ => False)) { tmps := (ps.zip (enc (lo + 2))).foldl (fun t (p, v) => t.setIfInBounds p v) a.tmps, defers := [] } W)
    (hbody : ∀ (l : Nat) (k : Nat) (W : World), k < N → lo + 3 ≤ W.heap.size → R k W → Pos (lo + 2) k W →
      body.wpIn (Fence.wide.inRound l) 0 P (roundKept (fun j => (j < lo ∧ j ∉ Own) ∨ (lo ≤ j ∧ j < lo + 3)) (R (k + 1)) W) (a₁ (lo + 2)) W)
    (hdone : ∀ (W : World), R N W → Kept (fun j => j < lo ∧ j ∉ Own) w W → W.heap[lo]? = some (.deferred (some [])) → Q .normal { a with defers := { target := .collected lo, args := #[] } :: a.defers } W) :
    (Code.rangeFunc g ps assign body).wp P Q a w := by
  refine (wpIn_wide (n := 0)).1 (wpIn_rangeFunc ?_)
  intro fn hfn
  obtain ⟨rec, hrec⟩ : ∃ rec : LoopState → Option Code → Loop, rec = fun st pe => { state := st, pending := pe, fn, tmps := a.tmps, params := ps, assign, body, defers := lo } := ⟨_, rfl⟩
  obtain ⟨W1, hW1⟩ : ∃ W1, (w.alloc (.deferred (some []))).alloc (.loop (rec .ready none)) = W1 := ⟨_, rfl⟩
  have hz1 : W1.heap.size = lo + 2 := by rw [← hW1]; simp [hlo]
  have hL1 : W1.heap[lo + 1]? = some (.loop (rec .ready none)) := by
    rw [← hW1]; have := World.alloc_heap_new (w.alloc (.deferred (some []))) (.loop (rec .ready none)); rwa [World.size_alloc, hlo] at this
  have hK1 : W1.heap[lo]? = some (.deferred (some [])) := by
    rw [← hW1]
    have := World.alloc_heap_new w (.deferred (some []))
    rw [hlo] at this
    exact (Below.heap_alloc _ _ _ (by simp; omega)).trans this
  have hb1 : Below lo w W1 := by
    rw [← hW1]
    have := Below.refl lo w
    exact (this.alloc (by omega) _).alloc (by simp; omega) _
  refine ⟨w.heap.size + 1, [{ target := .collected w.heap.size, args := #[] }], W1, { target := .fn (.func gf) lb, args := #[.func (.yield (w.heap.size + 1)) #[] #[]] }, W1, gf,
    #[.func (.yield (w.heap.size + 1)) #[] #[]] ++ lb, W1, ?_, ?_, ?_, ?_, fun h => by simp [Fence.wide] at h, ?_⟩
  · rw [← hW1, hrec, ← hlo]; exact run_enterLoop_outer _ _ _ _ _
  · simp only [resolve, hg]
    simp [go_sem]
  · intro f' hf'; trivial
  · simp [invoke, go_sem, eg]
  · refine callsIn_wide.2 ?_
    rw [hlo]
    have key := hseq (lo + 1)
      (fun k W => R k W ∧ Kept (fun j => j < lo ∧ j ∉ Own) w W ∧ W.heap[lo + 1]? = some (.loop (rec .ready none)) ∧ W.heap[lo]? = some (.deferred (some [])) ∧ lo + 2 ≤ W.heap.size)
      W1 (hok W1 hb1) (fun j hj => by have := hcap j hj; omega) ?_ ⟨hR 0 _ _ h0 ⟨hb1.os, hb1.tape, hb1.output, hb1.size, fun j hj _ => hb1.block j (by omega)⟩, Kept.of_below hb1 fun j hj => hj.1, hL1, hK1, by omega⟩
    · refine key.mono ?_
      rintro e W2' ⟨⟨v, rfl⟩, W2, ⟨hr, hb, hl, hk, hz⟩, hkeep⟩
      rw [hz1] at hkeep
      have hl' : W2'.heap[lo + 1]? = some (.loop (rec .ready none)) := (hkeep.block _ (by omega) (by omega)).trans hl
      have hk' : W2'.heap[lo]? = some (.deferred (some [])) := (hkeep.block _ (by omega) (by omega)).trans hk
      refine ⟨none, _, by have := run_endLoop (P := P) hl' (by rw [hrec]; simp); rw [hrec] at this; exact this, ?_⟩
      have keep : ∀ j, j ≠ lo + 1 → (W2'.putObj (lo + 1) (.loop { rec .ready none with state := .exhausted })).heap[j]? = W2'.heap[j]? := fun j hj => World.putObj_heap_other (by omega)
      have kk : Kept (fun j => j < lo ∨ lo + 3 ≤ j) W2 (W2'.putObj (lo + 1) (.loop { rec .ready none with state := .exhausted })) :=
        (hkeep.less (fun j _ hj => by omega)).trans (Kept.putObj _ _ _ _ (by omega))
      have hq := hdone _ (hR N _ _ hr kk) (hb.trans (kk.less fun j _ hj => .inl hj.1)) ((keep _ (by omega)).trans hk')
      rw [hrec] at hq
      exact hq
    · rw [hz1]
      rintro k W W' hkN ⟨hr, hb, hl, hk, hz⟩ hbut hsz' hp'
      have hl' : W'.heap[lo + 1]? = some (.loop (rec .ready none)) := (hbut.block _ (by omega) (by omega)).trans hl
      have hk' : W'.heap[lo]? = some (.deferred (some [])) := (hbut.block _ (by omega) (by omega)).trans hk
      have hr' : R k W' := hR k _ _ hr (hbut.less fun j _ hj => by omega)
      have hb' : Kept (fun j => j < lo ∧ j ∉ Own) w W' := hb.trans (hbut.less fun j _ hj => by omega)
      have hy := run_yield (P := P) (args := enc (lo + 2)) hl' (by rw [hrec]; exact hps _)
      rw [hrec] at hy
      have hlt' : lo + 1 < W'.heap.size := by omega
      refine ⟨fn, _, assign, body, hy, roundIn_of_wpIn hfn (hassign _ W' _ ⟨_, run_beginRound hl' (by rw [hrec]), ?_⟩)⟩
      obtain ⟨Wb, hWb⟩ : ∃ Wb, W'.putObj (lo + 1) (.loop { rec .ready none with state := .busy }) = Wb := ⟨_, rfl⟩
      have hl2 : Wb.heap[lo + 1]? = some (.loop { rec .ready none with state := .busy }) := by rw [← hWb]; exact World.putObj_heap_same hlt'
      have keepb : ∀ j, j ≠ lo + 1 → Wb.heap[j]? = W'.heap[j]? := fun j hj => by rw [← hWb]; exact World.putObj_heap_other (by omega)
      have hzb : Wb.heap.size = W'.heap.size := by rw [← hWb]; simp [World.putObj]
      have kb : Kept (fun j => j ≠ lo + 1) W' Wb := by rw [← hWb]; exact Kept.putObj _ _ _ _ (by simp)
      have hbb := hbody (lo + 1) k Wb hkN (by omega) (hR k _ _ hr' (kb.less fun j _ hj => by omega)) (hPos k _ _ hp' (keepb _ (by omega)))
      rw [← hWb] at hbb hl2 keepb hzb kb
      refine wpIn_mono hbb ?_
      rw [hWb] at hl2 keepb hzb kb ⊢
      rintro e a3 W3 hp3
      cases e with
      | normal =>
        obtain ⟨hb3, hr3⟩ := hp3
        have hl3 : W3.heap[lo + 1]? = some (.loop { rec .ready none with state := .busy }) := (hb3.block _ (by omega) (.inr ⟨by omega, by omega⟩)).trans hl2
        have hk3 : W3.heap[lo]? = some (.deferred (some [])) := (hb3.block _ (by omega) (.inr ⟨by omega, by omega⟩)).trans ((keepb _ (by omega)).trans hk')
        have hend : (Instr.endRound (lo + 1) none).run P W3 = .ok (.bool true) (W3.putObj (lo + 1) (.loop (rec .ready none))) := by
          have := run_endRound (P := P) none hl3
          rw [hrec] at this ⊢
          exact this
        have hz3 := hb3.size
        have ke : Kept (fun j => j ≠ lo + 1) W3 (W3.putObj (lo + 1) (.loop (rec .ready none))) := Kept.putObj _ _ _ _ (by simp)
        refine ⟨_, _, hend, rfl, ⟨hR _ _ _ hr3 (ke.less fun j _ hj => by omega), ?_, World.putObj_heap_same (by omega), (World.putObj_heap_other (by omega)).trans hk3, by simp [World.putObj]; omega⟩, ?_⟩
        · exact ((hb'.trans (kb.less fun j _ hj => by omega)).trans (hb3.less fun j _ hj => .inl hj)).trans (ke.less fun j _ hj => by omega)
        · refine ((kb.less fun j _ hj => ?_).trans (hb3.less fun j _ hj => ?_)).trans (ke.less fun j _ hj => ?_)
          · rcases hj with hj | hj
            · have := hcap j hj; omega
            · omega
          · rcases hj with hj | hj
            · exact .inl ⟨hcap j hj, fun h => hown j h hj⟩
            · exact .inr ⟨by omega, by omega⟩
          · rcases hj with hj | hj
            · have := hcap j hj; omega
            · omega
      | ret => exact hp3.elim
      | exit id => exact hp3.elim
      | goto t => exact hp3.elim
      | panic ch => exact hp3.elim
      | outgrown => exact hp3.elim
end Go.Proofs.YtblimejnjboedaaDoor
/- Layout: parents, what stands, turned bits, leaves, elements, the depth (what the tree asks). -/
namespace Go.Proofs
open Go.Shelf
def Tryd.lays129_ren : Go.Shelf.Ren := ⟨fun | 129 => 57 | n => n, fun | 53 => 33 | 3 => 3 | 4 => 4 | 46 => 61 | 5 => 5 | 9 => 9 | n => n, fun | n => n⟩
theorem Tryd.lays129 : Go.Proofs.Lays.n129 Tryd.prog Tryd.lays129_ren := {
  mixed := by kernel_rfl
  f129 := Tryd.func57.trans (congrArg some (by kernel_rfl))
  t3 := Tryd.underlying3
  a3 := Tryd.isAgg3
  z3 := Tryd.sizeOf3
  v3 := Tryd.zeroValue3
  t4 := Tryd.underlying4
  a4 := Tryd.isAgg4
  z4 := Tryd.sizeOf4
  v4 := Tryd.zeroValue4
  t5 := Tryd.underlying5
  a5 := Tryd.isAgg5
  z5 := Tryd.sizeOf5
  v5 := Tryd.zeroValue5
  t9 := Tryd.underlying9
  a9 := Tryd.isAgg9
  z9 := Tryd.sizeOf9
  v9 := Tryd.zeroValue9
  t46 := Tryd.underlying61
  a46 := Tryd.isAgg61
  z46 := Tryd.sizeOf61
  v46 := Tryd.zeroValue61
  t53 := Tryd.underlying33
  a53 := Tryd.isAgg33
  z53 := Tryd.sizeOf33
  v53 := Tryd.zeroValue33 }
theorem Tryd.bits_Len64 (x : Int) (w : World) (h0 : 0 ≤ x) (h1 : x ≤ 18446744073709551615) :
    Calls Tryd.prog 57 #[.int .u64 x] w fun e w' => e = .returned (.int .i64 (Lib.bitLen x.toNat)) ∧ w' = w := Any.bits_Len64 Tryd.lays129 x w h0 h1
end Go.Proofs
namespace Go.Proofs.YtblimejnjboedaaDoor
open Go.RowKit

theorem parent_any (k : Nat) (hk : k < 18446744073709551616) (w : World) : Calls Tryd.prog 67 #[.int .u64 (k : Int)] w fun e w' => e = .returned (.int .u64 ((k / 2 : Nat) : Int)) ∧ w = w' := by
  go_enter Tryd.func67, Tryd.ntmps67
  go_wp2
  go_ret
  refine ⟨?_, rfl⟩
  congr 2
/-- does a number stand on the lowest level of this depth? -/
def standsB (k : Nat) (d : Int) : Bool := decide (0 ≤ d) && (decide (d ≤ 16) && decide (k < 2 ^ d.toNat))
theorem stands_any (k : Nat) (d : Int) (w : World) : Calls Tryd.prog 35 #[.int .u64 (k : Int), .int .i64 d] w fun e w' => e = .returned (.bool (standsB k d)) ∧ w = w' := by
  by_cases h0 : 0 ≤ d
  · by_cases h1 : d ≤ 16
    · obtain ⟨n, rfl⟩ : ∃ n : Nat, d = (n : Int) := ⟨d.toNat, by omega⟩
      have hp : 2 ^ n ≤ 2 ^ 16 := Nat.pow_le_pow_right (by decide) (by omega)
      have hc : ((2 : Int) ^ n) = ((2 ^ n : Nat) : Int) := by simp
      have hP : standsB k (n : Int) = decide ((k : Int) < (2 : Int) ^ n) := by
        have : ((k : Int) < ((2 ^ n : Nat) : Int)) ↔ k < 2 ^ n := Int.ofNat_lt
        rw [hc]
        simp only [this]
        simp [standsB, h1]
      have hw : IntKind.u64.wrap ((2 : Int) ^ n) = (2 : Int) ^ n := by
        rw [IntKind.wrap_u64, hc]
        generalize 2 ^ n = p at hp ⊢
        omega
      rw [hP]
      clear hc hP hp
      go_enter Tryd.func35, Tryd.ntmps35
      go_wp2
      go_ret
      exact ⟨rfl, rfl⟩
    · have hP : standsB k d = false := by simp [standsB, h1]
      rw [hP]
      go_enter Tryd.func35, Tryd.ntmps35
      go_wp2
      go_ret
      exact ⟨rfl, rfl⟩
  · have hP : standsB k d = false := by simp [standsB, h0]
    rw [hP]
    go_enter Tryd.func35, Tryd.ntmps35
    go_wp2
    go_ret
    exact ⟨rfl, rfl⟩

theorem swap_val (s m : Nat) (c : Int) (hm : m < 18446744073709551616) (hc : c = ((2 ^ s : Nat) : Int)) (x : Nat) (hx : x < 18446744073709551616) :
    bits .or .u64 (bits .and .u64 ((x : Int) / c) (m : Int)) (IntKind.u64.wrap (bits .and .u64 (x : Int) (m : Int) * c)) = ((swap s m x : Nat) : Int) := by
  have h0 : x / 2 ^ s < 18446744073709551616 := Nat.lt_of_le_of_lt (Nat.div_le_self _ _) hx
  subst hc
  rw [← Int.natCast_ediv, u64_and_nat _ _ h0 hm, u64_and_nat _ _ hx hm, IntKind.wrap_u64, ← Int.natCast_mul, show (18446744073709551616 : Int) = ((18446744073709551616 : Nat) : Int) from rfl, ← Int.natCast_emod,
    u64_or_nat _ _ (Nat.lt_of_le_of_lt Nat.and_le_right hm) (Nat.mod_lt _ (by decide))]
  rfl
theorem swap_top (x : Nat) (hx : x < 18446744073709551616) : bits .or .u64 ((x : Int) / 4294967296) (IntKind.u64.wrap ((x : Int) * 4294967296)) = ((swap 32 4294967295 x : Nat) : Int) := by
  have h0 : x / 4294967296 < 18446744073709551616 := Nat.lt_of_le_of_lt (Nat.div_le_self _ _) hx
  rw [show (4294967296 : Int) = ((4294967296 : Nat) : Int) from rfl, ← Int.natCast_ediv, IntKind.wrap_u64, ← Int.natCast_mul, show (18446744073709551616 : Int) = ((18446744073709551616 : Nat) : Int) from rfl, ← Int.natCast_emod,
    u64_or_nat _ _ h0 (Nat.mod_lt _ (by decide))]
  congr 1
  rw [swap, show (4294967295 : Nat) = 2 ^ 32 - 1 from rfl, Nat.and_two_pow_sub_one_eq_mod, Nat.and_two_pow_sub_one_eq_mod, show (2 : Nat) ^ 32 = 4294967296 from rfl]
  have e1 : x / 4294967296 % 4294967296 = x / 4294967296 := by omega
  have e2 : x % 4294967296 * 4294967296 % 18446744073709551616 = x * 4294967296 % 18446744073709551616 := by omega
  rw [e1, e2]
theorem revB_any (x : Nat) (hx : x < 18446744073709551616) (w : World) : Calls Tryd.prog 84 #[.int .u64 (x : Int)] w fun e w' => e = .returned (.int .u64 ((swap 32 4294967295 (swap 16 281470681808895 (swap 8 71777214294589695 x)) : Nat) : Int)) ∧ w = w' := by
  have h8 := swap_val 8 71777214294589695 256 (by decide) rfl x hx
  have h16 := swap_val 16 281470681808895 65536 (by decide) rfl (swap 8 71777214294589695 x) (swap_lt (by decide))
  have h32 := swap_top (swap 16 281470681808895 (swap 8 71777214294589695 x)) (swap_lt (by decide))
  have H8 := Lib.hid h8
  have H16 := Lib.hid h16
  have H32 := Lib.hid h32
  clear h8 h16 h32
  go_enter Tryd.func84, Tryd.ntmps84
  go_wp2
  go_ret
  refine ⟨?_, rfl⟩
  have e8 := H8.out
  have e16 := H16.out
  have e32 := H32.out
  rw [← e32, ← e16, ← e8]
  rfl
theorem rev_any (x : Nat) (hx : x < 18446744073709551616) (w : World) : Calls Tryd.prog 76 #[.int .u64 (x : Int)] w fun e w' => e = .returned (.int .u64 ((flip64 x : Nat) : Int)) ∧ w = w' := by
  have H1 := Lib.hid (swap_val 1 6148914691236517205 2 (by decide) rfl x hx)
  obtain ⟨x1, hx1⟩ : ∃ x1, swap 1 6148914691236517205 x = x1 := ⟨_, rfl⟩
  have l1 : x1 < 18446744073709551616 := by rw [← hx1]; exact swap_lt (by decide)
  have H2 := Lib.hid (swap_val 2 3689348814741910323 4 (by decide) rfl x1 l1)
  obtain ⟨x2, hx2⟩ : ∃ x2, swap 2 3689348814741910323 x1 = x2 := ⟨_, rfl⟩
  have l2 : x2 < 18446744073709551616 := by rw [← hx2]; exact swap_lt (by decide)
  have H4 := Lib.hid (swap_val 4 1085102592571150095 16 (by decide) rfl x2 l2)
  obtain ⟨x4, hx4⟩ : ∃ x4, swap 4 1085102592571150095 x2 = x4 := ⟨_, rfl⟩
  have l4 : x4 < 18446744073709551616 := by rw [← hx4]; exact swap_lt (by decide)
  have hf : flip64 x = swap 32 4294967295 (swap 16 281470681808895 (swap 8 71777214294589695 x4)) := by rw [flip64, hx1, hx2, hx4]
  rw [hf]
  rw [hx1] at H1
  rw [hx2] at H2
  rw [hx4] at H4
  have HC := Lib.hid (show ∀ (z : Int) (w : World), z = (x4 : Int) → Calls Tryd.prog 84 #[.int .u64 z] w fun e w' => e = .returned (.int .u64 ((swap 32 4294967295 (swap 16 281470681808895 (swap 8 71777214294589695 x4)) : Nat) : Int)) ∧ w = w' from fun z w hz => by rw [hz]; exact revB_any x4 l4 w)
  clear hf hx1 hx2 hx4
  go_enter Tryd.func76, Tryd.ntmps76
  go_wp2_with (go_at_call 84; refine (HC.out _ _ (by rw [← H4.out, ← H2.out, ← H1.out]; rfl)).mono ?_; rintro e w' ⟨rfl, rfl⟩)
  go_ret
  exact ⟨rfl, rfl⟩
theorem shr_val (d : Nat) (hd : d ≤ 16) (k : Nat) : ((flip64 k : Nat) : Int) / (2 : Int) ^ (64 - d) = ((turn d 0 k : Nat) : Int) := by
  rw [← flip_turn (by omega), Int.natCast_ediv]
  simp
/-- a number turned by d bits, if it stands -/
def turnB (k : Nat) (d : Int) : Nat := if standsB k d = true then turn d.toNat 0 k else 0
theorem yturned_any (k : Nat) (hk : k < 18446744073709551616) (d : Int) (w : World) : Calls Tryd.prog 58 #[.int .u64 (k : Int), .int .i64 d] w fun e w' => e = .returned (.int .u64 (turnB k d : Int)) ∧ w = w' := by
  have HS := Lib.hid (stands_any k d w)
  have HR := Lib.hid (rev_any k hk w)
  by_cases hs : standsB k d = true
  · have hd : 0 ≤ d ∧ d ≤ 16 := by simp [standsB] at hs; omega
    obtain ⟨n, rfl⟩ : ∃ n : Nat, d = (n : Int) := ⟨d.toNat, by omega⟩
    have HV := Lib.hid (shr_val n (by omega) k)
    have hT : turnB k (n : Int) = turn n 0 k := by simp [turnB, hs]
    rw [hT]
    rw [hs] at HS
    clear hT hs
    have hlt := flip64_lt k
    generalize flip64 k = f at *
    go_enter Tryd.func58, Tryd.ntmps58
    go_wp2_with (first | (go_at_call 35; refine HS.out.mono ?_; rintro e w' ⟨rfl, rfl⟩) | (go_at_call 76; refine HR.out.mono ?_; rintro e w' ⟨rfl, rfl⟩))
    go_ret
    exact ⟨by rw [← HV.out]; rfl, rfl⟩
  · have hT : turnB k d = 0 := by simp [turnB, hs]
    rw [Bool.not_eq_true] at hs
    rw [hT]
    rw [hs] at HS
    clear hT hs
    go_enter Tryd.func58, Tryd.ntmps58
    go_wp2_with (first | (go_at_call 35; refine HS.out.mono ?_; rintro e w' ⟨rfl, rfl⟩))
    go_ret
    exact ⟨rfl, rfl⟩
theorem leaf_any (k : Nat) (hk : k < 18446744073709551616) (d : Int) (w : World) : Calls Tryd.prog 33 #[.int .u64 (k : Int), .int .i64 d] w fun e w' => e = .returned (.int .u64 (turnB k d : Int)) ∧ w = w' := by
  have HC := Lib.hid (yturned_any k hk d w)
  go_enter Tryd.func33, Tryd.ntmps33
  go_wp2_with (go_at_call 58; refine HC.out.mono ?_; rintro e w' ⟨rfl, rfl⟩)
  go_ret
  exact ⟨rfl, rfl⟩

theorem ylen_any (x : Nat) (hx : x < 18446744073709551616) (w : World) : Calls Tryd.prog 31 #[.int .u64 (x : Int)] w fun e w' => e = .returned (.int .i64 (Lib.bitLen x : Int)) ∧ w = w' := by
  have HC := Lib.hid (Tryd.bits_Len64 (x : Int) w (by omega) (by omega))
  go_enter Tryd.func31, Tryd.ntmps31
  go_wp2_with (go_at_call 57; refine HC.out.mono ?_; rintro e w' ⟨rfl, rfl⟩)
  go_ret
  exact ⟨by simp, rfl⟩

/-- the depth of a list of n -/
def dep (n : Nat) : Nat := Lib.bitLen (max n 1 - 1)
def depthV (n : Int) : Int := if n < 0 ∨ 65536 < n then -1 else (dep n.toNat : Int)
theorem depth_any (n : Int) (hn : -9223372036854775808 ≤ n ∧ n ≤ 9223372036854775807) (w : World) : Calls Tryd.prog 13 #[.int .i64 n] w fun e w' => e = .returned (.int .i64 (depthV n)) ∧ w = w' := by
  by_cases h1 : n < 0
  · have hd : depthV n = -1 := if_pos (.inl h1)
    rw [hd]
    clear hd
    go_enter Tryd.func13, Tryd.ntmps13
    go_wp2
    go_ret
    exact ⟨rfl, rfl⟩
  · by_cases h2 : 65536 < n
    · have hd : depthV n = -1 := if_pos (.inr h2)
      rw [hd]
      clear hd
      go_enter Tryd.func13, Tryd.ntmps13
      go_wp2
      go_ret
      exact ⟨rfl, rfl⟩
    · obtain ⟨m, rfl⟩ : ∃ m : Nat, n = (m : Int) := ⟨n.toNat, by omega⟩
      have hd : depthV (m : Int) = (dep m : Int) := by rw [depthV, if_neg (by omega)]; rfl
      obtain ⟨x, hx⟩ : ∃ x, max m 1 - 1 = x := ⟨_, rfl⟩
      have HC := Lib.hid (ylen_any x (by omega) w)
      rw [hd, dep, hx]
      have hmax : max (m : Int) 1 - 1 = (x : Int) := by omega
      clear hd hx
      generalize Lib.bitLen x = y at *
      go_enter Tryd.func13, Tryd.ntmps13
      go_wp2_with (go_at_call 31; refine HC.out.mono ?_; rintro e w2 ⟨rfl, rfl⟩)
      go_ret
      exact ⟨rfl, rfl⟩
end Go.Proofs.YtblimejnjboedaaDoor
