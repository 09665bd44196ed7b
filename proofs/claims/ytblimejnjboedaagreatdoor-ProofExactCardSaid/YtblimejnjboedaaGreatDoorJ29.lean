/- Ranges over a function whose iterator makes some blocks of its own ahead of the first round, and reads them then: what the caller owes, at the wide fence. -/
import Derived.Test.YtblimejnjboedaaGreatDoorJ2
import Derived.Test.YtblimejnjboedaaGreatDoorJ18
import Derived.Test.YtblimejnjboedaaGreatDoorJ1
import Derived.Test.YtblimejnjboedaaGreatDoorJ10
import Derived.Laws.MakeOwn
import Derived.Deep.Cut
import Derived.Deep.RegionHeld3
import Derived.Test.YtblimejnjboedaaGreatDoorJ19
namespace Go.Proofs.YtblimejnjboedaaGreatDoor
open Go.RowKit

/-- what is asked of an iterator that makes the blocks up to 'mid' ahead of its first round, writes nothing, and hands over enc 0 .. enc (N - 1) -/
def HandsMid (P : Program) (gf : Nat) (lb : Array Value) (enc : Nat → Array Value) (N : Nat) (ok : World → Prop) : Prop :=
  ∀ (l : Nat) (J : Nat → Nat → World → Prop) (W : World), ok W →
    (∀ mid k W1 W', W.heap.size ≤ mid → mid ≤ W'.heap.size → k < N → J mid k W1 → Kept (fun _ => True) W1 W' →
      YieldAt Fence.wide 0 P l (enc k) W' fun e W'' => e = .returned (.bool true) ∧ J mid (k + 1) W'' ∧ Kept (fun j => W.heap.size ≤ j ∧ j < mid) W' W'') →
    (∀ mid, J mid 0 W) → Calls P gf (#[.func (.yield l) #[] #[]] ++ lb) W fun e W' => (∃ v, e = .returned v) ∧ ∃ mid W1, W.heap.size ≤ mid ∧ J mid N W1 ∧ Kept (fun _ => True) W1 W'

theorem wp_rangeFunc_mid {P : Program} {g : Operand} {ps : Array Tmp} {assign body : Code} {Q : Exit → Act → World → Prop} {a : Act} {w : World}
    {gf : Nat} {lb : Array Value} (hg : a.eval g = .func (.func gf) #[] lb) (eg : ∀ args w, (callFunc gf args).run P w = .ok (.enter gf args) w)
    {enc : Nat → Array Value} {N : Nat} {ok : World → Prop} (hseq : HandsMid P gf lb enc N ok) (hps : ∀ k, (enc k).size = ps.size)
    (lo : Nat) (hlo : w.heap.size = lo) (Own : List Nat) (hok : ∀ W', Kept (fun j => j < lo ∧ j ∉ Own) w W' → ok W')
    (R : Nat → Nat → World → Prop) (hR : ∀ m k W W', R m k W → Kept (fun j => j < lo ∨ lo + 2 ≤ j) W W' → R m k W') (h0 : ∀ m, R m 0 w) (a₁ : Nat → Act)
    (hassign : ∀ (l k : Nat) (W : World) (K : Act → World → Prop), K (a₁ k) W →
      assign.wpIn (Fence.wide.inRound l) 0 P (Exit.then K (fun _ _ _ => False)) { tmps := (ps.zip (enc k)).foldl (fun t (p, v) => t.setIfInBounds p v) a.tmps, defers := [] } W)
    (hbody : ∀ (l : Nat) (mid k : Nat) (W : World), lo + 2 ≤ mid → mid ≤ W.heap.size → k < N → R mid k W →
      body.wpIn (Fence.wide.inRound l) 0 P (roundKept (fun j => (j < lo ∧ j ∉ Own) ∨ (lo ≤ j ∧ j < mid)) (R mid (k + 1)) W) (a₁ k) W)
    (hdone : ∀ (m : Nat) (W : World), lo + 2 ≤ m → R m N W → Kept (fun j => j < lo ∧ j ∉ Own) w W → W.heap[lo]? = some (.deferred (some [])) → Q .normal { a with defers := { target := .collected lo, args := #[] } :: a.defers } W) :
    (Code.rangeFunc g ps assign body).wp P Q a w := by
  refine (wpIn_wide (n := 0)).1 (wpIn_rangeFunc ?_)
  intro fn hfn
  obtain ⟨rec, hrec⟩ : ∃ rec : LoopState → Option Code → Loop, rec = fun st pe => { state := st, pending := pe, fn, tmps := a.tmps, params := ps, assign, body, defers := lo } := ⟨_, rfl⟩
  obtain ⟨W1, hW1⟩ : ∃ W1, (w.alloc (.deferred (some []))).alloc (.loop (rec .ready none)) = W1 := ⟨_, rfl⟩
  have hz1 : W1.heap.size = lo + 2 := by rw [← hW1]; simp [hlo]
  have hL1 : W1.heap[lo + 1]? = some (.loop (rec .ready none)) := by
    rw [← hW1]; have := World.alloc_heap_new (w.alloc (.deferred (some []))) (.loop (rec .ready none)); rwa [World.size_alloc, hlo] at this
  have hK1 : W1.heap[lo]? = some (.deferred (some [])) := by
    rw [← hW1]
    have := World.alloc_heap_new w (.deferred (some []))
    rw [hlo] at this
    exact (Below.heap_alloc _ _ _ (by simp; omega)).trans this
  have hb1 : Below lo w W1 := by
    rw [← hW1]
    have := Below.refl lo w
    exact (this.alloc (by omega) _).alloc (by simp; omega) _
  have hk1 : Kept (fun j => j < lo ∧ j ∉ Own) w W1 := Kept.of_below hb1 fun j hj => hj.1
  refine ⟨w.heap.size + 1, [{ target := .collected w.heap.size, args := #[] }], W1, { target := .fn (.func gf) lb, args := #[.func (.yield (w.heap.size + 1)) #[] #[]] }, W1, gf,
    #[.func (.yield (w.heap.size + 1)) #[] #[]] ++ lb, W1, ?_, ?_, ?_, ?_, fun h => by simp [Fence.wide] at h, ?_⟩
  · rw [← hW1, hrec, ← hlo]; exact run_enterLoop_outer _ _ _ _ _
  · simp only [resolve, hg]
    simp [go_sem]
  · intro f' hf'; trivial
  · simp [invoke, go_sem, eg]
  · refine callsIn_wide.2 ?_
    rw [hlo]
    have key := hseq (lo + 1)
      (fun m k W => R m k W ∧ Kept (fun j => j < lo ∧ j ∉ Own) w W ∧ W.heap[lo + 1]? = some (.loop (rec .ready none)) ∧ W.heap[lo]? = some (.deferred (some [])) ∧ lo + 2 ≤ W.heap.size)
      W1 (hok W1 hk1) ?_ (fun m => ⟨hR m 0 _ _ (h0 m) ⟨hb1.os, hb1.tape, hb1.output, hb1.size, fun j hj _ => hb1.block j (by omega)⟩, hk1, hL1, hK1, by omega⟩)
    · refine key.mono ?_
      rintro e W2' ⟨⟨v, rfl⟩, m, W2, hm, ⟨hr, hb, hl, hk, hz⟩, hkeep⟩
      rw [hz1] at hm
      have hl' : W2'.heap[lo + 1]? = some (.loop (rec .ready none)) := (hkeep.block _ (by omega) trivial).trans hl
      have hk' : W2'.heap[lo]? = some (.deferred (some [])) := (hkeep.block _ (by omega) trivial).trans hk
      refine ⟨none, _, by have := run_endLoop (P := P) hl' (by rw [hrec]; simp); rw [hrec] at this; exact this, ?_⟩
      have keep : ∀ j, j ≠ lo + 1 → (W2'.putObj (lo + 1) (.loop { rec .ready none with state := .exhausted })).heap[j]? = W2'.heap[j]? := fun j hj => World.putObj_heap_other (by omega)
      have kk : Kept (fun j => j < lo ∨ lo + 2 ≤ j) W2 (W2'.putObj (lo + 1) (.loop { rec .ready none with state := .exhausted })) :=
        (hkeep.less (fun j _ _ => trivial)).trans (Kept.putObj _ _ _ _ (by omega))
      have hq := hdone m _ hm (hR m N _ _ hr kk) (hb.trans (kk.less fun j _ hj => .inl hj.1)) ((keep _ (by omega)).trans hk')
      rw [hrec] at hq
      exact hq
    · rintro m k W W' hm1 hm2 hkN ⟨hr, hb, hl, hk, hz⟩ hkeep
      rw [hz1] at hm1
      have hsz' := hkeep.size
      have hl' : W'.heap[lo + 1]? = some (.loop (rec .ready none)) := (hkeep.block _ (by omega) trivial).trans hl
      have hk' : W'.heap[lo]? = some (.deferred (some [])) := (hkeep.block _ (by omega) trivial).trans hk
      have hr' : R m k W' := hR m k _ _ hr (hkeep.less fun j _ _ => trivial)
      have hb' : Kept (fun j => j < lo ∧ j ∉ Own) w W' := hb.trans (hkeep.less fun j _ _ => trivial)
      have hy := run_yield (P := P) (args := enc k) hl' (by rw [hrec]; exact hps _)
      rw [hrec] at hy
      have hlt' : lo + 1 < W'.heap.size := by omega
      refine ⟨fn, _, assign, body, hy, roundIn_of_wpIn hfn (hassign _ k W' _ ⟨_, run_beginRound hl' (by rw [hrec]), ?_⟩)⟩
      obtain ⟨Wb, hWb⟩ : ∃ Wb, W'.putObj (lo + 1) (.loop { rec .ready none with state := .busy }) = Wb := ⟨_, rfl⟩
      have hl2 : Wb.heap[lo + 1]? = some (.loop { rec .ready none with state := .busy }) := by rw [← hWb]; exact World.putObj_heap_same hlt'
      have keepb : ∀ j, j ≠ lo + 1 → Wb.heap[j]? = W'.heap[j]? := fun j hj => by rw [← hWb]; exact World.putObj_heap_other (by omega)
      have hzb : Wb.heap.size = W'.heap.size := by rw [← hWb]; simp [World.putObj]
      have kb : Kept (fun j => j ≠ lo + 1) W' Wb := by rw [← hWb]; exact Kept.putObj _ _ _ _ (by simp)
      have hbb := hbody (lo + 1) m k Wb hm1 (by omega) hkN (hR m k _ _ hr' (kb.less fun j _ hj => by omega))
      rw [← hWb] at hbb hl2 keepb hzb kb
      refine wpIn_mono hbb ?_
      rw [hWb] at hl2 keepb hzb kb ⊢
      rintro e a3 W3 hp3
      cases e with
      | normal =>
        obtain ⟨hb3, hr3⟩ := hp3
        have hl3 : W3.heap[lo + 1]? = some (.loop { rec .ready none with state := .busy }) := (hb3.block _ (by omega) (.inr ⟨by omega, by omega⟩)).trans hl2
        have hk3 : W3.heap[lo]? = some (.deferred (some [])) := (hb3.block _ (by omega) (.inr ⟨by omega, by omega⟩)).trans ((keepb _ (by omega)).trans hk')
        have hend : (Instr.endRound (lo + 1) none).run P W3 = .ok (.bool true) (W3.putObj (lo + 1) (.loop (rec .ready none))) := by
          have := run_endRound (P := P) none hl3
          rw [hrec] at this ⊢
          exact this
        have hz3 := hb3.size
        have ke : Kept (fun j => j ≠ lo + 1) W3 (W3.putObj (lo + 1) (.loop (rec .ready none))) := Kept.putObj _ _ _ _ (by simp)
        have hfin : Kept (fun j => j < lo ∧ j ∉ Own) w (W3.putObj (lo + 1) (.loop (rec .ready none))) := ((hb'.trans (kb.less fun j _ hj => by omega)).trans (hb3.less fun j _ hj => .inl hj)).trans (ke.less fun j _ hj => by omega)
        have hall : Kept (fun j => lo + 2 ≤ j ∧ j < m) W' (W3.putObj (lo + 1) (.loop (rec .ready none))) := ((kb.less fun j _ hj => by omega).trans (hb3.less fun j _ hj => .inr ⟨by omega, hj.2⟩)).trans (ke.less fun j _ hj => by omega)
        exact ⟨_, _, hend, rfl, ⟨hR _ _ _ _ hr3 (ke.less fun j _ hj => by omega), hfin, World.putObj_heap_same (by omega), (World.putObj_heap_other (by omega)).trans hk3, by simp [World.putObj]; omega⟩, by rw [hz1]; exact hall⟩
      | ret => exact hp3.elim
      | exit id => exact hp3.elim
      | goto t => exact hp3.elim
      | panic ch => exact hp3.elim
      | outgrown => exact hp3.elim
end Go.Proofs.YtblimejnjboedaaGreatDoor
/- Layer 10: do positions stand, and their leaves. -/
namespace Go.Proofs.YtblimejnjboedaaGreatDoor
open Go.RowKit Go.Sort

theorem rises_any (ao : Option Addr) (cap : Nat) (P : List Nat) (w : World) (hN : Nums ao P w) (hn : P.length ≤ 100000) :
    Calls Tryz.prog 57 #[.slice ao P.length cap] w fun e w' => e = .returned (.bool (decide (P.Pairwise (· < ·)))) ∧ Below w.heap.size w w' := by
  have HN := Lib.hid hN
  have n1 : (P.length : Int) ≤ 100000 := by omega
  clear hN
  go_enter Tryz.func57, Tryz.ntmps57
  go_wp2
  go_loopw [3] (fun vi wr => ∃ i : Nat, vi = .int .i64 (i : Int) ∧ 1 ≤ i ∧ i ≤ 100001 ∧ Hid (Below w.heap.size w wr) ∧ Hid (∀ t (h : t + 1 < P.length), t + 1 < i → P[t] < P[t + 1])) (fun vi _ => 100002 - (intOf vi).toNat)
  case atStart => exact ⟨1, rfl, Nat.le_refl _, by omega, Lib.hid (Below.refl _ _), Lib.hid (fun t _ h => by omega)⟩
  case round =>
    obtain ⟨i, rfl, h1, h2, HB, HR⟩ := hrel
    by_cases hie : i < P.length
    · obtain ⟨j, hj⟩ : ∃ j, j + 1 = i := ⟨i - 1, by omega⟩
      have hsub : (i : Int) - 1 = (j : Int) := by omega
      have hl : (i : Int) < (P.length : Int) := by omega
      have hl2 : (j : Int) < (P.length : Int) := by omega
      have i0 : (0 : Int) ≤ (i : Int) := by omega
      have j0 : (0 : Int) ≤ (j : Int) := by omega
      have hjl : j < P.length := by omega
      obtain ⟨b, off, rfl, hc⟩ := nums_at (nums_next HN.out HB.out) i hie
      obtain ⟨b', off', e, hc'⟩ := nums_at (nums_next HN.out HB.out) j hjl
      cases e
      have HP := Lib.hid (show ∀ x y, x = P[j] → y = P[i] → (x < y → ∀ t (h : t + 1 < P.length), t + 1 < i + 1 → P[t] < P[t + 1]) ∧ (¬ x < y → ¬ P.Pairwise (· < ·)) from fun x y hx hy => ⟨fun h t ht hti => by
        by_cases c : t = j
        · subst c; subst hj; rw [← hx, ← hy]; exact h
        · exact HR.out t ht (by omega), fun h hp => h (by have := lt_adj hp j (by omega); subst hj; rw [hx, hy]; exact this)⟩)
      obtain ⟨x, hx⟩ : ∃ x, x = P[j] := ⟨_, rfl⟩
      obtain ⟨y, hy⟩ : ∃ y, y = P[i] := ⟨_, rfl⟩
      rw [← hx] at hc'
      rw [← hy] at hc
      have HQ := Lib.hid (HP.out x y hx hy)
      clear hx hy HP hj
      by_cases hxy : x < y
      · have hge : ¬ (x : Int) ≥ (y : Int) := by omega
        have HR2 := Lib.hid (HQ.out.1 hxy)
        clear hxy HQ
        go_wp2
        go_quiet (fail)
        go_wp2
        go_roundw
        case rel => exact ⟨i + 1, by go_num, by omega, by omega, Lib.hid (HB.out.trans ⟨rfl, rfl, rfl, Nat.le_refl _, fun _ _ => rfl⟩), HR2⟩
        case measure => simp [intOf] <;> omega
      · have hge : (x : Int) ≥ (y : Int) := by omega
        have HR2 := Lib.hid (HQ.out.2 hxy)
        clear hxy HQ
        go_wp2
        go_quiet (fail)
        go_wp2
        go_ret
        exact ⟨by rw [decide_eq_false HR2.out]; trivial, HB.out.trans ⟨rfl, rfl, rfl, Nat.le_refl _, fun _ _ => rfl⟩⟩
    · have hl : ¬ (i : Int) < (P.length : Int) := by omega
      have HD := Lib.hid (show P.Pairwise (· < ·) from adj_lt fun t ht => HR.out t ht (by omega))
      go_wp2
      go_ret
      exact ⟨by rw [decide_eq_true HD.out]; trivial, HB.out⟩
theorem last_nil (ao : Option Addr) (cap : Nat) (w : World) : Calls Tryz.prog 56 #[.slice ao 0 cap] w fun e w' => e = .returned (.tuple #[.int .u64 0, .bool false]) ∧ w = w' := by
  go_enter Tryz.func56, Tryz.ntmps56
  go_wp2
  exact bodyPost_ret (v := .tuple #[.int .u64 0, .bool false]) (by simp [results, Tryz.results56, go_sem]) rfl ⟨rfl, rfl⟩
theorem last_any (ao : Option Addr) (cap : Nat) (P : List Nat) (w : World) (hN : Nums ao P w) (h0 : P ≠ []) (hn : P.length ≤ 100000) :
    Calls Tryz.prog 56 #[.slice ao P.length cap] w fun e w' => e = .returned (.tuple #[.int .u64 (P.getLast h0 : Int), .bool true]) ∧ w = w' := by
  have hp := List.length_pos_iff.2 h0
  obtain ⟨j, hj⟩ : ∃ j, j + 1 = P.length := ⟨P.length - 1, by omega⟩
  have hsub : (P.length : Int) - 1 = (j : Int) := by omega
  have hl2 : (j : Int) < (P.length : Int) := by omega
  have j0 : (0 : Int) ≤ (j : Int) := by omega
  have n1 : (P.length : Int) ≤ 100000 := by omega
  have hz : ((P.length : Int) == 0) = false := by rw [beq_eq_false_iff_ne]; omega
  obtain ⟨b, off, rfl, hc⟩ := nums_at hN j (by omega)
  have e : P[j]'(by omega) = P.getLast h0 := by rw [List.getLast_eq_getElem]; simp [← hj]
  rw [e] at hc
  generalize P.getLast h0 = x at *
  clear hN h0 hp hj e
  go_enter Tryz.func56, Tryz.ntmps56
  go_wp2
  exact bodyPost_ret (v := .tuple #[.int .u64 (x : Int), .bool true]) (by simp [results, Tryz.results56, go_sem]) rfl ⟨rfl, rfl⟩
theorem stand_any (ao : Option Addr) (cap : Nat) (P : List Nat) (n : Nat) (w : World) (hN : Nums ao P w) (hn : P.length ≤ 100000) (hnn : n ≤ 1000000) :
    Calls Tryz.prog 28 #[.slice ao P.length cap, .int .i64 (n : Int)] w fun e w' => e = .returned (.bool (standsP P n)) ∧ Below w.heap.size w w' := by
  have hwn : IntKind.u64.wrap (n : Int) = (n : Int) := by rw [IntKind.wrap_u64]; omega
  by_cases h0 : P = []
  · subst h0
    have HL := Lib.hid (last_nil ao cap w)
    have hs : standsP [] n = false := by simp [standsP]
    rw [hs]
    clear hs
    simp only [List.length_nil]
    go_enter Tryz.func28, Tryz.ntmps28
    go_wp2_with (go_at_call 56; refine HL.out.mono ?_; rintro e w' ⟨rfl, rfl⟩)
    go_ret
    exact ⟨rfl, Below.refl _ _⟩
  · have HL := Lib.hid (last_any ao cap P w hN h0 hn)
    have HR := Lib.hid (rises_any ao cap P w hN hn)
    have HS := Lib.hid (show standsP P n = (decide (P.getLast h0 < n) && decide (P.Pairwise (· < ·))) by
      rw [standsP, ← Bool.decide_and]
      refine decide_eq_decide.2 ⟨fun h => ⟨(rising_last h.2.1 h0).1 h.2.2, h.2.1⟩, fun h => ⟨h0, h.2, (rising_last h.2 h0).2 h.1⟩⟩)
    generalize P.getLast h0 = x at *
    by_cases hx : x < n
    · have hx2 : (x : Int) < (n : Int) := by omega
      rw [decide_eq_true hx] at HS
      clear hN hx
      go_enter Tryz.func28, Tryz.ntmps28
      go_wp2_with (first | (go_at_call 56; refine HL.out.mono ?_; rintro e w' ⟨rfl, rfl⟩) | (go_at_call 57; refine HR.out.mono ?_; rintro e w' ⟨rfl, hb⟩; have HB := Lib.hid hb; clear hb))
      go_ret
      exact ⟨by rw [HS.out]; simp, HB.out⟩
    · have hx2 : ¬ (x : Int) < (n : Int) := by omega
      rw [decide_eq_false hx] at HS
      clear hN hx
      go_enter Tryz.func28, Tryz.ntmps28
      go_wp2_with (first | (go_at_call 56; refine HL.out.mono ?_; rintro e w' ⟨rfl, rfl⟩) | (go_at_call 57; refine HR.out.mono ?_; rintro e w' ⟨rfl, hb⟩; have HB := Lib.hid hb; clear hb))
      go_ret
      exact ⟨by rw [HS.out]; simp, Below.refl _ _⟩
set_option maxRecDepth 100000 in
set_option maxHeartbeats 1000000 in
theorem mleaves_any (ao : Option Addr) (cap : Nat) (P : List Nat) (d : Int) (w : World) (hN : Nums ao P w) (hn : P.length ≤ 100000) (hP : ∀ x ∈ P, x < 18446744073709551616) :
    Calls Tryz.prog 60 #[.slice ao P.length cap, .int .i64 d] w fun e w' => e = .returned (.slice (some ⟨w.heap.size, 0, none⟩) P.length P.length) ∧ w'.heap[w.heap.size]? = some (.cells (ups (P.map fun x => turnB x d) P.length).toArray 33 (0, 0)) ∧ Below w.heap.size w w' := by
  obtain ⟨i0, hi, hz0, hz1, hz2⟩ := info_parts infoU
  obtain ⟨n, hne⟩ : ∃ n, n = P.length := ⟨_, rfl⟩
  have hm : (Instr.makeSlice 22 (.int .i64 (n : Int)) (.int .i64 (n : Int))).run Tryz.prog w = .ok (.slice (some ⟨w.heap.size, 0, none⟩) n n) (w.alloc (.cells (ups [] n).toArray 33)) := by
    have h := run_make (P := Tryz.prog) w 22 33 i0 (.int .u64 0) Tryz.underlying22 hi hz0 .i64 .i64 (n : Int) (n : Int) (by omega) (by omega) (by rw [hz2]; omega) (by omega)
    rw [h, hz1, Int.toNat_natCast, Nat.mul_one, made_nums]
  obtain ⟨B, hB⟩ : ∃ B, B = w.heap.size := ⟨_, rfl⟩
  have HB0 := Lib.hid (show Below B w (w.alloc (.cells (ups [] n).toArray 33)) from by rw [hB]; exact by0 w _)
  have HN0 := Lib.hid (show (w.alloc (.cells (ups [] n).toArray 33)).heap[B]? = some (.cells (ups [] n).toArray 33 (0, 0)) from by rw [hB]; exact heap_alloc_new w _)
  rw [← hB] at hm
  have HM := Lib.hid hm
  have HN := Lib.hid hN
  have HP := Lib.hid hP
  have HB := Lib.hid hB
  have HE := Lib.hid hne
  have n1 : (n : Int) ≤ 100000 := by omega
  rw [show w.heap.size = B from hB.symm]
  simp only [show P.length = n from hne.symm]
  clear hm hN hP hB hn hi hz0 hz1 hz2 hne
  go_enter Tryz.func60, Tryz.ntmps60
  go_upto_region 1 with fail
  have hmm := HM.out
  go_upto_region 2 with fail
  clear hmm HM
  generalize w.alloc (.cells (ups [] n).toArray 33) = w1 at *
  go_wp2
  go_loopw [6, 7, 13] (fun _ _ vi wr => ∃ k : Nat, k ≤ n ∧ vi = .int .i64 (k : Int) ∧ Hid (wr.heap[B]? = some (.cells (ups ((P.take k).map fun x => turnB x d) n).toArray 33 (0, 0)) ∧ Below B w wr)) (fun _ _ vi _ => n - (intOf vi).toNat)
  case atStart => exact ⟨0, Nat.zero_le _, rfl, Lib.hid ⟨HN0.out, HB0.out⟩⟩
  case round =>
    obtain ⟨k, hk, rfl, HK⟩ := hrel
    by_cases hlt : k < n
    · have k0 : (0 : Int) ≤ (k : Int) := by omega
      have k1 : (k : Int) < (n : Int) := by omega
      have hkP : k < P.length := by rw [← HE.out]; exact hlt
      obtain ⟨b, off, rfl, hc⟩ := nums_at (nums_next HN.out (by rw [← HB.out]; exact HK.out.2)) k hkP
      obtain ⟨x, hx⟩ : ∃ x, x = P[k] := ⟨_, rfl⟩
      rw [← hx] at hc
      have HLY := Lib.hid (fun w => leaf_any x (by rw [hx]; exact HP.out _ (List.getElem_mem hkP)) d w)
      have hlk : ((P.take k).map fun x => turnB x d).length = k := by rw [List.length_map, List.length_take]; omega
      have HPT := Lib.hid (show ((P.take k).map fun x => turnB x d) ++ [turnB x d] = (P.take (k + 1)).map fun x => turnB x d by
        rw [← List.take_append_getElem hkP, List.map_append, hx]; rfl)
      have HUP := Lib.hid (ups_put (V := (P.take k).map fun x => turnB x d) (n := n) (x := turnB x d) (by rw [hlk]; exact hlt))
      rw [HPT.out, hlk] at HUP
      generalize turnB x d = y at *
      obtain ⟨old, hcj⟩ : ∃ old, wr.cell? ⟨B, k, none⟩ = some old := ⟨_, (lit_cell HK.out.1 k).trans (Array.getElem?_eq_getElem (by rw [List.size_toArray, ups_len (by rw [hlk]; omega)]; exact hlt))⟩
      have hfj := lit_free HK.out.1 k
      have HSET := Lib.hid (lit_set (k := k) (encU y) HK.out.1)
      rw [HUP.out] at HSET
      have HSB := Lib.hid (show Below B w (wr.setCell ⟨B, k, none⟩ (encU y)) from HK.out.2.setCell (show B ≤ B from Nat.le_refl _) _)
      clear hx hlk HPT HUP hkP
      go_wp2_with (go_at_call 53; refine (HLY.out _).mono ?_; rintro e w' ⟨rfl, rfl⟩)
      go_roundw
      case rel => exact ⟨k + 1, hlt, by go_num, Lib.hid ⟨HSET.out, HSB.out⟩⟩
      case measure => simp [intOf] <;> omega
    · have hkn : k = n := by omega
      have k1 : ¬ (k : Int) < (n : Int) := by omega
      have HF := Lib.hid (show wr.heap[B]? = some (.cells (ups (P.map fun x => turnB x d) n).toArray 33 (0, 0)) by
        have := HK.out.1
        rw [hkn] at this
        rwa [show P.take n = P from by rw [HE.out, List.take_length]] at this)
      clear hkn
      go_wp2
      go_ret
      exact ⟨rfl, HF.out, HK.out.2⟩
end Go.Proofs.YtblimejnjboedaaGreatDoor
/- A tree's digests, as functions of what stands at its leaves; a tree in memory. -/
namespace Go.Proofs.YtblimejnjboedaaGreatDoor
open Go.RowKit

/-- a place in memory, and all below it -/
def InT (g : Nat → (List UInt8)) (w : World) : Nat → Nat → Nat → Prop
  | 0, k, b => w.heap[b]? = some (.cells #[.string ⟨(g k).toArray⟩, .pointer none, .pointer none] 72 (0, 0))
  | l + 1, k, b => ∃ x y, w.heap[b]? = some (.cells #[.string ⟨(dg g (l + 1) k).toArray⟩, .pointer (some ⟨x, 0, none⟩), .pointer (some ⟨y, 0, none⟩)] 72 (0, 0)) ∧ InT g w l (2 * k) x ∧ InT g w l (2 * k + 1) y
theorem InT.blk {g : Nat → (List UInt8)} {w : World} {l k b : Nat} (h : InT g w l k b) : ∃ x y, w.heap[b]? = some (.cells #[.string ⟨(dg g l k).toArray⟩, .pointer x, .pointer y] 72 (0, 0)) := by
  cases l with
  | zero => exact ⟨_, _, h⟩
  | succ l => obtain ⟨x, y, h, _, _⟩ := h; exact ⟨_, _, h⟩
theorem InT.lt {g : Nat → (List UInt8)} {w : World} {l k b : Nat} (h : InT g w l k b) : b < w.heap.size := by
  obtain ⟨x, y, h⟩ := h.blk
  exact (Array.getElem?_eq_some_iff.1 h).1
theorem InT.keep {g : Nat → (List UInt8)} {w w' : World} (hk : ∀ (b : Nat) (C : Array Value), w.heap[b]? = some (Obj.cells C 72 (0, 0)) → w'.heap[b]? = w.heap[b]?) : ∀ {l k b : Nat}, InT g w l k b → InT g w' l k b
  | 0, k, b, h => (hk _ _ h).trans h
  | l + 1, k, b, h => by
    obtain ⟨x, y, h, h1, h2⟩ := h
    exact ⟨x, y, (hk _ _ h).trans h, InT.keep hk h1, InT.keep hk h2⟩
theorem InT.below {g : Nat → (List UInt8)} {w w' : World} {l k b : Nat} (h : InT g w l k b) (hb : Below w.heap.size w w') : InT g w' l k b :=
  h.keep fun _ _ e => hb.block _ (Array.getElem?_eq_some_iff.1 e).1
theorem InT.congr {g g' : Nat → (List UInt8)} {w : World} : ∀ {l k b : Nat}, (∀ j, k * 2 ^ l ≤ j → j < (k + 1) * 2 ^ l → g j = g' j) → InT g w l k b → InT g' w l k b
  | 0, k, b, h, hi => by
    have e := h k (by simp) (by simp)
    unfold InT at hi ⊢
    rw [← e]; exact hi
  | l + 1, k, b, h, hi => by
    have e0 := dg_congr (l + 1) k h
    obtain ⟨e1, e2, e3, e4⟩ := kid_range l k
    have hp := Nat.two_pow_pos l
    obtain ⟨x, y, h0, h1, h2⟩ := hi
    refine ⟨x, y, by rw [← e0]; exact h0, InT.congr (fun j a b => h j (by omega) (by omega)) h1, InT.congr (fun j a b => h j (by omega) (by omega)) h2⟩
end Go.Proofs.YtblimejnjboedaaGreatDoor
/- A tree's places: a leaf, a node, a side. -/
namespace Go.Proofs.YtblimejnjboedaaGreatDoor
open Go.RowKit

theorem tleaf_any (e : (List UInt8)) (w : World) (hg : Glob w) (he : e.length ≤ 10000000) :
    Calls Tryz.prog 52 #[.string ⟨e.toArray⟩] w fun r w' => ∃ b, r = .returned (.pointer (some ⟨b, 0, none⟩)) ∧ w'.heap[b]? = some (.cells #[.string ⟨(hashL leafT [e]).toArray⟩, .pointer none, .pointer none] 72 (0, 0)) ∧ w.heap.size ≤ b ∧ Below w.heap.size w w' := by
  have hsz := hg.size
  have HH := Lib.hid (fun w' hg' hs' => hash_any leafT (some ⟨w.heap.size, 0, none⟩) 1 [e] w' hg' hs' (by decide) (Nat.lt_of_lt_of_le (framed_short leafT [e] (by decide) (by simpa using he) (by simp)) (by decide)))
  clear he
  go_enter Tryz.func52, Tryz.ntmps52
  go_wp2_with fail
  have hb0 : Below w.heap.size w (w.alloc (.cells #[.string ⟨e.toArray⟩] 9)) := by0 w _
  refine (HH.out _ (hg.below (by omega) hb0) (strs_new w [e] _ rfl)).mono ?_
  rintro r w1 ⟨rfl, hb1⟩
  have hB1 : Below w.heap.size w w1 := hb0.trans (hb1.mono (by simp))
  have s1 := hB1.size
  clear hb0 hb1 HH
  go_wp2
  go_ret
  exact ⟨w1.heap.size, rfl, heap_alloc_new w1 _, s1, hB1.alloc s1 _⟩

/-- a place's digest, and the rest of it -/
def PlaceAt (w : World) (b : Nat) (D : (List UInt8)) : Prop := ∃ x y, w.heap[b]? = some (.cells #[.string ⟨D.toArray⟩, .pointer x, .pointer y] 72 (0, 0))
/-- what stands while a node is made -/
abbrev NdS (B x y : Nat) (D E : (List UInt8)) (w1 wz : World) : Prop := wz.cell? ⟨B, 0, none⟩ = some (.pointer (some ⟨x, 0, none⟩)) ∧ wz.cell? ⟨B, 1, none⟩ = some (.pointer (some ⟨y, 0, none⟩)) ∧ wz.cell? ⟨x, 0, none⟩ = some (.string ⟨D.toArray⟩) ∧ wz.cell? ⟨y, 0, none⟩ = some (.string ⟨E.toArray⟩) ∧ Below w1.heap.size w1 wz
theorem nd_next {B x y : Nat} {D E : (List UInt8)} {w1 wz wa : World} (h : NdS B x y D E w1 wz) (hb : Below wz.heap.size wz wa) : NdS B x y D E w1 wa := by
  obtain ⟨h1, h2, h3, h4, h5⟩ := h
  have k : ∀ {c o : Nat} {v : Value}, wz.cell? ⟨c, o, none⟩ = some v → wa.cell? ⟨c, o, none⟩ = some v := fun hc => (World.cell?_of_block (hb.block _ (World.block_lt_of_cell? wz _ hc))).trans hc
  exact ⟨k h1, k h2, k h3, k h4, h5.trans (hb.mono h5.size)⟩
theorem nd_alloc {B x y : Nat} {D E : (List UInt8)} {w1 wz : World} (h : NdS B x y D E w1 wz) (o : Obj) : NdS B x y D E w1 (wz.alloc o) := nd_next h (by0 wz o)
theorem nd_drew {B x y : Nat} {D E : (List UInt8)} {w1 wz : World} (h : NdS B x y D E w1 wz) : NdS B x y D E w1 wz.drew := nd_next h (Below.refl _ _).drew
set_option maxHeartbeats 1000000 in
theorem tnode_any (x y : Nat) (D E : (List UInt8)) (w : World) (hg : Glob w) (hx : PlaceAt w x D) (hy : PlaceAt w y E) (hD : D.length ≤ 32) (hE : E.length ≤ 32) :
    Calls Tryz.prog 55 #[.agg #[.pointer (some ⟨x, 0, none⟩), .pointer (some ⟨y, 0, none⟩)]] w fun r w' => ∃ b, r = .returned (.pointer (some ⟨b, 0, none⟩)) ∧ w'.heap[b]? = some (.cells #[.string ⟨(hashL nodeT [D, E]).toArray⟩, .pointer (some ⟨x, 0, none⟩), .pointer (some ⟨y, 0, none⟩)] 72 (0, 0)) ∧ w.heap.size ≤ b ∧ Below w.heap.size w w' := by
  have hsz := hg.size
  obtain ⟨x1, x2, hx⟩ := hx
  obtain ⟨y1, y2, hy⟩ := hy
  have HH := Lib.hid (fun b w' hg' hs' => hash_any nodeT (some ⟨b, 0, none⟩) 2 [D, E] w' hg' hs' (by decide) (Nat.lt_of_lt_of_le (framed_short nodeT [D, E] (by decide) (by intro z hz; simp at hz; rcases hz with rfl | rfl <;> omega) (by simp)) (by decide)))
  have HG := Lib.hid hg
  have hp := heap_alloc_new w (.cells #[.pointer (some ⟨x, 0, none⟩), .pointer (some ⟨y, 0, none⟩)] 70)
  have hb0 := by0 w (.cells #[.pointer (some ⟨x, 0, none⟩), .pointer (some ⟨y, 0, none⟩)] 70)
  have hxw := (hb0.block x (lit_lt hx)).trans hx
  have hyw := (hb0.block y (lit_lt hy)).trans hy
  have HZ : Hid ((w.alloc (.cells #[.pointer (some ⟨x, 0, none⟩), .pointer (some ⟨y, 0, none⟩)] 70)).heap.size = w.heap.size + 1) := Lib.hid (by simp)
  have HB := Lib.hid hb0
  clear hx hy hD hE hb0
  go_enter Tryz.func55, Tryz.ntmps55
  go_upto_region 1 with fail
  change Code.wp _ _ _ _ (w.alloc (.cells #[.pointer (some ⟨x, 0, none⟩), .pointer (some ⟨y, 0, none⟩)] 70))
  generalize w.alloc (.cells #[.pointer (some ⟨x, 0, none⟩), .pointer (some ⟨y, 0, none⟩)] 70) = w1 at *
  have p0 := (lit_cell hp 0).trans rfl
  have p1 := (lit_cell hp 1).trans rfl
  have c0 := (lit_cell hxw 0).trans rfl
  have d0 := (lit_cell hyw 0).trans rfl
  have hS0 : NdS w.heap.size x y D E w1 w1 := ⟨p0, p1, c0, d0, Below.refl _ _⟩

  have HG1 := Lib.hid (fun wz (h : NdS w.heap.size x y D E w1 wz) => HG.out.below (w' := wz) (B := 2) (by omega) ((HB.out.mono (by omega)).trans (h.2.2.2.2.mono (by have := HZ.out; omega))))
  clear HG
  go_region_held3 (fun w' => w'.cell? ⟨w.heap.size, 0, none⟩ = some (.pointer (some ⟨x, 0, none⟩)) ∧ w'.cell? ⟨w.heap.size, 1, none⟩ = some (.pointer (some ⟨y, 0, none⟩)) ∧ w'.cell? ⟨x, 0, none⟩ = some (.string ⟨D.toArray⟩) ∧ w'.cell? ⟨y, 0, none⟩ = some (.string ⟨E.toArray⟩) ∧ Below w1.heap.size w1 w')
    (first | (with_reducible assumption) | (with_reducible refine nd_alloc ?_ _; with_reducible assumption) | (with_reducible refine nd_drew ?_; with_reducible assumption) | (with_reducible refine nd_drew (nd_alloc ?_ _); with_reducible assumption) | (with_reducible refine nd_next ?_ hb2; with_reducible assumption) | (with_reducible refine nd_drew (nd_next ?_ hb2); with_reducible assumption))
    (first
      | (go_at_call 17; refine (HH.out _ _ (HG1.out _ (by with_reducible assumption)) (by first | exact strs_new _ [D, E] _ rfl | exact strs_drew (strs_new _ [D, E] _ rfl))).mono ?_; rintro r w2 ⟨rfl, hb2⟩))
  all_goals
    go_wp2
    go_ret
    refine ⟨w2.heap.size, rfl, heap_alloc_new w2 _, ?_, ?_⟩
    · have h5 : NdS w.heap.size x y D E w1 (w2.alloc (.cells #[.string ⟨(hashL nodeT [D, E]).toArray⟩, .pointer (some ⟨x, 0, none⟩), .pointer (some ⟨y, 0, none⟩)] 72)) := by with_reducible assumption
      have hq := h5.2.2.2.2.size
      have := HZ.out
      simp only [World.size_alloc] at hq
      omega
    · have h5 : NdS w.heap.size x y D E w1 (w2.alloc (.cells #[.string ⟨(hashL nodeT [D, E]).toArray⟩, .pointer (some ⟨x, 0, none⟩), .pointer (some ⟨y, 0, none⟩)] 72)) := by with_reducible assumption
      exact HB.out.trans (h5.2.2.2.2.mono (by have := HZ.out; omega))
theorem side_any (k below : Nat) (hk : k < 18446744073709551616) (hb : below < 64) (w : World) : Calls Tryz.prog 58 #[.int .u64 (k : Int), .int .i64 (below : Int)] w fun e w' => e = .returned (.int .u64 ((k / 2 ^ below % 2 : Nat) : Int)) ∧ w = w' := by
  have hlt : k / 2 ^ below < 18446744073709551616 := Nat.lt_of_le_of_lt (Nat.div_le_self _ _) hk
  have h1 : bits .and .u64 ((k / 2 ^ below : Nat) : Int) ((1 : Nat) : Int) = ((k / 2 ^ below &&& 1 : Nat) : Int) := u64_and_nat _ 1 hlt (by decide)
  rw [Nat.and_one_is_mod] at h1
  have h2 : (k : Int) / (2 : Int) ^ below = ((k / 2 ^ below : Nat) : Int) := by simp
  have HE := Lib.hid h1
  have HE2 := Lib.hid h2
  clear h1 h2 hlt
  go_enter Tryz.func58, Tryz.ntmps58
  go_wp2
  go_ret
  refine ⟨?_, rfl⟩
  rw [← HE.out, ← HE2.out]
  simp
end Go.Proofs.YtblimejnjboedaaGreatDoor
