/- The places that ends are gathered at: each chain's end; a digest's digits. -/
import Derived.Test.YtmnklonoelpidaaGreatDoorJ20
import Derived.Test.YtmnklonoelpidaaGreatDoorJ26
import Derived.Test.YtmnklonoelpidaaGreatDoorJ1
import Derived.OrdersIn
import Derived.Test.YtmnklonoelpidaaGreatDoorJ8
namespace Go.Proofs.YtmnklonoelpidaaGreatDoor
open Go.RowKit
attribute [local go_sem] Oper.semAt_some

theorem ends_calls (w : World) : Calls Tryz.prog 95 #[] w fun e w' => e = .returned (.func (.func 130) #[] #[]) ∧ w' = w := by
  go_enter Tryz.func95, Tryz.ntmps95
  go_wp2
  go_ret
  exact ⟨rfl, rfl⟩
set_option maxRecDepth 100000 in
set_option maxHeartbeats 2000000 in
theorem ends_hands (ok : World → Prop) : HandsRead Tryz.prog 130 #[] (fun k => #[.int .i64 (k : Int), .int .i64 15]) 67 ok := by
  rintro l J W hok hY h0
  have HY := Lib.hid hY
  have HJ0 := Lib.hid h0
  clear hY h0 hok
  refine (callsIn_wide (n := 1)).1 ?_
  refine callsIn_of_wp Tryz.func130 rfl trivial ?_ rfl
  simp only [Tryz.ntmps130, List.size_toArray, List.length_cons, List.length_nil, Nat.reduceAdd, Nat.reduceSub, Array.replicate_succ, Array.replicate_zero, List.push_toArray, List.append_toArray, List.nil_append, List.cons_append]
  gi_wp2
  gi_loopw [3] (fun v3 wr => ∃ n : Nat, n ≤ 67 ∧ v3 = .int .i64 (n : Int) ∧ Hid (∃ W1, J n W1 ∧ Kept (fun _ => True) W1 wr)) (fun v3 _ => 67 - (intOf v3).toNat)
  case atStart => exact ⟨0, by decide, rfl, Lib.hid ⟨W, HJ0.out, Kept.refl _ _⟩⟩
  case round =>
    obtain ⟨n, hn, rfl, HJ⟩ := hrel
    by_cases hlt : n < 67
    · have hl : (n : Int) < 67 := by omega
      have HLT := Lib.hid hlt
      obtain ⟨W1, hj1, hk1⟩ := HJ.out
      have HY2 := HY.out n W1 wr HLT.out hj1 hk1
      clear hj1 hk1 hlt hn
      obtain ⟨fn, tmps, assign, body, hy, hR⟩ := HY2
      gi_wp2
      refine hR.mono ?_
      rintro e w4 ⟨rfl, hj2, hok2⟩
      have HJ2 := Lib.hid hj2
      clear hR hy hj2 hok2
      gi_wp2
      go_roundw
      case rel => exact ⟨n + 1, HLT.out, by go_num, Lib.hid ⟨w4, HJ2.out, Kept.refl _ _⟩⟩
      case measure => have := HLT.out; simp [intOf]; omega
    · have hl : ¬ (n : Int) < 67 := by omega
      have HJN := Lib.hid (show ∃ W1, J 67 W1 ∧ Kept (fun _ => True) W1 wr by rw [show 67 = n by omega]; exact HJ.out)
      gi_wp2
      go_end0
      exact ⟨⟨_, rfl⟩, HJN.out⟩
theorem all_calls (ao : Option Addr) (n cp : Nat) (w : World) : Calls Tryz.prog 82 #[.slice ao n cp] w fun e w' => e = .returned (.func (.func 114) #[] #[.pointer (some ⟨w.heap.size, 0, none⟩)]) ∧ w' = w.alloc (.cells #[.slice ao n cp] 121) := by
  go_enter Tryz.func82, Tryz.ntmps82
  go_wp2
  go_ret
  exact ⟨rfl, rfl⟩
/-- the digits lie in memory, and the slice of them in its box -/
def AllOk (bx db off cap : Nat) (D : List Nat) (W : World) : Prop :=
  W.cell? ⟨bx, 0, none⟩ = some (.slice (some ⟨db, off, none⟩) D.length cap) ∧ ∀ k x : Nat, D[k]? = some x → W.cell? ⟨db, off + k, none⟩ = some (.int .i64 (x : Int))
set_option maxRecDepth 100000 in
set_option maxHeartbeats 2000000 in
theorem all_hands (bx db off cap : Nat) (D : List Nat) (hD : D.length = 67) : HandsRead Tryz.prog 114 #[.pointer (some ⟨bx, 0, none⟩)] (fun k => #[.int .i64 (k : Int), .int .i64 ((D.getD k 0 : Nat) : Int)]) 67 (AllOk bx db off cap D) := by
  rintro l J W hok hY h0
  have HY := Lib.hid hY
  have HJ0 := Lib.hid h0
  have HOK := Lib.hid hok
  have HD := Lib.hid hD
  have hbx := hok.1
  rw [hD] at hbx
  clear hY h0 hok hD
  refine (callsIn_wide (n := 1)).1 ?_
  refine callsIn_of_wp Tryz.func114 rfl trivial ?_ rfl
  simp only [Tryz.ntmps114, List.size_toArray, List.length_cons, List.length_nil, Nat.reduceAdd, Nat.reduceSub, Array.replicate_succ, Array.replicate_zero, List.push_toArray, List.append_toArray, List.nil_append, List.cons_append]
  gi_wp2
  clear hbx
  gi_loopw [7] (fun v7 wr => ∃ n : Nat, n ≤ 67 ∧ v7 = .int .i64 (n : Int) ∧ Hid (∃ W1, J n W1 ∧ Kept (fun _ => True) W1 wr) ∧ Hid (AllOk bx db off cap D wr)) (fun v7 _ => 67 - (intOf v7).toNat)
  case atStart => exact ⟨0, by decide, rfl, Lib.hid ⟨W, HJ0.out, Kept.refl _ _⟩, HOK⟩
  case round =>
    obtain ⟨n, hn, rfl, HJ, HC⟩ := hrel
    by_cases hlt : n < 67
    · have hl : (n : Int) < 67 := by omega
      have h0 : (0 : Int) ≤ (n : Int) := by omega
      have HLT := Lib.hid hlt
      have hx : D[n]? = some (D.getD n 0) := by
        have h : n < D.length := by have := HD.out; omega
        rw [List.getD_eq_getElem?_getD, List.getElem?_eq_getElem h]; rfl
      have hcell := HC.out.2 n _ hx
      obtain ⟨W1, hj1, hk1⟩ := HJ.out
      have HY2 := HY.out n W1 wr HLT.out hj1 hk1
      clear hj1 hk1 hx hlt hn
      generalize D.getD n 0 = x at *
      obtain ⟨fn, tmps, assign, body, hy, hR⟩ := HY2
      gi_wp2
      refine hR.mono ?_
      rintro e w4 ⟨rfl, hj2, hok2⟩
      have HJ2 := Lib.hid hj2
      have HO2 := Lib.hid hok2
      clear hR hy hj2 hok2 hcell
      gi_wp2
      go_roundw
      case rel => exact ⟨n + 1, HLT.out, by go_num, Lib.hid ⟨w4, HJ2.out, Kept.refl _ _⟩, HO2⟩
      case measure => have := HLT.out; simp [intOf]; omega
    · have hl : ¬ (n : Int) < 67 := by omega
      have HJN := Lib.hid (show ∃ W1, J 67 W1 ∧ Kept (fun _ => True) W1 wr by rw [show 67 = n by omega]; exact HJ.out)
      gi_wp2
      go_end0
      exact ⟨⟨_, rfl⟩, HJN.out⟩
end Go.Proofs.YtmnklonoelpidaaGreatDoor
/- A region that draws its order, within a round over a function: it goes as outside of one. -/
namespace Go.Proofs.YtmnklonoelpidaaGreatDoor
open Go.RowKit

theorem operIn_of_wp {P : Program} {o : Oper} {l : Nat} {a : Act} {w : World} {K : Act → World → Prop} {Q : Exit → Act → World → Prop} (hnd : ∀ c, o.op ≠ .defer c) (h : o.wp P a w K Q) : Oper.wpIn (Fence.wide.inRound l) 0 P o a w K Q := by
  refine ⟨fun _ _ => trivial, ?_⟩
  rw [show (Fence.wide.inRound l).round = some l from rfl, Oper.semAt_some l _ o hnd]
  unfold Oper.wp at h
  generalize (execOp a.eval o).run P w = r at *
  cases r with
  | ok x w' =>
    cases x with
    | enter f args => exact ⟨fun h => (by simp [Fence.wide] at h), CallsIn.inRound l (callsIn_wide.2 h)⟩
    | row row args => exact ⟨fun h => (by simp [Fence.wide] at h), fun c cs _ => by
        obtain ⟨v, w2, r1, s⟩ := h c cs
        exact ⟨v, w2, r1, stepsIn_wide.2 s⟩⟩
    | _ => first | exact h | exact h.elim
  | halt x w' => cases x <;> first | exact h | exact h.elim
theorem anyIn_of_any {P : Program} {md : Region.Mode} {ops : Array Oper} {l : Nat} {Q : Exit → Act → World → Prop} (hnd : ∀ (i : Nat) (o : Oper), ops[i]? = some o → ∀ c, o.op ≠ Op.defer c) (hQ : ∀ a w, ¬ Q .outgrown a w) :
    ∀ (fuel : Nat) (listed : Array Bool) (a : Act) (w : World), wpAny P md ops Q fuel listed a w → wpAnyIn (Fence.wide.inRound l) 0 P md ops Q fuel listed a w := by
  intro fuel
  induction fuel with
  | zero => exact fun _ _ _ h => h
  | succ fuel ih =>
    intro listed a w h
    refine ⟨h.1, fun i hi => ?_⟩
    have h2 := h.2 i hi
    unfold wpOp at h2
    unfold wpOpIn
    cases ho : ops[i]? with
    | none => rw [ho] at h2; exact ih _ _ _ h2
    | some o =>
      rw [ho] at h2
      simp only at h2 ⊢
      by_cases hw : Region.wanted o (yielded ops a.tmps) = true
      · rw [if_pos hw] at h2 ⊢
        rcases h2 with h2 | ⟨_, a2, w2, h3⟩
        · exact Oper.wpIn_mono (fun a w h => ih _ a w h) (operIn_of_wp (hnd i o ho) h2)
        · exact absurd h3 (hQ _ _)
      · rw [if_neg hw] at h2 ⊢
        exact ⟨fun _ _ => trivial, ih _ _ _ h2⟩
/-- a region that draws, in a round -/
theorem wpIn_region_round {P : Program} {ops : Array Oper} {l id : Nat} {Q : Exit → Act → World → Prop} {a : Act} {w : World} (hm : P.follows .mixedOrders = true) (hnd : (ops.all fun o => match o.op with | .defer _ => false | _ => true) = true) (hQ : ∀ a w, ¬ Q .outgrown a w)
    (h : wpAny P .any ops Q ops.size (Array.replicate ops.size false) a w.drew) : (Code.region id ops true).wpIn (Fence.wide.inRound l) 0 P Q a w := by
  refine wpIn_region_any hm (anyIn_of_any (fun i o ho c hc => ?_) hQ _ _ _ _ h)
  have h1 := Array.all_eq_true.1 hnd i (Array.getElem?_eq_some_iff.1 ho).1
  have h2 : ops[i]'(Array.getElem?_eq_some_iff.1 ho).1 = o := (Array.getElem?_eq_some_iff.1 ho).2
  rw [h2, hc] at h1
  cases h1
end Go.Proofs.YtmnklonoelpidaaGreatDoor
/- gathered: the texts that stand at the places which an iterator hands over. -/
namespace Go.Proofs.YtmnklonoelpidaaGreatDoor
open Go.RowKit
attribute [local go_sem] Oper.semAt_some

theorem step_append_run {P : Program} {ops : Array Oper} {o : Oper} {a : Act} {K : Act → World → Prop} {Q : Exit → Act → World → Prop} {E : Prop} {w w2 : World} {v u v2 : Value} (hgd : o.guard = none) (s x : Operand) (t : TypeId)
    (ho : o.op = .call { callee := .builtin .append, args := #[s, x], argTypes := #[t, t] }) (hs : a.eval s = v) (hx : a.eval x = u) (hrun : (Builtin.append_ #[t, t] o.type #[v, u]).run P w = .ok v2 w2)
    (h : K (a.put o.dst v2) w2) : if Region.wanted o (yielded ops a.tmps) = true then Oper.wp P o a w K Q else E := by
  have hw : Region.wanted o (yielded ops a.tmps) = true := by simp [Region.wanted, hgd]
  rw [if_pos hw]
  unfold Oper.wp
  simp [execOp, ho, resolve, invoke, builtin, hs, hx, hrun, Result.andThen]
  exact h
theorem made_strs (n : Nat) : madeCells (Value.string ⟨#[]⟩).cells n = (List.replicate n (Value.string ⟨#[]⟩)).toArray := by
  refine Array.ext (by simp [madeCells, Value.cells]) ?_
  intro i h1 h2
  simp [madeCells, Value.cells, Nat.mod_one]
/-- a row for sixty-seven texts -/
def row0 : Obj := .cells (List.replicate 67 (Value.string ⟨#[]⟩)).toArray 9 (0, 0)
theorem make_row (w : World) : (Instr.makeSlice 41 (.int .i64 0) (.int .i64 67)).run Tryz.prog w = .ok (.slice (some ⟨w.heap.size, 0, none⟩) 0 67) (w.alloc row0) := by
  obtain ⟨i0, hi, hz0, hz1, hz2⟩ := info_parts info_str
  have h := run_make (P := Tryz.prog) w 41 9 i0 (.string ⟨#[]⟩) Tryz.underlying41 hi hz0 .i64 .i64 0 67 (by omega) (by omega) (by rw [hz2]; omega) (by omega)
  rw [h, hz1, show ((67 : Int).toNat * 1) = 67 from rfl, made_strs]
  rfl
/-- k texts in the row, whose slice is in its box -/
def GAt (z k : Nat) (X : List (List UInt8)) (W : World) : Prop :=
  W.heap[z + 2]? = some (.cells #[.slice (some ⟨z + 1, 0, none⟩) k 67] 41 (0, 0)) ∧ W.ownsRow (z + 1) 9 1 (.slice (some ⟨z + 1, 0, none⟩) k 67) k (strC X)
theorem GAt.kept {z k : Nat} {X : List (List UInt8)} {W W' : World} {S : Nat → Prop} (h : GAt z k X W) (hk : Kept S W W') (hS : ∀ j, z + 1 ≤ j → (j = z + 1 ∨ j = z + 2) → S j) : GAt z k X W' := by
  obtain ⟨h1, h2⟩ := h
  refine ⟨(hk.block (z + 2) (lit_lt h1) (hS _ (by omega) (.inr rfl))).trans h1, h2.1, ?_⟩
  rcases h2.2 with h | ⟨g, cap, cur, h0, h3, h4, h5⟩
  · exact .inl h
  · cases h0
    exact .inr ⟨z + 1, 67, cur, rfl, h3, (hk.block _ (lit_lt h4) (hS _ (by omega) (.inl rfl))).trans h4, h5⟩
theorem gt_step {z k : Nat} {W w1 : World} {X : List (List UInt8)} {t : (List UInt8)} (hz : z + 5 ≤ W.heap.size) (hk : k < 67) (hat : GAt z k X W) (hb : Below W.heap.size W w1) :
    ∃ w2, (Builtin.append_ #[41, 41] 41 #[.slice (some ⟨z + 1, 0, none⟩) k 67, .slice (some ⟨w1.heap.size, 0, none⟩) 1 1]).run Tryz.prog (w1.alloc (.cells #[.string ⟨t.toArray⟩] 9)) = .ok (.slice (some ⟨z + 1, 0, none⟩) (k + 1) 67) w2 ∧
      w1.cell? ⟨z + 2, 0, none⟩ = some (.slice (some ⟨z + 1, 0, none⟩) k 67) ∧ w2.cell? ⟨z + 2, 0, none⟩ = some (.slice (some ⟨z + 1, 0, none⟩) k 67) ∧ w2.frozen? ⟨z + 2, 0, none⟩ = false ∧
      Kept (fun j => (j < z + 3 ∧ j ∉ [z + 1, z + 2]) ∨ (z + 3 ≤ j ∧ j < z + 5)) W (w2.setCell ⟨z + 2, 0, none⟩ (.slice (some ⟨z + 1, 0, none⟩) (k + 1) 67)) ∧
      GAt z (k + 1) (X ++ [t]) (w2.setCell ⟨z + 2, 0, none⟩ (.slice (some ⟨z + 1, 0, none⟩) (k + 1) 67)) := by
  obtain ⟨i0, hi, hz0, hz1, hz2⟩ := info_parts info_str
  obtain ⟨hcell, hown⟩ := hat
  have hsz := hb.size
  have kb : Kept (fun j => j < W.heap.size) W w1 := Kept.of_below hb fun j h => h
  have ka : Kept (fun j => j < W.heap.size) W (w1.alloc (.cells #[.string ⟨t.toArray⟩] 9)) := kb.alloc _
  have ho1 : w1.ownsRow (z + 1) 9 1 (.slice (some ⟨z + 1, 0, none⟩) k 67) k (strC X) := by
    refine ⟨hown.1, ?_⟩
    rcases hown.2 with h | ⟨g, cap, cur, h0, h1, h2, h3⟩
    · exact .inl h
    · exact .inr ⟨g, cap, cur, h0, h1, (hb.block g (Array.getElem?_eq_some_iff.1 h2).1).trans h2, h3⟩
  obtain ⟨w2, hrun, ho2, hg2⟩ := run_append_fits (P := Tryz.prog) (w1.alloc (.cells #[.string ⟨t.toArray⟩] 9)) (z + 1) 41 41 9 i0 1 Tryz.underlying41 hi hz1 (z + 1) k 67 (strC X) (ho1.alloc _) ⟨w1.heap.size, 0, none⟩ 1 1 [.string ⟨t.toArray⟩] rfl (cell_one_new _ _ _)
    (by intro u hu; simp at hu; subst hu; rfl) (by omega)
  have kw : Kept (fun j => j < W.heap.size ∧ j ≠ z + 1) W w2 := (ka.less (fun j _ h => h.1)).grown hg2 (fun j e _ h => h.2 (Option.some.inj e))
  have c2 : w2.heap[z + 2]? = some (.cells #[.slice (some ⟨z + 1, 0, none⟩) k 67] 41 (0, 0)) := (kw.block (z + 2) (by omega) ⟨by omega, by omega⟩).trans hcell
  have ks : Kept (fun j => (j < z + 3 ∧ j ∉ [z + 1, z + 2]) ∨ (z + 3 ≤ j ∧ j < z + 5)) W (w2.setCell ⟨z + 2, 0, none⟩ (.slice (some ⟨z + 1, 0, none⟩) (k + 1) 67)) := (kw.less (fun j hj h => ⟨hj, fun e => by rcases h with h | h; exact h.2 (by simp [e]); omega⟩)).setCell (z + 2) 0 _ (fun _ h => h.elim (fun h => h.2 (by simp)) (fun h => by omega))
  have k2 : Kept (fun j => j ≠ z + 2) w2 (w2.setCell ⟨z + 2, 0, none⟩ (.slice (some ⟨z + 1, 0, none⟩) (k + 1) 67)) := (Kept.refl _ w2).setCell (z + 2) 0 _ (fun _ h => h rfl)
  refine ⟨w2, hrun, by simp [World.cell?, (kb.block (z + 2) (by omega) (by omega)).trans hcell], by simp [World.cell?, c2], by simp [World.frozen?, c2], ks, lit_set _ c2, ?_⟩
  rw [strC, List.map_append]
  refine ⟨ho2.1, ?_⟩
  rcases ho2.2 with h | ⟨g, cap, cur, h0, h3, h4, h5⟩
  · exact .inl h
  · cases h0
    exact .inr ⟨z + 1, 67, cur, rfl, h3, (k2.block _ (lit_lt h4) (show z + 1 ≠ z + 2 by omega)).trans h4, h5⟩
set_option maxRecDepth 100000 in
set_option maxHeartbeats 4000000 in
theorem gathered_any (g p : Nat) (rv : Value) (lb : Array Value) (c : Nat → Nat) (f : Nat → (List UInt8)) (w : World) (hcg : ∀ args w, (callFunc g args).run Tryz.prog w = .ok (.enter g args) w) (hcp : ∀ args w, (callFunc p args).run Tryz.prog w = .ok (.enter p args) w)
    (HS : ∀ i : Nat, i < 67 → ∀ W, Below w.heap.size w W → Calls Tryz.prog g #[rv, .int .i64 (i : Int), .int .i64 (c i : Int)] W fun e w' => e = .returned (.string ⟨(f i).toArray⟩) ∧ Below W.heap.size W w')
    (HP : HandsRead Tryz.prog p lb (fun k => #[.int .i64 (k : Int), .int .i64 (c k : Int)]) 67 (fun W => Below w.heap.size w W)) :
    Calls Tryz.prog 81 #[.func (.func g) #[rv] #[], .func (.func p) #[] lb] w fun e w' => ∃ b, e = .returned (.slice (some ⟨b, 0, none⟩) 67 67) ∧ Strs (some ⟨b, 0, none⟩) (row67 f) w' ∧ Below w.heap.size w w' := by
  obtain ⟨z, hz⟩ : ∃ z, z = w.heap.size := ⟨_, rfl⟩
  obtain ⟨w1, hw1⟩ : ∃ w1, w.alloc (.cells #[.func (.func g) #[rv] #[]] 133) = w1 := ⟨_, rfl⟩
  have hz1 : w1.heap.size = z + 1 := by rw [← hw1, World.size_alloc, hz]
  have hn1 : w1.heap[z]? = some (.cells #[.func (.func g) #[rv] #[]] 133 (0, 0)) := by rw [← hw1, hz]; exact heap_alloc_new _ _
  have hb1 : Below z w w1 := by rw [← hw1]; exact (Below.refl _ _).alloc (by omega) _
  have hmk := make_row w1
  obtain ⟨w2, hw2⟩ : ∃ w2, w1.alloc row0 = w2 := ⟨_, rfl⟩
  rw [hw2, hz1] at hmk
  have hz2 : w2.heap.size = z + 2 := by rw [← hw2, World.size_alloc, hz1]
  have hn2 : w2.heap[z + 1]? = some row0 := by rw [← hw2, ← hz1]; exact heap_alloc_new _ _
  obtain ⟨w3, hw3⟩ : ∃ w3, w2.alloc (.cells #[.slice (some ⟨z + 1, 0, none⟩) 0 67] 41) = w3 := ⟨_, rfl⟩
  have hz3 : w3.heap.size = z + 3 := by rw [← hw3, World.size_alloc, hz2]
  have hn3 : w3.heap[z + 2]? = some (.cells #[.slice (some ⟨z + 1, 0, none⟩) 0 67] 41 (0, 0)) := by rw [← hw3, ← hz2]; exact heap_alloc_new _ _
  have hb3 : Below z w w3 := by rw [← hw3, ← hw2]; exact (hb1.alloc (by omega) _).alloc (by simp; omega) _
  have hr3 : w3.heap[z + 1]? = some row0 := by rw [← hw3]; exact lit_old _ hn2
  have hf3 : w3.heap[z]? = some (.cells #[.func (.func g) #[rv] #[]] 133 (0, 0)) := by rw [← hw3, ← hw2]; exact lit_old _ (lit_old _ hn1)
  have hg3 : GAt z 0 [] w3 := ⟨hn3, rfl, .inr ⟨z + 1, 67, _, rfl, Nat.le_refl _, hr3, by omega, by unfold maxLen; omega, by simp, rfl⟩⟩
  have HF := Lib.hid (And.intro hb3 (And.intro hf3 hg3))
  have HZ3 := Lib.hid hz3
  have HB := Lib.hid hz
  have hz2' : w2.heap.size = z + 2 := hz2
  rw [← hz] at HS HP
  have HSS := Lib.hid HS
  have HT := Lib.hid (fun k hk => row67_take f k hk)
  have HL := Lib.hid (show (row67 f).length = 67 from row67_len f)
  have hB' : w.heap.size = z := hz.symm
  clear hz1 hn1 hb1 hz2 hn2 hz3 hn3 hb3 hr3 hf3 hg3 HS hz
  refine calls_of_wp_marks Tryz.func81 rfl ?_
  simp only [Tryz.ntmps81, List.size_toArray, List.length_cons, List.length_nil, Nat.reduceAdd, Nat.reduceSub, Array.replicate_succ, Array.replicate_zero, List.push_toArray, List.append_toArray, List.nil_append, List.cons_append]
  go_wp2
  refine wp_rangeFunc_read (gf := p) (lb := lb) rfl hcp HP (fun _ => rfl) (z + 3) HZ3.out [z + 1, z + 2] ?ok
    (fun k W => GAt z k ((row67 f).take k) W ∧ Kept (fun j => j < z + 3 ∧ j ∉ [z + 1, z + 2]) w3 W ∧ z + 3 ≤ W.heap.size) ?keep ?start
    (fun k => { tmps := #[.func (.func g) #[rv] #[], .func (.func p) #[] lb, .pointer (some ⟨z, 0, none⟩), undef, .slice none 0 0, .pointer (some ⟨z + 2, 0, none⟩), .int .i64 (k : Int), .int .i64 (c k : Int), .slice (some ⟨z + 1, 0, none⟩) 0 67, .func (.func p) #[] lb, .int .i64 (k : Int), .int .i64 (c k : Int), undef, undef, undef, undef, undef, undef, undef, undef], defers := [] }) ?assign ?body ?done
  case ok =>
    intro W' hW'
    have hz := HZ3.out
    exact HF.out.1.trans (hW'.below (B := z) (by omega) (fun j hj => ⟨by omega, by simp; omega⟩))
  case keep =>
    rintro k W W' ⟨h, h2, hz⟩ hk
    exact ⟨h.kept hk (fun j h1 h2 => .inl (by omega)), h2.trans (hk.less fun j _ hj => .inl hj.1), by have := hk.size; omega⟩
  case start => exact ⟨HF.out.2.2, Kept.refl _ _, by rw [HZ3.out]; exact Nat.le_refl _⟩
  case assign =>
    intro l k W K hK
    gi_wp2
    exact hK
  case body =>
    rintro l' k W hkm hWz ⟨hat, hkp3, hz⟩
    have hc2 : W.cell? ⟨z + 2, 0, none⟩ = some (.slice (some ⟨z + 1, 0, none⟩) k 67) := by simp [World.cell?, hat.1]
    have hc0 : W.cell? ⟨z, 0, none⟩ = some (.func (.func g) #[rv] #[]) := (World.cell?_of_block (a := ⟨z, 0, none⟩) (hkp3.block z (by rw [HZ3.out]; omega) ⟨by omega, by simp⟩)).trans (by simp [World.cell?, HF.out.2.1])
    have hbW : Below z w W.drew := (HF.out.1.trans (hkp3.below (B := z) (by rw [HZ3.out]; omega) (fun j hj => ⟨by omega, by simp; omega⟩))).drew
    have HND := Lib.hid (HSS.out k hkm W.drew hbW)
    have hatd : GAt z k ((row67 f).take k) W.drew := hat.kept (S := fun _ => True) (Kept.refl _ W).drew (fun _ _ _ => trivial)
    have HST := Lib.hid (fun (w1 : World) (hbel : Below W.drew.heap.size W.drew w1) => gt_step (z := z) (k := k) (W := W.drew) (w1 := w1) (X := (row67 f).take k) (t := f k) hWz hkm hatd hbel)
    have HEND := Lib.hid (show ∀ W'', Kept (fun j => (j < z + 3 ∧ j ∉ [z + 1, z + 2]) ∨ (z + 3 ≤ j ∧ j < z + 3 + 2)) W W'' → GAt z (k + 1) ((row67 f).take k ++ [f k]) W'' → Kept (fun j => (j < z + 3 ∧ j ∉ [z + 1, z + 2]) ∨ (z + 3 ≤ j ∧ j < z + 3 + 2)) W W'' ∧ GAt z (k + 1) ((row67 f).take (k + 1)) W'' ∧ Kept (fun j => j < z + 3 ∧ j ∉ [z + 1, z + 2]) w3 W'' ∧ z + 3 ≤ W''.heap.size from fun W'' h h2 => ⟨h, by rw [HT.out k hkm]; exact h2, hkp3.trans (h.less fun j _ hj => .inl hj), by have := h.size; omega⟩)
    have hmo : Tryz.prog.follows .mixedOrders = true := by kernel_rfl
    clear hat hkp3 hbW hatd hkm
    gi_wp2
    refine wpIn_region_round hmo (by kernel_rfl) (fun _ _ h => h) ?_
    refine wpAny_take (i := 2) (v := ?_) rfl (by kernel_rfl) (by kernel_rfl) (by kernel_rfl) (fun _ _ _ h => h) (Or.inl ⟨by rfl, ?_⟩) ?_
    rotate_left
    · intro wq
      go_simp
      with_reducible rfl
    refine wpAny_take (i := 3) (v := ?_) rfl (by kernel_rfl) (by kernel_rfl) (by kernel_rfl) (fun _ _ _ h => h) (Or.inl ⟨by rfl, ?_⟩) ?_
    rotate_left
    · intro wq
      go_simp
      with_reducible rfl
    refine wpAny_ready (rs := [0, 1]) (by kernel_rfl) (by simp) (AllReady.cons rfl (fun K hK => ?_) (AllReady.cons rfl (fun K hK => ?_) AllReady.nil))
    · go_simp
      refine hK _ _ ?_
      clear hK K
      refine wpAny_ready (rs := [1]) (by kernel_rfl) (by simp) (AllReady.cons rfl (fun K hK => ?_) AllReady.nil)
      go_simp
      refine hK _ _ ?_
      clear hK K
      refine wpAny_ready (rs := [4]) (by kernel_rfl) (by simp) (AllReady.cons rfl (fun K hK => ?_) AllReady.nil)
      go_simp
      refine HND.out.mono ?_
      rintro e w1 ⟨rfl, hbel⟩
      obtain ⟨w2, hrun, e1, e2, e3, hkp, hat⟩ := HST.out w1 hbel
      have HKP := Lib.hid ((Kept.refl _ W).drew.trans hkp)
      have HAT := Lib.hid hat
      have e4 : (w1.alloc (.cells #[.string ⟨(f k).toArray⟩] 9)).cell? ⟨z + 2, 0, none⟩ = some (.slice (some ⟨z + 1, 0, none⟩) k 67) := (World.cell?_alloc_lt _ _ _ (World.block_lt_of_cell? w1 _ e1)).trans e1
      clear hkp hat hbel
      refine hK _ _ ?_
      clear hK K
      refine wpAny_ready (rs := [5]) (by kernel_rfl) (by simp) (AllReady.cons rfl (fun K hK => ?_) AllReady.nil)
      go_simp
      refine hK _ _ ?_
      clear hK K
      refine wpAny_ready (rs := [6]) (by kernel_rfl) (by simp) (AllReady.cons rfl (fun K hK => ?_) AllReady.nil)
      refine step_append_run rfl _ _ 41 rfl rfl rfl hrun ?_
      go_frame
      refine hK _ _ ?_
      clear hK K
      refine wpAny_ready (rs := [7]) (by kernel_rfl) (by simp) (AllReady.cons rfl (fun K hK => ?_) AllReady.nil)
      go_simp
      refine hK _ _ ?_
      clear hK K
      refine wpAny_done (by kernel_rfl) ?_ _
      exact HEND.out _ HKP.out HAT.out
    · go_simp
      refine hK _ _ ?_
      clear hK K
      refine wpAny_ready (rs := [0, 4]) (by kernel_rfl) (by simp) (AllReady.cons rfl (fun K hK => ?_) (AllReady.cons rfl (fun K hK => ?_) AllReady.nil))
      · go_simp
        refine hK _ _ ?_
        clear hK K
        refine wpAny_ready (rs := [4]) (by kernel_rfl) (by simp) (AllReady.cons rfl (fun K hK => ?_) AllReady.nil)
        go_simp
        refine HND.out.mono ?_
        rintro e w1 ⟨rfl, hbel⟩
        obtain ⟨w2, hrun, e1, e2, e3, hkp, hat⟩ := HST.out w1 hbel
        have HKP := Lib.hid ((Kept.refl _ W).drew.trans hkp)
        have HAT := Lib.hid hat
        have e4 : (w1.alloc (.cells #[.string ⟨(f k).toArray⟩] 9)).cell? ⟨z + 2, 0, none⟩ = some (.slice (some ⟨z + 1, 0, none⟩) k 67) := (World.cell?_alloc_lt _ _ _ (World.block_lt_of_cell? w1 _ e1)).trans e1
        clear hkp hat hbel
        refine hK _ _ ?_
        clear hK K
        refine wpAny_ready (rs := [5]) (by kernel_rfl) (by simp) (AllReady.cons rfl (fun K hK => ?_) AllReady.nil)
        go_simp
        refine hK _ _ ?_
        clear hK K
        refine wpAny_ready (rs := [6]) (by kernel_rfl) (by simp) (AllReady.cons rfl (fun K hK => ?_) AllReady.nil)
        refine step_append_run rfl _ _ 41 rfl rfl rfl hrun ?_
        go_frame
        refine hK _ _ ?_
        clear hK K
        refine wpAny_ready (rs := [7]) (by kernel_rfl) (by simp) (AllReady.cons rfl (fun K hK => ?_) AllReady.nil)
        go_simp
        refine hK _ _ ?_
        clear hK K
        refine wpAny_done (by kernel_rfl) ?_ _
        exact HEND.out _ HKP.out HAT.out
      · go_simp
        refine HND.out.mono ?_
        rintro e w1 ⟨rfl, hbel⟩
        obtain ⟨w2, hrun, e1, e2, e3, hkp, hat⟩ := HST.out w1 hbel
        have HKP := Lib.hid ((Kept.refl _ W).drew.trans hkp)
        have HAT := Lib.hid hat
        have e4 : (w1.alloc (.cells #[.string ⟨(f k).toArray⟩] 9)).cell? ⟨z + 2, 0, none⟩ = some (.slice (some ⟨z + 1, 0, none⟩) k 67) := (World.cell?_alloc_lt _ _ _ (World.block_lt_of_cell? w1 _ e1)).trans e1
        clear hkp hat hbel
        refine hK _ _ ?_
        clear hK K
        refine wpAny_ready (rs := [0, 5]) (by kernel_rfl) (by simp) (AllReady.cons rfl (fun K hK => ?_) (AllReady.cons rfl (fun K hK => ?_) AllReady.nil))
        · go_simp
          refine hK _ _ ?_
          clear hK K
          refine wpAny_ready (rs := [5]) (by kernel_rfl) (by simp) (AllReady.cons rfl (fun K hK => ?_) AllReady.nil)
          go_simp
          refine hK _ _ ?_
          clear hK K
          refine wpAny_ready (rs := [6]) (by kernel_rfl) (by simp) (AllReady.cons rfl (fun K hK => ?_) AllReady.nil)
          refine step_append_run rfl _ _ 41 rfl rfl rfl hrun ?_
          go_frame
          refine hK _ _ ?_
          clear hK K
          refine wpAny_ready (rs := [7]) (by kernel_rfl) (by simp) (AllReady.cons rfl (fun K hK => ?_) AllReady.nil)
          go_simp
          refine hK _ _ ?_
          clear hK K
          refine wpAny_done (by kernel_rfl) ?_ _
          exact HEND.out _ HKP.out HAT.out
        · go_simp
          refine hK _ _ ?_
          clear hK K
          refine wpAny_ready (rs := [0]) (by kernel_rfl) (by simp) (AllReady.cons rfl (fun K hK => ?_) AllReady.nil)
          go_simp
          refine hK _ _ ?_
          clear hK K
          refine wpAny_ready (rs := [6]) (by kernel_rfl) (by simp) (AllReady.cons rfl (fun K hK => ?_) AllReady.nil)
          refine step_append_run rfl _ _ 41 rfl rfl rfl hrun ?_
          go_frame
          refine hK _ _ ?_
          clear hK K
          refine wpAny_ready (rs := [7]) (by kernel_rfl) (by simp) (AllReady.cons rfl (fun K hK => ?_) AllReady.nil)
          go_simp
          refine hK _ _ ?_
          clear hK K
          refine wpAny_done (by kernel_rfl) ?_ _
          exact HEND.out _ HKP.out HAT.out
  case done =>
    rintro W ⟨hat, hkp3, hz⟩ hkept hdef
    have hc2 : W.cell? ⟨z + 2, 0, none⟩ = some (.slice (some ⟨z + 1, 0, none⟩) 67 67) := by simp [World.cell?, hat.1]
    have HAT := Lib.hid hat
    have HK3 := Lib.hid hkp3
    clear hat hkept hkp3
    go_wp2
    refine ⟨by simp, .inl ⟨_, _, rfl, run_takeDeferred hdef, ?_⟩⟩
    have kp : Kept (fun j => j ≠ z + 3) W (W.putObj (z + 3) (.deferred none)) := Kept.putObj _ _ _ _ (by simp)
    have hbw := (HK3.out.trans (kp.less (T := fun j => j < z + 3 ∧ j ∉ [z + 1, z + 2]) fun j _ h => by omega)).below (B := z) (by rw [HZ3.out]; omega) (fun j h => ⟨by omega, by simp; omega⟩)
    have hat2 := HAT.out.kept kp (fun j _ h => by omega)
    rw [List.take_of_length_le (by rw [HL.out]; exact Nat.le_refl _)] at hat2
    refine ⟨_, results_tmp rfl _ _ _, z + 1, rfl, ?_, by rw [hB']; exact HF.out.1.trans hbw⟩
    have hrow := hat2.2
    have h1 := (trow_strs (X := row67 f) (B := z + 1) (n := 67) (by rw [TRow, HL.out]; exact hrow) HL.out.symm).1
    exact h1
end Go.Proofs.YtmnklonoelpidaaGreatDoor
/- No digest, no signature. -/
namespace Go.Proofs.YtmnklonoelpidaaGreatDoor
open Go.RowKit

theorem wisno_any (x : (List UInt8)) (w : World) (_ : x.length ≤ 1000000000) : Calls Tryz.prog 80 #[.string ⟨x.toArray⟩] w fun e w' => e = .returned (.bool (decide (x.length ≠ 32))) ∧ w = w' := by
  have HE := Lib.hid (show decide (x.length ≠ 32) = ((x.length : Int) != 32) by
    by_cases h : x.length = 32
    · simp [h]
    · have : (x.length : Int) ≠ 32 := by omega
      simp [h, this])
  go_enter Tryz.func80, Tryz.ntmps80
  go_wp2
  go_ret
  exact ⟨by rw [HE.out]; rfl, rfl⟩
def wall32 (L : List (List UInt8)) : Bool := decide (∀ x ∈ L, x.length = 32)
set_option maxRecDepth 100000 in
set_option maxHeartbeats 1000000 in
theorem windex_any (ao : Option Addr) (cap : Nat) (L : List (List UInt8)) (w : World) (hN : Strs ao L w) (hn : L.length ≤ 100000) (hl : ∀ i (h : i < L.length), L[i].length ≤ 1000000000) :
    Calls Tryz.prog 173 #[.slice ao L.length cap, .func (.func 80) #[] #[]] w fun e w' => ∃ r : Int, e = .returned (.int .i64 r) ∧ (0 ≤ r ↔ ∃ x ∈ L, x.length ≠ 32) ∧ w = w' := by
  have HN := Lib.hid hN
  have HL := Lib.hid hl
  have n1 : (L.length : Int) ≤ 100000 := by omega
  clear hN hl
  go_enter Tryz.func173, Tryz.ntmps173
  go_wp2
  go_loopw [5, 8] (fun _ i wr => ∃ k : Nat, k ≤ L.length ∧ i = .int .i64 (k : Int) ∧ Hid (∀ x ∈ L.take k, x.length = 32) ∧ w = wr) (fun _ i _ => (L.length : Int).toNat - (intOf i).toNat)
  case atStart => exact ⟨0, Nat.zero_le _, rfl, Lib.hid (by simp), rfl⟩
  case round =>
    obtain ⟨k, hk, rfl, HA, rfl⟩ := hrel
    by_cases hke : k = L.length
    · have hl : ¬ (k : Int) < (L.length : Int) := by omega
      have HE := Lib.hid (show ¬ ∃ x ∈ L, x.length ≠ 32 by
        rintro ⟨x, hx, hs⟩
        exact hs (HA.out x (by rw [hke, List.take_length]; exact hx)))
      clear hk hke
      go_wp2
      go_ret
      exact ⟨-1, rfl, ⟨fun h => absurd h (by decide), fun h => absurd h HE.out⟩, rfl⟩
    · have hkl : k < L.length := by omega
      have hl : (k : Int) < (L.length : Int) := by omega
      have i0 : (0 : Int) ≤ (k : Int) := by omega
      obtain ⟨bb, off, rfl, hcx⟩ := HN.out.cell k hkl
      have hxl := HL.out k hkl
      obtain ⟨x, hx⟩ : ∃ x, L[k] = x := ⟨_, rfl⟩
      rw [hx] at hcx hxl
      have HP := Lib.hid (wisno_any x w hxl)
      have HM := Lib.hid (show x ∈ L by rw [← hx]; exact List.getElem_mem hkl)
      have HT := Lib.hid (show L.take k ++ [x] = L.take (k + 1) by rw [← hx, List.take_append_getElem hkl])
      clear hx hke hxl
      by_cases hs : x.length = 32
      · rw [decide_eq_false (fun h => h hs)] at HP
        have HS := Lib.hid hs
        clear hs
        go_wp2_with (go_at_call 80; refine HP.out.mono ?_; rintro e w' ⟨rfl, rfl⟩)
        go_roundw
        case rel =>
          refine ⟨k + 1, hkl, by go_num, Lib.hid ?_, trivial⟩
          rw [← HT.out]
          intro y hy
          rcases List.mem_append.1 hy with h | h
          · exact HA.out y h
          · simp at h; subst h; exact HS.out
        case measure => simp [intOf] <;> omega
      · rw [decide_eq_true hs] at HP
        have HS := Lib.hid hs
        clear hs
        go_wp2_with (go_at_call 80; refine HP.out.mono ?_; rintro e w' ⟨rfl, rfl⟩)
        go_ret
        exact ⟨_, rfl, ⟨fun _ => ⟨x, HM.out, HS.out⟩, fun _ => i0⟩, rfl⟩
theorem wcontains_any (ao : Option Addr) (cap : Nat) (L : List (List UInt8)) (w : World) (hN : Strs ao L w) (hn : L.length ≤ 100000) (hl : ∀ i (h : i < L.length), L[i].length ≤ 1000000000) :
    Calls Tryz.prog 148 #[.slice ao L.length cap, .func (.func 80) #[] #[]] w fun e w' => e = .returned (.bool (!wall32 L)) ∧ w = w' := by
  have HC := Lib.hid (windex_any ao cap L w hN hn hl)
  have HE := Lib.hid (show ∀ r : Int, (0 ≤ r ↔ ∃ x ∈ L, x.length ≠ 32) → decide (r ≥ 0) = !wall32 L from fun r hr => by
    rw [Bool.eq_iff_iff, wall32]
    simp [hr])
  generalize (!wall32 L) = y at *
  clear hN hl
  go_enter Tryz.func148, Tryz.ntmps148
  go_wp2_with (go_at_call 173; refine HC.out.mono ?_; rintro e w1 ⟨r, rfl, hr, rfl⟩; have HR := Lib.hid hr; clear hr)
  go_ret
  exact ⟨by rw [← HE.out _ HR.out]; rfl, rfl⟩
theorem wall_isSig {g : List (List UInt8)} (h : g.length = 67) : isSig g = wall32 g := by
  rw [Bool.eq_iff_iff, isSig, wall32]
  simp [h]
theorem wnosig_any (ao : Option Addr) (cap : Nat) (L : List (List UInt8)) (w : World) (hN : Strs ao L w) (hn : L.length ≤ 100000) (hl : ∀ i (h : i < L.length), L[i].length ≤ 1000000000) :
    Calls Tryz.prog 124 #[.slice ao L.length cap] w fun e w' => e = .returned (.bool (!isSig L)) ∧ w = w' := by
  have HC := Lib.hid (wcontains_any ao cap L w hN hn hl)
  by_cases h : L.length = 67
  · rw [wall_isSig h]
    have hi : (L.length : Int) = 67 := by omega
    generalize (!wall32 L) = y at *
    clear hN hl h
    go_enter Tryz.func124, Tryz.ntmps124
    go_wp2_with (go_at_call 148; refine HC.out.mono ?_; rintro e w1 ⟨rfl, rfl⟩)
    go_ret
    exact ⟨rfl, rfl⟩
  · have HE := Lib.hid (show isSig L = false by rw [isSig, Bool.and_eq_false_iff]; exact .inl (by simpa using h))
    have hi : ¬ (L.length : Int) = 67 := by omega
    rw [HE.out]
    clear hN hl h
    go_enter Tryz.func124, Tryz.ntmps124
    go_wp2
    go_ret
    exact ⟨rfl, rfl⟩
end Go.Proofs.YtmnklonoelpidaaGreatDoor
