/- Copy, Bytes and Uint64 of a stream; and of none. -/
import Derived.Test.YtilcgafnkihjcaaDoorSb
namespace Go.Proofs.YtilcgafnkihjcaaDoor
open Go.RowKit
attribute [local go_sem] Oper.semAt_some

set_option maxHeartbeats 1000000 in
theorem sCopy_any (b : Nat) (seed : List UInt8) (p : Nat) (w : World) (h : StAt b seed p w) :
    Calls Tryd.prog 18 #[.pointer (some ⟨b, 0, none⟩)] w fun e w' => e = .returned (.pointer (some ⟨w.heap.size, 0, none⟩)) ∧ StAt w.heap.size seed p w' ∧ Below w.heap.size w w' := by
  obtain ⟨blk, hrow, hblk⟩ := h
  have hc0 : w.cell? ⟨b, 0, none⟩ = some (.string ⟨seed.toArray⟩) := by rw [row_cell hrow]; rfl
  have hc1 : w.cell? ⟨b, 1, none⟩ = some (.string ⟨blk.toArray⟩) := by rw [row_cell hrow]; rfl
  have hc2 : w.cell? ⟨b, 2, none⟩ = some (.int .u64 (p : Int)) := by rw [row_cell hrow]; rfl
  have HB := Lib.hid hblk
  clear hblk
  go_enter Tryd.func18, Tryd.ntmps18
  go_wp2
  go_ret
  exact ⟨rfl, ⟨blk, heap_alloc_new w _, HB.out⟩, (Below.refl _ _).alloc (Nat.le_refl _) _⟩

set_option maxHeartbeats 400000 in
theorem sNil_any (w : World) :
    (Calls Tryd.prog 18 #[.pointer none] w fun e w' => e = .returned (.pointer none) ∧ w' = w) ∧
    (Calls Tryd.prog 16 #[.pointer none] w fun e w' => e = .returned (.int .u64 0) ∧ w' = w) ∧
    (∀ n : Int, Calls Tryd.prog 10 #[.pointer none, .int .i64 n] w fun e w' => e = .returned (.tuple #[.string ⟨#[]⟩, .int .i64 1]) ∧ w' = w) ∧
    (∀ n : Int, Calls Tryd.prog 14 #[.pointer none, .int .u64 n] w fun e w' => e = .returned (.tuple #[.int .u64 0, .int .i64 1]) ∧ w' = w) ∧
    (Calls Tryd.prog 12 #[.pointer none] w fun e w' => e = .returned (.int .u64 0) ∧ w' = w) := by
  refine ⟨?_, ?_, fun n => ?_, fun n => ?_, ?_⟩
  · go_enter Tryd.func18, Tryd.ntmps18
    go_wp2
    go_ret
    exact ⟨rfl, rfl⟩
  · go_enter Tryd.func16, Tryd.ntmps16
    go_wp2
    go_ret
    exact ⟨rfl, rfl⟩
  · go_enter Tryd.func10, Tryd.ntmps10
    go_wp2
    go_ret2
    exact ⟨rfl, rfl⟩
  · go_enter Tryd.func14, Tryd.ntmps14
    go_wp2
    go_ret2
    exact ⟨rfl, rfl⟩
  · go_enter Tryd.func12, Tryd.ntmps12
    go_wp2
    go_ret
    exact ⟨rfl, rfl⟩

set_option maxHeartbeats 400000 in
theorem sBytes_bad (b : Nat) (n : Int) (w : World) (hn : n < 0 ∨ 65536 < n) :
    Calls Tryd.prog 10 #[.pointer (some ⟨b, 0, none⟩), .int .i64 n] w fun e w' => e = .returned (.tuple #[.string ⟨#[]⟩, .int .i64 2]) ∧ w' = w := by
  rcases hn with hn | hn
  · go_enter Tryd.func10, Tryd.ntmps10
    go_wp2
    go_ret2
    exact ⟨rfl, rfl⟩
  · have : ¬ n < 0 := by omega
    go_enter Tryd.func10, Tryd.ntmps10
    go_wp2
    go_ret2
    exact ⟨rfl, rfl⟩

/-- append within the capacity, in a fence -/
theorem wpListIn_append_fits {F : Fence} {n : Nat} {P : Program} (w : World) {ops : Array Oper} {rest : List Oper} {o : Oper} {a : Act} {Q : Exit → Act → World → Prop}
    (hg : o.guard = none) (s x : Operand) (t : TypeId) (hop : o.op = Op.call { callee := Callee.builtin Builtin.append, args := #[s, x], argTypes := #[t, t] })
    (base : Nat) (e : TypeId) (i : TypeInfo) (size : Nat) (h1 : P.underlying t = some (.slice e)) (h2 : P.info? e = some i) (h4 : i.size = size)
    (g k cap : Nat) (xs : List Value) (hs : a.eval s = .slice (some ⟨g, 0, none⟩) k cap) (hown : w.ownsRow base e size (.slice (some ⟨g, 0, none⟩) k cap) k xs) (ad : Addr) (m c : Nat) (news : List Value) (hx : a.eval x = .slice (some ad) m c) (hn : news.length = m * size)
    (hc : ∀ j u, news[j]? = some u → w.cell? (ad.add j) = some u) (h1c : ∀ u ∈ news, u.oneCell' = true) (b1 : k + m ≤ cap)
    (hK : ∀ w', w'.ownsRow base e size (.slice (some ⟨g, 0, none⟩) (k + m) cap) (k + m) (xs ++ news) → w.grownBy w' (some g) → wpListIn F n P ops Q rest (a.put o.dst (.slice (some ⟨g, 0, none⟩) (k + m) cap)) w') :
    wpListIn F n P ops Q (o :: rest) a w := by
  refine wpListIn_plain hg fun K hK' => ?_
  obtain ⟨w', hrun, r1, r2⟩ := run_append_fits (P := P) w base t o.type e i size h1 h2 h4 g k cap xs hown ad m c news hn hc h1c b1
  unfold Oper.wpIn
  refine ⟨by simp [Oper.about, hop, resolve, Target.leads, Sem.run_pure], ?_⟩
  rw [Oper.semAt_plain F _ _ (by rw [hop]; intro c hc'; cases hc')]
  simp [execOp, hop, resolve, invoke, builtin, hs, hx, hrun, Result.andThen]
  exact hK' _ _ (hK w' r1 r2)

def drawL (seed : List UInt8) (p n : Nat) : List UInt8 := (List.range n).map fun k => byteL seed (p + k)
theorem drawL_length (seed : List UInt8) (p n : Nat) : (drawL seed p n).length = n := by simp [drawL]
theorem drawL_succ (seed : List UInt8) (p n : Nat) : drawL seed p (n + 1) = drawL seed p n ++ [byteL seed (p + n)] := by simp [drawL, List.range_succ]

theorem ButS.grown {S : List Nat} {a w w' : World} {row : Option Nat} (h : ButS S a w) (hg : w.grownBy w' row) (hr : ∀ k, row = some k → k ∈ S) : ButS S a w' :=
  h.trans ⟨hg.os, hg.tape, hg.output, hg.size, fun k hk hS => hg.block k hk (fun e => hS (hr k e.symm))⟩
theorem notin2 {a b j : Nat} (h1 : j ≠ a) (h2 : j ≠ b) : j ∉ [a, b] := by simp [h1, h2]
theorem some_ne {a b : Nat} (h : a ≠ b) : some a ≠ some b := fun e => h (Option.some.inj e)
theorem Glob.same {w w' : World} (h : Glob w) (h0 : w'.heap[0]? = w.heap[0]?) (h1 : w'.heap[1]? = w.heap[1]?) : Glob w' := by
  have hs := h.size
  refine ⟨?_, fun i hi => (World.cell?_of_block (a := ⟨0, i, none⟩) h0).trans (h.iv i hi), fun i hi => (World.cell?_of_block (a := ⟨1, i, none⟩) h1).trans (h.k i hi)⟩
  rw [Array.getElem?_eq_getElem hs] at h1
  exact (Array.getElem?_eq_some_iff.1 h1).1
theorem Pos.same {b Bn Bs : Nat} {seed : List UInt8} {p N k : Nat} {W W' : World} (h : Pos b Bn Bs seed p N k W) (e0 : W'.heap[0]? = W.heap[0]?) (e1 : W'.heap[1]? = W.heap[1]?) (eb : W'.heap[b]? = W.heap[b]?)
    (en : W'.heap[Bn]? = W.heap[Bn]?) (es : W'.heap[Bs]? = W.heap[Bs]?) : Pos b Bn Bs seed p N k W' :=
  ⟨h.1.same eb, h.2.1.same e0 e1, (World.cell?_of_block (a := ⟨Bn, 0, none⟩) en).trans h.2.2.1, (World.cell?_of_block (a := ⟨Bs, 0, none⟩) es).trans h.2.2.2⟩
theorem ownsRow_same {w w' : World} {base : Nat} {e : TypeId} {size g k cap : Nat} {xs : List Value} (h : w.ownsRow base e size (.slice (some ⟨g, 0, none⟩) k cap) k xs) (hg : w'.heap[g]? = w.heap[g]?) :
    w'.ownsRow base e size (.slice (some ⟨g, 0, none⟩) k cap) k xs := by
  obtain ⟨h1, ⟨h2, _⟩ | ⟨g', cap', cur, h2, h3, h4, h5⟩⟩ := h
  · cases h2
  · cases h2
    exact ⟨h1, .inr ⟨_, _, cur, rfl, h3, hg.trans h4, h5⟩⟩

set_option maxRecDepth 100000 in
set_option maxHeartbeats 2000000 in
theorem sBytes_any (b : Nat) (seed : List UInt8) (hseed : seed.length = 32) (p n : Nat) (w : World) (hst : StAt b seed p w) (hg : Glob w) (hb : 2 ≤ b) (hn : n ≤ 65536) (hp : p + n < 18446744073709551616) :
    Calls Tryd.prog 10 #[.pointer (some ⟨b, 0, none⟩), .int .i64 (n : Int)] w fun e w' => e = .returned (.tuple #[.string ⟨(drawL seed p n).toArray⟩, .int .i64 0]) ∧ StAt b seed (p + n) w' ∧ But b w w' := by
  obtain ⟨i0, hi, hz0, hz1, hz2⟩ := info_parts Tryd.info5
  obtain ⟨C, hC⟩ : ∃ C, C = madeCells #[.int .u8 0] n := ⟨_, rfl⟩
  have hmk : ∀ w, (Instr.makeSlice 43 (.int .i64 0) (.int .i64 (n : Int))).run Tryd.prog w = .ok (.slice (some ⟨w.heap.size, 0, none⟩) 0 n) (w.alloc (.cells C 5)) := by
    intro w
    have h := run_make (P := Tryd.prog) w 43 5 i0 (.int .u8 0) Tryd.underlying43 hi hz0 .i64 .i64 0 (n : Int) (by omega) (by omega) (by rw [hz2]; omega) (by omega)
    rw [show (0:Int).toNat = 0 by omega, show (n : Int).toNat = n by omega, hz1, Nat.mul_one] at h
    rw [hC]
    exact h
  have hCs := Lib.hid (show C.size = n by rw [hC]; exact size_madeCells _ _)
  clear hC
  have HST := Lib.hid hst
  have HG := Lib.hid hg
  clear hst hg
  refine calls_of_wp_marks Tryd.func10 rfl ?_
  simp only [Tryd.ntmps10, List.size_toArray, List.length_cons, List.length_nil, Nat.reduceAdd, Nat.reduceSub, Array.replicate_succ, Array.replicate_zero, List.push_toArray, List.append_toArray, List.nil_append, List.cons_append]
  have n0 : ¬ (n : Int) < 0 := by omega
  have n1 : ¬ (65536 : Int) < (n : Int) := by omega
  go_wp2_with (go_at_call 21; refine (sDraw_any b n _).mono ?_; rintro e w' ⟨rfl, rfl⟩)
  obtain ⟨W0, hW0⟩ : ∃ W0, ((((w.alloc (Obj.cells C 5)).alloc (Obj.cells #[Value.slice (some ⟨w.heap.size, 0, none⟩) 0 n] 43)).alloc (Obj.cells #[Value.pointer (some ⟨b, 0, none⟩)] 23)).alloc (Obj.cells #[Value.int IntKind.i64 (n : Int)] 3)) = W0 := ⟨_, rfl⟩
  rw [hW0]
  have hblt : b < w.heap.size := HST.out.lt
  have hz : W0.heap.size = w.heap.size + 4 := by rw [← hW0]; simp
  have hB0 : Below w.heap.size w W0 := by rw [← hW0]; exact ((((Below.refl _ w).alloc (Nat.le_refl _) _).alloc (by simp) _).alloc (by simp; omega) _).alloc (by simp; omega) _
  have g0 : W0.heap[w.heap.size]? = some (.cells C 5 (0, 0)) := by
    rw [← hW0]
    exact ((Below.heap_alloc _ _ _ (by simp only [World.size_alloc]; omega)).trans ((Below.heap_alloc _ _ _ (by simp only [World.size_alloc]; omega)).trans (Below.heap_alloc _ _ _ (by simp only [World.size_alloc]; omega)))).trans (heap_alloc_new w _)
  have g1 : W0.heap[w.heap.size + 1]? = some (.cells #[Value.slice (some ⟨w.heap.size, 0, none⟩) 0 n] 43 (0, 0)) := by
    rw [← hW0]
    have h := heap_alloc_new (w.alloc (Obj.cells C 5)) (Obj.cells #[Value.slice (some ⟨w.heap.size, 0, none⟩) 0 n] 43)
    rw [World.size_alloc] at h
    exact ((Below.heap_alloc _ _ _ (by simp only [World.size_alloc]; omega)).trans (Below.heap_alloc _ _ _ (by simp only [World.size_alloc]; omega))).trans h
  have g2 : W0.heap[w.heap.size + 2]? = some (.cells #[Value.pointer (some ⟨b, 0, none⟩)] 23 (0, 0)) := by
    rw [← hW0]
    have h := heap_alloc_new ((w.alloc (Obj.cells C 5)).alloc (Obj.cells #[Value.slice (some ⟨w.heap.size, 0, none⟩) 0 n] 43)) (Obj.cells #[Value.pointer (some ⟨b, 0, none⟩)] 23)
    rw [World.size_alloc, World.size_alloc] at h
    exact (Below.heap_alloc _ _ _ (by simp)).trans h
  have g3 : W0.heap[w.heap.size + 3]? = some (.cells #[Value.int IntKind.i64 (n : Int)] 3 (0, 0)) := by
    rw [← hW0]
    have h := heap_alloc_new (((w.alloc (Obj.cells C 5)).alloc (Obj.cells #[Value.slice (some ⟨w.heap.size, 0, none⟩) 0 n] 43)).alloc (Obj.cells #[Value.pointer (some ⟨b, 0, none⟩)] 23)) (Obj.cells #[Value.int IntKind.i64 (n : Int)] 3)
    rw [World.size_alloc, World.size_alloc, World.size_alloc] at h
    exact h
  refine wp_rangeFunc_hands (gf := 29) (lb := #[.pointer (some ⟨w.heap.size + 3, 0, none⟩), .pointer (some ⟨w.heap.size + 2, 0, none⟩)]) rfl (enters_of Tryd.func29 (by kernel_rfl) rfl)
    (draw1_hands b (w.heap.size + 3) (w.heap.size + 2) seed hseed p n hp (by omega) hb (by omega) (by omega)) (fun _ => rfl) [w.heap.size, w.heap.size + 1]
    (fun j hj => by simp at hj; omega) (by omega)
    (fun k W W' h e => h.same (e 0 (by omega) (notin2 (by omega) (by omega))) (e 1 (by omega) (notin2 (by omega) (by omega))) (e b (by omega) (notin2 (by omega) (by omega))) (e _ (by omega) (notin2 (by omega) (by omega))) (e _ (by omega) (notin2 (by omega) (by omega))))
    ⟨HST.out.same (hB0.block b hblt), HG.out.below (by omega) hB0, cell_of_row _ _ _ _ 3 _ g3, cell_of_row _ _ _ _ 23 _ g2⟩
    (fun k W => W.cell? ⟨w.heap.size + 1, 0, none⟩ = some (.slice (some ⟨w.heap.size, 0, none⟩) k n) ∧ W.frozen? ⟨w.heap.size + 1, 0, none⟩ = false ∧ W.ownsRow w.heap.size 5 1 (.slice (some ⟨w.heap.size, 0, none⟩) k n) k (cellsOf (drawL seed p k)))
    (fun k W W' h e => ⟨(World.cell?_of_block (a := ⟨w.heap.size + 1, 0, none⟩) (e _ (by simp))).trans h.1, (World.frozen?_of_block (a := ⟨w.heap.size + 1, 0, none⟩) (e _ (by simp))).trans h.2.1, ownsRow_same h.2.2 (e _ (by simp))⟩)
    ⟨cell_of_row _ _ _ _ 43 _ g1, frozen_of_row _ _ _ _ 43 g1, ⟨rfl, .inr ⟨_, _, _, rfl, Nat.le_refl _, g0, by omega, by unfold maxLen; omega, by rw [hCs.out]; omega, by simp [drawL, cellsOf]⟩⟩⟩
    (fun y => { tmps := #[.pointer (some ⟨b, 0, none⟩), .int .i64 (n : Int), undef, undef, .string ⟨#[]⟩, .int .i64 0, .pointer (some ⟨w.heap.size + 1, 0, none⟩), .int .u8 (y.toNat : Int),
          .pointer (some ⟨b, 0, none⟩), .bool false, .int .i64 (n : Int), .bool false, .bool false, .int .i64 (n : Int), .bool false, .bool false, .int .i64 (n : Int), .slice (some ⟨w.heap.size, 0, none⟩) 0 n, .pointer (some ⟨b, 0, none⟩),
          .int .i64 (n : Int), .func (.func 29) #[] #[.pointer (some ⟨w.heap.size + 1 + 1 + 1, 0, none⟩), .pointer (some ⟨w.heap.size + 1 + 1, 0, none⟩)], .int .u8 (y.toNat : Int), undef, undef, undef, undef, undef, undef], defers := [] }) ?assign ?body ?done
  case assign =>
    intro l x W K hK
    gi_wp2
    exact hK
  case body =>
    rintro l k W hk hWz ⟨hc, hf, hown⟩
    have HS := Lib.hid (drawL_succ seed p k)
    generalize byteL seed (p + k) = x at *
    obtain ⟨c, hcx⟩ : ∃ c, x.toNat = c := ⟨_, rfl⟩
    rw [hcx]
    have HC := Lib.hid (show cellsOf [x] = [Value.int .u8 (c : Int)] by rw [← hcx]; rfl)
    clear hcx
    have hkn : k + 1 ≤ n := by omega
    gi_wp2_with (gi_at_builtin; refine (Hid.out (p := _) ?_))
    refine (show wpListIn _ _ _ _ _ _ _ _ from ?_)
    refine wpListIn_append_fits _ rfl (.tmp 22) (.tmp 24) 43 rfl w.heap.size 5 i0 1 Tryd.underlying43 hi hz1 w.heap.size k n _ rfl (hown.alloc _) ⟨W.heap.size, 0, none⟩ 1 1 [Value.int .u8 (c : Int)] rfl rfl (news_new W _ _) (by simp [Value.oneCell']) hkn ?_
    intro w1 hown1 hgrow
    have hlt1 : w.heap.size + 1 < W.heap.size := by omega
    have hx1 : w1.heap[w.heap.size + 1]? = W.heap[w.heap.size + 1]? := (hgrow.block (w.heap.size + 1) (by rw [World.size_alloc]; omega) (some_ne (by omega))).trans (Below.heap_alloc W _ _ hlt1)
    have hc1 : w1.cell? ⟨w.heap.size + 1, 0, none⟩ = some (.slice (some ⟨w.heap.size, 0, none⟩) k n) := (World.cell?_of_block (a := ⟨w.heap.size + 1, 0, none⟩) hx1).trans hc
    have hf1 : w1.frozen? ⟨w.heap.size + 1, 0, none⟩ = false := (World.frozen?_of_block (a := ⟨w.heap.size + 1, 0, none⟩) hx1).trans hf
    have HX1 := Lib.hid hx1
    clear hx1
    gi_wp2
    refine ⟨(((ButS.refl _ W).alloc _).grown hgrow (fun j e => by cases e; simp)).setCell (w.heap.size + 1) 0 _ (by simp), World.cell?_setCell_same' _ _ _ (by rw [hc1]; rfl), by rw [World.frozen?_setCell]; exact hf1, ?_⟩
    rw [HS.out, cellsOf_append, HC.out]
    exact ownsRow_same hown1 (Below.heap_setCell _ _ _ _ (by show w.heap.size ≠ w.heap.size + 1; omega))
  case done =>
    rintro W ⟨hc, hf, hown⟩ hpos hbut hD
    have hconv := run_convert_bytes_back W 43 9 5 ⟨w.heap.size, 0, none⟩ n (drawL seed p n) Tryd.underlying43 Tryd.underlying5 Tryd.underlying9 (owned_bytes hown rfl)
    rw [drawL_length] at hconv
    have HST2 := Lib.hid hpos.1
    have hb1 : ButS [b] w W := (ButS.of_below hB0).forget hbut (fun j hj => by simp only [List.mem_cons, List.not_mem_nil, or_false] at hj ⊢; omega)
    have HB1 := Lib.hid hb1
    clear hpos hbut hb1 hB0 g0 g1 g2 g3 hown hmk
    go_wp2
    refine ⟨by simp, .inl ⟨_, _, rfl, run_takeDeferred hD, ?_⟩⟩
    refine ⟨_, results_tmp2 rfl _ _ _, rfl, HST2.out.same (World.putObj_heap_other (by omega)), ?_⟩
    exact (HB1.out.forget (ButS.putObj [W0.heap.size] W W0.heap.size _ (by simp)) (fun j hj => .inr (by simp at hj; omega))).but
end Go.Proofs.YtilcgafnkihjcaaDoor
