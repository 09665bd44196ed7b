/- gathered: the texts that stand at the places which an iterator hands over. -/
import Derived.Test.YtpbbpkflljcklaaDoorJXs
import Derived.Test.YtpbbpkflljcklaaDoorJXr
import Derived.Test.YtpbbpkflljcklaaDoorJEb1
import Derived.Test.YtpbbpkflljcklaaDoorJ5
namespace Go.Proofs.YtpbbpkflljcklaaDoor
open Go.RowKit
attribute [local go_sem] Oper.semAt_some

theorem step_append_run {P : Program} {ops : Array Oper} {o : Oper} {a : Act} {K : Act → World → Prop} {Q : Exit → Act → World → Prop} {E : Prop} {w w2 : World} {v u v2 : Value} (hgd : o.guard = none) (s x : Operand) (t : TypeId)
    (ho : o.op = .call { callee := .builtin .append, args := #[s, x], argTypes := #[t, t] }) (hs : a.eval s = v) (hx : a.eval x = u) (hrun : (Builtin.append_ #[t, t] o.type #[v, u]).run P w = .ok v2 w2)
    (h : K (a.put o.dst v2) w2) : if Region.wanted o (yielded ops a.tmps) = true then Oper.wp P o a w K Q else E := by
  have hw : Region.wanted o (yielded ops a.tmps) = true := by simp [Region.wanted, hgd]
  rw [if_pos hw]
  unfold Oper.wp
  simp [execOp, ho, resolve, invoke, builtin, hs, hx, hrun, Result.andThen]
  exact h
theorem made_strs (n : Nat) : madeCells (Value.string ⟨#[]⟩).cells n = (List.replicate n (Value.string ⟨#[]⟩)).toArray := by
  refine Array.ext (by simp [madeCells, Value.cells]) ?_
  intro i h1 h2
  simp [madeCells, Value.cells, Nat.mod_one]
/-- a row for sixty-seven texts -/
def row0 : Obj := .cells (List.replicate 67 (Value.string ⟨#[]⟩)).toArray 9 (0, 0)
theorem make_row (w : World) : (Instr.makeSlice 25 (.int .i64 0) (.int .i64 67)).run Tryd.prog w = .ok (.slice (some ⟨w.heap.size, 0, none⟩) 0 67) (w.alloc row0) := by
  obtain ⟨i0, hi, hz0, hz1, hz2⟩ := info_parts info_str
  have h := run_make (P := Tryd.prog) w 25 9 i0 (.string ⟨#[]⟩) Tryd.underlying25 hi hz0 .i64 .i64 0 67 (by omega) (by omega) (by rw [hz2]; omega) (by omega)
  rw [h, hz1, show ((67 : Int).toNat * 1) = 67 from rfl, made_strs]
  rfl
/-- k texts in the row, whose slice is in its box -/
def GAt (z k : Nat) (X : List (List UInt8)) (W : World) : Prop :=
  W.heap[z + 2]? = some (.cells #[.slice (some ⟨z + 1, 0, none⟩) k 67] 25 (0, 0)) ∧ W.ownsRow (z + 1) 9 1 (.slice (some ⟨z + 1, 0, none⟩) k 67) k (strC X)
theorem GAt.kept {z k : Nat} {X : List (List UInt8)} {W W' : World} {S : Nat → Prop} (h : GAt z k X W) (hk : Kept S W W') (hS : ∀ j, z + 1 ≤ j → (j = z + 1 ∨ j = z + 2) → S j) : GAt z k X W' := by
  obtain ⟨h1, h2⟩ := h
  refine ⟨(hk.block (z + 2) (lit_lt h1) (hS _ (by omega) (.inr rfl))).trans h1, h2.1, ?_⟩
  rcases h2.2 with h | ⟨g, cap, cur, h0, h3, h4, h5⟩
  · exact .inl h
  · cases h0
    exact .inr ⟨z + 1, 67, cur, rfl, h3, (hk.block _ (lit_lt h4) (hS _ (by omega) (.inl rfl))).trans h4, h5⟩
theorem gt_step {z k : Nat} {W w1 : World} {X : List (List UInt8)} {t : (List UInt8)} (hz : z + 5 ≤ W.heap.size) (hk : k < 67) (hat : GAt z k X W) (hb : Below W.heap.size W w1) :
    ∃ w2, (Builtin.append_ #[25, 25] 25 #[.slice (some ⟨z + 1, 0, none⟩) k 67, .slice (some ⟨w1.heap.size, 0, none⟩) 1 1]).run Tryd.prog (w1.alloc (.cells #[.string ⟨t.toArray⟩] 9)) = .ok (.slice (some ⟨z + 1, 0, none⟩) (k + 1) 67) w2 ∧
      w1.cell? ⟨z + 2, 0, none⟩ = some (.slice (some ⟨z + 1, 0, none⟩) k 67) ∧ w2.cell? ⟨z + 2, 0, none⟩ = some (.slice (some ⟨z + 1, 0, none⟩) k 67) ∧ w2.frozen? ⟨z + 2, 0, none⟩ = false ∧
      Kept (fun j => (j < z + 3 ∧ j ∉ [z + 1, z + 2]) ∨ (z + 3 ≤ j ∧ j < z + 5)) W (w2.setCell ⟨z + 2, 0, none⟩ (.slice (some ⟨z + 1, 0, none⟩) (k + 1) 67)) ∧
      GAt z (k + 1) (X ++ [t]) (w2.setCell ⟨z + 2, 0, none⟩ (.slice (some ⟨z + 1, 0, none⟩) (k + 1) 67)) := by
  obtain ⟨i0, hi, hz0, hz1, hz2⟩ := info_parts info_str
  obtain ⟨hcell, hown⟩ := hat
  have hsz := hb.size
  have kb : Kept (fun j => j < W.heap.size) W w1 := Kept.of_below hb fun j h => h
  have ka : Kept (fun j => j < W.heap.size) W (w1.alloc (.cells #[.string ⟨t.toArray⟩] 9)) := kb.alloc _
  have ho1 : w1.ownsRow (z + 1) 9 1 (.slice (some ⟨z + 1, 0, none⟩) k 67) k (strC X) := by
    refine ⟨hown.1, ?_⟩
    rcases hown.2 with h | ⟨g, cap, cur, h0, h1, h2, h3⟩
    · exact .inl h
    · exact .inr ⟨g, cap, cur, h0, h1, (hb.block g (Array.getElem?_eq_some_iff.1 h2).1).trans h2, h3⟩
  obtain ⟨w2, hrun, ho2, hg2⟩ := run_append_fits (P := Tryd.prog) (w1.alloc (.cells #[.string ⟨t.toArray⟩] 9)) (z + 1) 25 25 9 i0 1 Tryd.underlying25 hi hz1 (z + 1) k 67 (strC X) (ho1.alloc _) ⟨w1.heap.size, 0, none⟩ 1 1 [.string ⟨t.toArray⟩] rfl (cell_one_new _ _ _)
    (by intro u hu; simp at hu; subst hu; rfl) (by omega)
  have kw : Kept (fun j => j < W.heap.size ∧ j ≠ z + 1) W w2 := (ka.less (fun j _ h => h.1)).grown hg2 (fun j e _ h => h.2 (Option.some.inj e))
  have c2 : w2.heap[z + 2]? = some (.cells #[.slice (some ⟨z + 1, 0, none⟩) k 67] 25 (0, 0)) := (kw.block (z + 2) (by omega) ⟨by omega, by omega⟩).trans hcell
  have ks : Kept (fun j => (j < z + 3 ∧ j ∉ [z + 1, z + 2]) ∨ (z + 3 ≤ j ∧ j < z + 5)) W (w2.setCell ⟨z + 2, 0, none⟩ (.slice (some ⟨z + 1, 0, none⟩) (k + 1) 67)) := (kw.less (fun j hj h => ⟨hj, fun e => by rcases h with h | h; exact h.2 (by simp [e]); omega⟩)).setCell (z + 2) 0 _ (fun _ h => h.elim (fun h => h.2 (by simp)) (fun h => by omega))
  have k2 : Kept (fun j => j ≠ z + 2) w2 (w2.setCell ⟨z + 2, 0, none⟩ (.slice (some ⟨z + 1, 0, none⟩) (k + 1) 67)) := (Kept.refl _ w2).setCell (z + 2) 0 _ (fun _ h => h rfl)
  refine ⟨w2, hrun, by simp [World.cell?, (kb.block (z + 2) (by omega) (by omega)).trans hcell], by simp [World.cell?, c2], by simp [World.frozen?, c2], ks, lit_set _ c2, ?_⟩
  rw [strC, List.map_append]
  refine ⟨ho2.1, ?_⟩
  rcases ho2.2 with h | ⟨g, cap, cur, h0, h3, h4, h5⟩
  · exact .inl h
  · cases h0
    exact .inr ⟨z + 1, 67, cur, rfl, h3, (k2.block _ (lit_lt h4) (show z + 1 ≠ z + 2 by omega)).trans h4, h5⟩
set_option maxRecDepth 100000 in
set_option maxHeartbeats 4000000 in
theorem gathered_any (g p : Nat) (rv : Value) (lb : Array Value) (c : Nat → Nat) (f : Nat → (List UInt8)) (w : World) (hcg : ∀ args w, (callFunc g args).run Tryd.prog w = .ok (.enter g args) w) (hcp : ∀ args w, (callFunc p args).run Tryd.prog w = .ok (.enter p args) w)
    (HS : ∀ i : Nat, i < 67 → ∀ W, Below w.heap.size w W → Calls Tryd.prog g #[rv, .int .i64 (i : Int), .int .i64 (c i : Int)] W fun e w' => e = .returned (.string ⟨(f i).toArray⟩) ∧ Below W.heap.size W w')
    (HP : HandsRead Tryd.prog p lb (fun k => #[.int .i64 (k : Int), .int .i64 (c k : Int)]) 67 (fun W => Below w.heap.size w W)) :
    Calls Tryd.prog 24 #[.func (.func g) #[rv] #[], .func (.func p) #[] lb] w fun e w' => ∃ b, e = .returned (.slice (some ⟨b, 0, none⟩) 67 67) ∧ Strs (some ⟨b, 0, none⟩) (row67 f) w' ∧ Below w.heap.size w w' := by
  obtain ⟨z, hz⟩ : ∃ z, z = w.heap.size := ⟨_, rfl⟩
  obtain ⟨w1, hw1⟩ : ∃ w1, w.alloc (.cells #[.func (.func g) #[rv] #[]] 69) = w1 := ⟨_, rfl⟩
  have hz1 : w1.heap.size = z + 1 := by rw [← hw1, World.size_alloc, hz]
  have hn1 : w1.heap[z]? = some (.cells #[.func (.func g) #[rv] #[]] 69 (0, 0)) := by rw [← hw1, hz]; exact heap_alloc_new _ _
  have hb1 : Below z w w1 := by rw [← hw1]; exact (Below.refl _ _).alloc (by omega) _
  have hmk := make_row w1
  obtain ⟨w2, hw2⟩ : ∃ w2, w1.alloc row0 = w2 := ⟨_, rfl⟩
  rw [hw2, hz1] at hmk
  have hz2 : w2.heap.size = z + 2 := by rw [← hw2, World.size_alloc, hz1]
  have hn2 : w2.heap[z + 1]? = some row0 := by rw [← hw2, ← hz1]; exact heap_alloc_new _ _
  obtain ⟨w3, hw3⟩ : ∃ w3, w2.alloc (.cells #[.slice (some ⟨z + 1, 0, none⟩) 0 67] 25) = w3 := ⟨_, rfl⟩
  have hz3 : w3.heap.size = z + 3 := by rw [← hw3, World.size_alloc, hz2]
  have hn3 : w3.heap[z + 2]? = some (.cells #[.slice (some ⟨z + 1, 0, none⟩) 0 67] 25 (0, 0)) := by rw [← hw3, ← hz2]; exact heap_alloc_new _ _
  have hb3 : Below z w w3 := by rw [← hw3, ← hw2]; exact (hb1.alloc (by omega) _).alloc (by simp; omega) _
  have hr3 : w3.heap[z + 1]? = some row0 := by rw [← hw3]; exact lit_old _ hn2
  have hf3 : w3.heap[z]? = some (.cells #[.func (.func g) #[rv] #[]] 69 (0, 0)) := by rw [← hw3, ← hw2]; exact lit_old _ (lit_old _ hn1)
  have hg3 : GAt z 0 [] w3 := ⟨hn3, rfl, .inr ⟨z + 1, 67, _, rfl, Nat.le_refl _, hr3, by omega, by unfold maxLen; omega, by simp, rfl⟩⟩
  have HF := Lib.hid (And.intro hb3 (And.intro hf3 hg3))
  have HZ3 := Lib.hid hz3
  have HB := Lib.hid hz
  have hz2' : w2.heap.size = z + 2 := hz2
  rw [← hz] at HS HP
  have HSS := Lib.hid HS
  have HT := Lib.hid (fun k hk => row67_take f k hk)
  have HL := Lib.hid (show (row67 f).length = 67 from row67_len f)
  have hB' : w.heap.size = z := hz.symm
  clear hz1 hn1 hb1 hz2 hn2 hz3 hn3 hb3 hr3 hf3 hg3 HS hz
  refine calls_of_wp_marks Tryd.func24 rfl ?_
  simp only [Tryd.ntmps24, List.size_toArray, List.length_cons, List.length_nil, Nat.reduceAdd, Nat.reduceSub, Array.replicate_succ, Array.replicate_zero, List.push_toArray, List.append_toArray, List.nil_append, List.cons_append]
  go_wp2
  refine wp_rangeFunc_read (gf := p) (lb := lb) rfl hcp HP (fun _ => rfl) (z + 3) HZ3.out [z + 1, z + 2] ?ok
    (fun k W => GAt z k ((row67 f).take k) W ∧ Kept (fun j => j < z + 3 ∧ j ∉ [z + 1, z + 2]) w3 W ∧ z + 3 ≤ W.heap.size) ?keep ?start
    (fun k => { tmps := #[.func (.func g) #[rv] #[], .func (.func p) #[] lb, .pointer (some ⟨z, 0, none⟩), undef, .slice none 0 0, .pointer (some ⟨z + 2, 0, none⟩), .int .i64 (k : Int), .int .i64 (c k : Int), .slice (some ⟨z + 1, 0, none⟩) 0 67, .func (.func p) #[] lb, .int .i64 (k : Int), .int .i64 (c k : Int), undef, undef, undef, undef, undef, undef, undef, undef], defers := [] }) ?assign ?body ?done
  case ok =>
    intro W' hW'
    have hz := HZ3.out
    exact HF.out.1.trans (hW'.below (B := z) (by omega) (fun j hj => ⟨by omega, by simp; omega⟩))
  case keep =>
    rintro k W W' ⟨h, h2, hz⟩ hk
    exact ⟨h.kept hk (fun j h1 h2 => .inl (by omega)), h2.trans (hk.less fun j _ hj => .inl hj.1), by have := hk.size; omega⟩
  case start => exact ⟨HF.out.2.2, Kept.refl _ _, by rw [HZ3.out]; exact Nat.le_refl _⟩
  case assign =>
    intro l k W K hK
    gi_wp2
    exact hK
  case body =>
    rintro l' k W hkm hWz ⟨hat, hkp3, hz⟩
    have hc2 : W.cell? ⟨z + 2, 0, none⟩ = some (.slice (some ⟨z + 1, 0, none⟩) k 67) := by simp [World.cell?, hat.1]
    have hc0 : W.cell? ⟨z, 0, none⟩ = some (.func (.func g) #[rv] #[]) := (World.cell?_of_block (a := ⟨z, 0, none⟩) (hkp3.block z (by rw [HZ3.out]; omega) ⟨by omega, by simp⟩)).trans (by simp [World.cell?, HF.out.2.1])
    have hbW : Below z w W.drew := (HF.out.1.trans (hkp3.below (B := z) (by rw [HZ3.out]; omega) (fun j hj => ⟨by omega, by simp; omega⟩))).drew
    have HND := Lib.hid (HSS.out k hkm W.drew hbW)
    have hatd : GAt z k ((row67 f).take k) W.drew := hat.kept (S := fun _ => True) (Kept.refl _ W).drew (fun _ _ _ => trivial)
    have HST := Lib.hid (fun (w1 : World) (hbel : Below W.drew.heap.size W.drew w1) => gt_step (z := z) (k := k) (W := W.drew) (w1 := w1) (X := (row67 f).take k) (t := f k) hWz hkm hatd hbel)
    have HEND := Lib.hid (show ∀ W'', Kept (fun j => (j < z + 3 ∧ j ∉ [z + 1, z + 2]) ∨ (z + 3 ≤ j ∧ j < z + 3 + 2)) W W'' → GAt z (k + 1) ((row67 f).take k ++ [f k]) W'' → Kept (fun j => (j < z + 3 ∧ j ∉ [z + 1, z + 2]) ∨ (z + 3 ≤ j ∧ j < z + 3 + 2)) W W'' ∧ GAt z (k + 1) ((row67 f).take (k + 1)) W'' ∧ Kept (fun j => j < z + 3 ∧ j ∉ [z + 1, z + 2]) w3 W'' ∧ z + 3 ≤ W''.heap.size from fun W'' h h2 => ⟨h, by rw [HT.out k hkm]; exact h2, hkp3.trans (h.less fun j _ hj => .inl hj), by have := h.size; omega⟩)
    have hmo : Tryd.prog.follows .mixedOrders = true := by kernel_rfl
    clear hat hkp3 hbW hatd hkm
    gi_wp2
    refine wpIn_region_round hmo (by kernel_rfl) (fun _ _ h => h) ?_
    refine wpAny_take (i := 2) (v := ?_) rfl (by kernel_rfl) (by kernel_rfl) (by kernel_rfl) (fun _ _ _ h => h) (Or.inl ⟨by rfl, ?_⟩) ?_
    rotate_left
    · intro wq
      go_simp
      with_reducible rfl
    refine wpAny_take (i := 3) (v := ?_) rfl (by kernel_rfl) (by kernel_rfl) (by kernel_rfl) (fun _ _ _ h => h) (Or.inl ⟨by rfl, ?_⟩) ?_
    rotate_left
    · intro wq
      go_simp
      with_reducible rfl
    refine wpAny_ready (rs := [0, 1]) (by kernel_rfl) (by simp) (AllReady.cons rfl (fun K hK => ?_) (AllReady.cons rfl (fun K hK => ?_) AllReady.nil))
    · go_simp
      refine hK _ _ ?_
      clear hK K
      refine wpAny_ready (rs := [1]) (by kernel_rfl) (by simp) (AllReady.cons rfl (fun K hK => ?_) AllReady.nil)
      go_simp
      refine hK _ _ ?_
      clear hK K
      refine wpAny_ready (rs := [4]) (by kernel_rfl) (by simp) (AllReady.cons rfl (fun K hK => ?_) AllReady.nil)
      go_simp
      refine HND.out.mono ?_
      rintro e w1 ⟨rfl, hbel⟩
      obtain ⟨w2, hrun, e1, e2, e3, hkp, hat⟩ := HST.out w1 hbel
      have HKP := Lib.hid ((Kept.refl _ W).drew.trans hkp)
      have HAT := Lib.hid hat
      have e4 : (w1.alloc (.cells #[.string ⟨(f k).toArray⟩] 9)).cell? ⟨z + 2, 0, none⟩ = some (.slice (some ⟨z + 1, 0, none⟩) k 67) := (World.cell?_alloc_lt _ _ _ (World.block_lt_of_cell? w1 _ e1)).trans e1
      clear hkp hat hbel
      refine hK _ _ ?_
      clear hK K
      refine wpAny_ready (rs := [5]) (by kernel_rfl) (by simp) (AllReady.cons rfl (fun K hK => ?_) AllReady.nil)
      go_simp
      refine hK _ _ ?_
      clear hK K
      refine wpAny_ready (rs := [6]) (by kernel_rfl) (by simp) (AllReady.cons rfl (fun K hK => ?_) AllReady.nil)
      refine step_append_run rfl _ _ 25 rfl rfl rfl hrun ?_
      go_frame
      refine hK _ _ ?_
      clear hK K
      refine wpAny_ready (rs := [7]) (by kernel_rfl) (by simp) (AllReady.cons rfl (fun K hK => ?_) AllReady.nil)
      go_simp
      refine hK _ _ ?_
      clear hK K
      refine wpAny_done (by kernel_rfl) ?_ _
      exact HEND.out _ HKP.out HAT.out
    · go_simp
      refine hK _ _ ?_
      clear hK K
      refine wpAny_ready (rs := [0, 4]) (by kernel_rfl) (by simp) (AllReady.cons rfl (fun K hK => ?_) (AllReady.cons rfl (fun K hK => ?_) AllReady.nil))
      · go_simp
        refine hK _ _ ?_
        clear hK K
        refine wpAny_ready (rs := [4]) (by kernel_rfl) (by simp) (AllReady.cons rfl (fun K hK => ?_) AllReady.nil)
        go_simp
        refine HND.out.mono ?_
        rintro e w1 ⟨rfl, hbel⟩
        obtain ⟨w2, hrun, e1, e2, e3, hkp, hat⟩ := HST.out w1 hbel
        have HKP := Lib.hid ((Kept.refl _ W).drew.trans hkp)
        have HAT := Lib.hid hat
        have e4 : (w1.alloc (.cells #[.string ⟨(f k).toArray⟩] 9)).cell? ⟨z + 2, 0, none⟩ = some (.slice (some ⟨z + 1, 0, none⟩) k 67) := (World.cell?_alloc_lt _ _ _ (World.block_lt_of_cell? w1 _ e1)).trans e1
        clear hkp hat hbel
        refine hK _ _ ?_
        clear hK K
        refine wpAny_ready (rs := [5]) (by kernel_rfl) (by simp) (AllReady.cons rfl (fun K hK => ?_) AllReady.nil)
        go_simp
        refine hK _ _ ?_
        clear hK K
        refine wpAny_ready (rs := [6]) (by kernel_rfl) (by simp) (AllReady.cons rfl (fun K hK => ?_) AllReady.nil)
        refine step_append_run rfl _ _ 25 rfl rfl rfl hrun ?_
        go_frame
        refine hK _ _ ?_
        clear hK K
        refine wpAny_ready (rs := [7]) (by kernel_rfl) (by simp) (AllReady.cons rfl (fun K hK => ?_) AllReady.nil)
        go_simp
        refine hK _ _ ?_
        clear hK K
        refine wpAny_done (by kernel_rfl) ?_ _
        exact HEND.out _ HKP.out HAT.out
      · go_simp
        refine HND.out.mono ?_
        rintro e w1 ⟨rfl, hbel⟩
        obtain ⟨w2, hrun, e1, e2, e3, hkp, hat⟩ := HST.out w1 hbel
        have HKP := Lib.hid ((Kept.refl _ W).drew.trans hkp)
        have HAT := Lib.hid hat
        have e4 : (w1.alloc (.cells #[.string ⟨(f k).toArray⟩] 9)).cell? ⟨z + 2, 0, none⟩ = some (.slice (some ⟨z + 1, 0, none⟩) k 67) := (World.cell?_alloc_lt _ _ _ (World.block_lt_of_cell? w1 _ e1)).trans e1
        clear hkp hat hbel
        refine hK _ _ ?_
        clear hK K
        refine wpAny_ready (rs := [0, 5]) (by kernel_rfl) (by simp) (AllReady.cons rfl (fun K hK => ?_) (AllReady.cons rfl (fun K hK => ?_) AllReady.nil))
        · go_simp
          refine hK _ _ ?_
          clear hK K
          refine wpAny_ready (rs := [5]) (by kernel_rfl) (by simp) (AllReady.cons rfl (fun K hK => ?_) AllReady.nil)
          go_simp
          refine hK _ _ ?_
          clear hK K
          refine wpAny_ready (rs := [6]) (by kernel_rfl) (by simp) (AllReady.cons rfl (fun K hK => ?_) AllReady.nil)
          refine step_append_run rfl _ _ 25 rfl rfl rfl hrun ?_
          go_frame
          refine hK _ _ ?_
          clear hK K
          refine wpAny_ready (rs := [7]) (by kernel_rfl) (by simp) (AllReady.cons rfl (fun K hK => ?_) AllReady.nil)
          go_simp
          refine hK _ _ ?_
          clear hK K
          refine wpAny_done (by kernel_rfl) ?_ _
          exact HEND.out _ HKP.out HAT.out
        · go_simp
          refine hK _ _ ?_
          clear hK K
          refine wpAny_ready (rs := [0]) (by kernel_rfl) (by simp) (AllReady.cons rfl (fun K hK => ?_) AllReady.nil)
          go_simp
          refine hK _ _ ?_
          clear hK K
          refine wpAny_ready (rs := [6]) (by kernel_rfl) (by simp) (AllReady.cons rfl (fun K hK => ?_) AllReady.nil)
          refine step_append_run rfl _ _ 25 rfl rfl rfl hrun ?_
          go_frame
          refine hK _ _ ?_
          clear hK K
          refine wpAny_ready (rs := [7]) (by kernel_rfl) (by simp) (AllReady.cons rfl (fun K hK => ?_) AllReady.nil)
          go_simp
          refine hK _ _ ?_
          clear hK K
          refine wpAny_done (by kernel_rfl) ?_ _
          exact HEND.out _ HKP.out HAT.out
  case done =>
    rintro W ⟨hat, hkp3, hz⟩ hkept hdef
    have hc2 : W.cell? ⟨z + 2, 0, none⟩ = some (.slice (some ⟨z + 1, 0, none⟩) 67 67) := by simp [World.cell?, hat.1]
    have HAT := Lib.hid hat
    have HK3 := Lib.hid hkp3
    clear hat hkept hkp3
    go_wp2
    refine ⟨by simp, .inl ⟨_, _, rfl, run_takeDeferred hdef, ?_⟩⟩
    have kp : Kept (fun j => j ≠ z + 3) W (W.putObj (z + 3) (.deferred none)) := Kept.putObj _ _ _ _ (by simp)
    have hbw := (HK3.out.trans (kp.less (T := fun j => j < z + 3 ∧ j ∉ [z + 1, z + 2]) fun j _ h => by omega)).below (B := z) (by rw [HZ3.out]; omega) (fun j h => ⟨by omega, by simp; omega⟩)
    have hat2 := HAT.out.kept kp (fun j _ h => by omega)
    rw [List.take_of_length_le (by rw [HL.out]; exact Nat.le_refl _)] at hat2
    refine ⟨_, results_tmp rfl _ _ _, z + 1, rfl, ?_, by rw [hB']; exact HF.out.1.trans hbw⟩
    have hrow := hat2.2
    have h1 := (trow_strs (X := row67 f) (B := z + 1) (n := 67) (by rw [TRow, HL.out]; exact hrow) HL.out.symm).1
    exact h1
end Go.Proofs.YtpbbpkflljcklaaDoor
