/- read[T]: what recovers. -/
import Derived.Test.YtbkiijndhjmkdaaGreatDoorJ22
namespace Go.Proofs.YtbkiijndhjmkdaaGreatDoor
open Go.RowKit Go.Extern.Stop Go.Stop Go.Extern

/-- what recovers leaves: a zero thing, the fault -/
structure Caught (xv ev f : Nat) (zs : Array Value) (T : TypeId) (w w' : World) : Prop where
  x : w'.heap[xv]? = some (.cells zs T (0, 0))
  e : w'.heap[ev]? = some (.cells #[.iface 106 (.pointer (some ⟨f, 0, none⟩))] 34 (0, 0))
  d : Duo xv ev w w'

set_option maxRecDepth 100000 in
set_option maxHeartbeats 4000000 in
theorem readPart1_catch (f xv ev : Nat) (x0 x1 x2 x3 x4 y : Value) (older : List PanicEntry) (w : World) (hg : GlobE w) (hf : f < w.heap.size) (hne : xv ≠ ev) (hx : w.heap[xv]? = some (.cells #[x0, x1, x2, x3, x4] 24 (0, 0))) (he : w.heap[ev]? = some (.cells #[y] 34 (0, 0))) :
    CallsD Tryz.prog 85 #[.pointer (some ⟨xv, 0, none⟩), .pointer (some ⟨ev, 0, none⟩)] (.panicking ({ v := .iface 106 (.pointer (some ⟨f, 0, none⟩)), recovered := false } :: older)) w fun e u' w' =>
      e = .returned (.tuple #[]) ∧ u' = .panicking ({ v := .iface 106 (.pointer (some ⟨f, 0, none⟩)), recovered := true } :: older) ∧ Caught xv ev f #[.string ⟨#[]⟩, .int .u64 0, .int .u64 0, .int .u64 0, .int .u64 0] 24 w w' := by
  have hta := to_error
  have hxl := lit_lt hx
  have hel := lit_lt he
  have hN : (w.alloc (.cells #[.string ⟨#[]⟩, .int .u64 0, .int .u64 0, .int .u64 0, .int .u64 0] 24)).drew.heap[w.heap.size]? = some (.cells #[.string ⟨#[]⟩, .int .u64 0, .int .u64 0, .int .u64 0, .int .u64 0] 24 (0, 0)) := heap_alloc_new w (.cells #[.string ⟨#[]⟩, .int .u64 0, .int .u64 0, .int .u64 0, .int .u64 0] 24)
  have HB := Lib.hid ((by0 w (.cells #[.string ⟨#[]⟩, .int .u64 0, .int .u64 0, .int .u64 0, .int .u64 0] 24)).drew)
  have HF := Lib.hid (faultOf_any f _ (hg.next HB.out) (by show f < (w.alloc _).heap.size; rw [World.size_alloc]; omega))
  have HX := Lib.hid ((HB.out.block xv hxl).trans hx)
  have HE := Lib.hid ((HB.out.block ev hel).trans he)
  have HL := Lib.hid (And.intro hxl hel)
  clear hg hx he
  refine callsD_of_wpS Tryz.func85 rfl fun c₀ cs hu => ?_
  simp only [Tryz.ntmps85, List.size_toArray, List.length_cons, List.length_nil, Nat.reduceAdd, Nat.reduceSub, Array.replicate_succ, Array.replicate_zero, List.push_toArray, List.append_toArray, List.nil_append, List.cons_append]
  apply wpS_seq
  apply wpS_region
  simp [wpOpsS, go_sem, recoverD, hu, Exit.thenS, hta]
  refine wpS_of_wp ?_
  go_upto_region 3 with fail
  refine wp_region_held_drew (S := fun w' => w'.heap[w.heap.size]? = some (.cells #[.string ⟨#[]⟩, .int .u64 0, .int .u64 0, .int .u64 0, .int .u64 0] 24 (0, 0))) (by kernel_rfl) hN (fun hH => ?_)
  generalize (w.alloc (.cells #[.string ⟨#[]⟩, .int .u64 0, .int .u64 0, .int .u64 0, .int .u64 0] 24)).drew = w8 at *
  refine wpAnyH_take (i := 0) (oi := ⟨some 11, .load 24 (.tmp 4), _, _, _, none⟩) (v := .agg #[.string ⟨#[]⟩, .int .u64 0, .int .u64 0, .int .u64 0, .int .u64 0]) rfl (by kernel_rfl) (by kernel_rfl) (by kernel_rfl) (fun _ _ _ h => h) (Or.inl ⟨by rfl, fun w1 hS => by have c0 := (lit_cell hS 0).trans rfl; have c1 := (lit_cell hS 1).trans rfl; have c2 := (lit_cell hS 2).trans rfl; have c3 := (lit_cell hS 3).trans rfl; have c4 := (lit_cell hS 4).trans rfl; go_simp⟩) hH ?_
  try simp only [Act.put, List.setIfInBounds_toArray, List.set_cons_succ, List.set_cons_zero]
  refine wpAnyH_take (i := 1) (oi := ⟨some 12, .move (.tmp 2), _, _, _, none⟩) (v := .iface 106 (.pointer (some ⟨f, 0, none⟩))) rfl (by kernel_rfl) (by kernel_rfl) (by kernel_rfl) (fun _ _ _ h => h) (Or.inl ⟨by rfl, fun _ _ => rfl⟩) hH ?_
  try simp only [Act.put, List.setIfInBounds_toArray, List.set_cons_succ, List.set_cons_zero]
  refine wpAnyH_ready (rs := [2]) (by kernel_rfl) (by simp) (AllReadyH.cons (o := ⟨some 13, .call ⟨.value (.func 79), #[.tmp 12], #[34]⟩, _, _, _, none⟩) rfl (fun K hK => ?_) AllReadyH.nil)
  have HK := Lib.hid hK
  clear hK
  go_simp
  refine HF.out.mono ?_
  rintro e w9 ⟨rfl, hb9⟩
  have hS9 := (hb9.block w.heap.size (lit_lt hH)).trans hH
  have HX9 := (hb9.block xv (lit_lt HX.out)).trans HX.out
  have HE9 := (hb9.block ev (lit_lt HE.out)).trans HE.out
  refine HK.out.out _ _ hS9 (fun _ => ?_)
  clear HK K
  try simp only [Act.put, List.setIfInBounds_toArray, List.set_cons_succ, List.set_cons_zero]
  refine wpAnyH_take (i := 3) (oi := ⟨some 14, .makeInterface 106 (.tmp 13), _, _, _, none⟩) (v := .iface 106 (.pointer (some ⟨f, 0, none⟩))) rfl (by kernel_rfl) (by kernel_rfl) (by kernel_rfl) (fun _ _ _ h => h) (Or.inl ⟨by rfl, fun _ _ => by first | rfl | go_simp⟩) hS9 ?_
  try simp only [Act.put, List.setIfInBounds_toArray, List.set_cons_succ, List.set_cons_zero]
  have p0 := (lit_cell HX9 0).trans rfl
  have q0 := lit_free HX9 0
  have p1 := (lit_cell HX9 1).trans rfl
  have q1 := lit_free HX9 1
  have p2 := (lit_cell HX9 2).trans rfl
  have q2 := lit_free HX9 2
  have p3 := (lit_cell HX9 3).trans rfl
  have q3 := lit_free HX9 3
  have p4 := (lit_cell HX9 4).trans rfl
  have q4 := lit_free HX9 4
  refine wpAnyH_ready (rs := [4]) (by kernel_rfl) (by simp) (AllReadyH.cons (o := ⟨none, .store 24 (.tmp 0) (.tmp 11), _, _, _, none⟩) rfl (fun K hK => ?_) AllReadyH.nil)
  have hx2 := lit_set (k := 4) (.int .u64 0) (lit_set (k := 3) (.int .u64 0) (lit_set (k := 2) (.int .u64 0) (lit_set (k := 1) (.int .u64 0) (lit_set (k := 0) (.string ⟨#[]⟩) (HX9)))))
  have ho2 : Only xv w9 ((((((w9).setCell ⟨xv, 0, none⟩ (.string ⟨#[]⟩)).setCell ⟨xv, 1, none⟩ (.int .u64 0)).setCell ⟨xv, 2, none⟩ (.int .u64 0)).setCell ⟨xv, 3, none⟩ (.int .u64 0)).setCell ⟨xv, 4, none⟩ (.int .u64 0)) := (((((Only.refl xv w9).trans (Only.set xv 0 (.string ⟨#[]⟩) (w9))).trans (Only.set xv 1 (.int .u64 0) ((w9).setCell ⟨xv, 0, none⟩ (.string ⟨#[]⟩)))).trans (Only.set xv 2 (.int .u64 0) (((w9).setCell ⟨xv, 0, none⟩ (.string ⟨#[]⟩)).setCell ⟨xv, 1, none⟩ (.int .u64 0)))).trans (Only.set xv 3 (.int .u64 0) ((((w9).setCell ⟨xv, 0, none⟩ (.string ⟨#[]⟩)).setCell ⟨xv, 1, none⟩ (.int .u64 0)).setCell ⟨xv, 2, none⟩ (.int .u64 0)))).trans (Only.set xv 4 (.int .u64 0) (((((w9).setCell ⟨xv, 0, none⟩ (.string ⟨#[]⟩)).setCell ⟨xv, 1, none⟩ (.int .u64 0)).setCell ⟨xv, 2, none⟩ (.int .u64 0)).setCell ⟨xv, 3, none⟩ (.int .u64 0)))
  go_simp
  change K _ ((((((w9).setCell ⟨xv, 0, none⟩ (.string ⟨#[]⟩)).setCell ⟨xv, 1, none⟩ (.int .u64 0)).setCell ⟨xv, 2, none⟩ (.int .u64 0)).setCell ⟨xv, 3, none⟩ (.int .u64 0)).setCell ⟨xv, 4, none⟩ (.int .u64 0))
  generalize (((((w9).setCell ⟨xv, 0, none⟩ (.string ⟨#[]⟩)).setCell ⟨xv, 1, none⟩ (.int .u64 0)).setCell ⟨xv, 2, none⟩ (.int .u64 0)).setCell ⟨xv, 3, none⟩ (.int .u64 0)).setCell ⟨xv, 4, none⟩ (.int .u64 0) = w10 at *
  have hne2 : xv ≠ w.heap.size := by have := HL.out; omega
  have hS10 := (ho2.block w.heap.size (lit_lt hS9) (by omega)).trans hS9
  have HE10 := (ho2.block ev (lit_lt HE9) (by omega)).trans HE9
  refine hK.out _ _ hS10 (fun _ => ?_)
  clear hK K
  try simp only [Act.put, List.setIfInBounds_toArray, List.set_cons_succ, List.set_cons_zero]
  have y0 := (lit_cell HE10 0).trans rfl
  have y1 := lit_free HE10 0
  refine wpAnyH_ready (rs := [5]) (by kernel_rfl) (by simp) (AllReadyH.cons (o := ⟨none, .store 34 (.tmp 1) (.tmp 14), _, _, _, none⟩) rfl (fun K hK => ?_) AllReadyH.nil)
  go_simp
  have hS11 : (w10.setCell ⟨ev, 0, none⟩ (.iface 106 (.pointer (some ⟨f, 0, none⟩)))).heap[w.heap.size]? = some (.cells #[.string ⟨#[]⟩, .int .u64 0, .int .u64 0, .int .u64 0, .int .u64 0] 24 (0, 0)) := (lit_far _ (by have := HL.out; omega)).trans hS10
  refine hK.out _ _ hS11 (fun _ => ?_)
  clear hK K
  try simp only [Act.put, List.setIfInBounds_toArray, List.set_cons_succ, List.set_cons_zero]
  refine wpAnyH_done (by kernel_rfl) ?_ _
  have HC : Caught xv ev f #[.string ⟨#[]⟩, .int .u64 0, .int .u64 0, .int .u64 0, .int .u64 0] 24 w (w10.setCell ⟨ev, 0, none⟩ (.iface 106 (.pointer (some ⟨f, 0, none⟩)))) := ⟨(lit_far _ hne).trans (hx2.trans (by simp)), (lit_set _ HE10).trans rfl, ((((Duo.below HB.out).trans (Duo.below hb9)).trans (Duo.only ho2)).trans (Duo.only2 (Only.set ev 0 _ w10)))⟩
  have HCH := Lib.hid HC
  clear HC
  generalize w10.setCell ⟨ev, 0, none⟩ (.iface 106 (.pointer (some ⟨f, 0, none⟩))) = w11 at *
  go_wp2
  exact ⟨rfl, _, rfl, _, results_none rfl _ _ _, rfl, rfl, HCH.out⟩
set_option maxRecDepth 100000 in
set_option maxHeartbeats 4000000 in
theorem readPart1_idle (xv ev : Nat) (w : World) :
    CallsD Tryz.prog 85 #[.pointer (some ⟨xv, 0, none⟩), .pointer (some ⟨ev, 0, none⟩)] .returning w fun e u' w' => e = .returned (.tuple #[]) ∧ u' = .returning ∧ w' = w := by
  have hta : ∀ w, (Instr.typeAssert .nilIface 20 34 true).run Tryz.prog w = .ok (.tuple #[.nilIface, .bool false]) w := fun w => by kernel_rfl
  refine callsD_of_wpS Tryz.func85 rfl fun c₀ cs hu => ?_
  simp only [Tryz.ntmps85, List.size_toArray, List.length_cons, List.length_nil, Nat.reduceAdd, Nat.reduceSub, Array.replicate_succ, Array.replicate_zero, List.push_toArray, List.append_toArray, List.nil_append, List.cons_append]
  apply wpS_seq
  apply wpS_region
  simp [wpOpsS, go_sem, recoverD, hu, Exit.thenS, hta]
  refine wpS_of_wp ?_
  go_wp2
  cases c₀
  simp only at hu
  subst hu
  exact ⟨rfl, _, rfl, _, results_none rfl _ _ _, rfl, rfl, rfl⟩

set_option maxRecDepth 100000 in
set_option maxHeartbeats 4000000 in
theorem readSlot1_catch (f xv ev : Nat) (x0 x1 x2 x3 x4 y : Value) (older : List PanicEntry) (w : World) (hg : GlobE w) (hf : f < w.heap.size) (hne : xv ≠ ev) (hx : w.heap[xv]? = some (.cells #[x0, x1, x2, x3, x4] 48 (0, 0))) (he : w.heap[ev]? = some (.cells #[y] 34 (0, 0))) :
    CallsD Tryz.prog 107 #[.pointer (some ⟨xv, 0, none⟩), .pointer (some ⟨ev, 0, none⟩)] (.panicking ({ v := .iface 106 (.pointer (some ⟨f, 0, none⟩)), recovered := false } :: older)) w fun e u' w' =>
      e = .returned (.tuple #[]) ∧ u' = .panicking ({ v := .iface 106 (.pointer (some ⟨f, 0, none⟩)), recovered := true } :: older) ∧ Caught xv ev f #[.int .u64 0, .bool false, .int .u64 0, .slice none 0 0, .slice none 0 0] 48 w w' := by
  have hta := to_error
  have hxl := lit_lt hx
  have hel := lit_lt he
  have hN : (w.alloc (.cells #[.int .u64 0, .bool false, .int .u64 0, .slice none 0 0, .slice none 0 0] 48)).drew.heap[w.heap.size]? = some (.cells #[.int .u64 0, .bool false, .int .u64 0, .slice none 0 0, .slice none 0 0] 48 (0, 0)) := heap_alloc_new w (.cells #[.int .u64 0, .bool false, .int .u64 0, .slice none 0 0, .slice none 0 0] 48)
  have HB := Lib.hid ((by0 w (.cells #[.int .u64 0, .bool false, .int .u64 0, .slice none 0 0, .slice none 0 0] 48)).drew)
  have HF := Lib.hid (faultOf_any f _ (hg.next HB.out) (by show f < (w.alloc _).heap.size; rw [World.size_alloc]; omega))
  have HX := Lib.hid ((HB.out.block xv hxl).trans hx)
  have HE := Lib.hid ((HB.out.block ev hel).trans he)
  have HL := Lib.hid (And.intro hxl hel)
  clear hg hx he
  refine callsD_of_wpS Tryz.func107 rfl fun c₀ cs hu => ?_
  simp only [Tryz.ntmps107, List.size_toArray, List.length_cons, List.length_nil, Nat.reduceAdd, Nat.reduceSub, Array.replicate_succ, Array.replicate_zero, List.push_toArray, List.append_toArray, List.nil_append, List.cons_append]
  apply wpS_seq
  apply wpS_region
  simp [wpOpsS, go_sem, recoverD, hu, Exit.thenS, hta]
  refine wpS_of_wp ?_
  go_upto_region 3 with fail
  refine wp_region_held_drew (S := fun w' => w'.heap[w.heap.size]? = some (.cells #[.int .u64 0, .bool false, .int .u64 0, .slice none 0 0, .slice none 0 0] 48 (0, 0))) (by kernel_rfl) hN (fun hH => ?_)
  generalize (w.alloc (.cells #[.int .u64 0, .bool false, .int .u64 0, .slice none 0 0, .slice none 0 0] 48)).drew = w8 at *
  refine wpAnyH_take (i := 0) (oi := ⟨some 11, .load 48 (.tmp 4), _, _, _, none⟩) (v := .agg #[.int .u64 0, .bool false, .int .u64 0, .slice none 0 0, .slice none 0 0]) rfl (by kernel_rfl) (by kernel_rfl) (by kernel_rfl) (fun _ _ _ h => h) (Or.inl ⟨by rfl, fun w1 hS => by have c0 := (lit_cell hS 0).trans rfl; have c1 := (lit_cell hS 1).trans rfl; have c2 := (lit_cell hS 2).trans rfl; have c3 := (lit_cell hS 3).trans rfl; have c4 := (lit_cell hS 4).trans rfl; go_simp⟩) hH ?_
  try simp only [Act.put, List.setIfInBounds_toArray, List.set_cons_succ, List.set_cons_zero]
  refine wpAnyH_take (i := 1) (oi := ⟨some 12, .move (.tmp 2), _, _, _, none⟩) (v := .iface 106 (.pointer (some ⟨f, 0, none⟩))) rfl (by kernel_rfl) (by kernel_rfl) (by kernel_rfl) (fun _ _ _ h => h) (Or.inl ⟨by rfl, fun _ _ => rfl⟩) hH ?_
  try simp only [Act.put, List.setIfInBounds_toArray, List.set_cons_succ, List.set_cons_zero]
  refine wpAnyH_ready (rs := [2]) (by kernel_rfl) (by simp) (AllReadyH.cons (o := ⟨some 13, .call ⟨.value (.func 79), #[.tmp 12], #[34]⟩, _, _, _, none⟩) rfl (fun K hK => ?_) AllReadyH.nil)
  have HK := Lib.hid hK
  clear hK
  go_simp
  refine HF.out.mono ?_
  rintro e w9 ⟨rfl, hb9⟩
  have hS9 := (hb9.block w.heap.size (lit_lt hH)).trans hH
  have HX9 := (hb9.block xv (lit_lt HX.out)).trans HX.out
  have HE9 := (hb9.block ev (lit_lt HE.out)).trans HE.out
  refine HK.out.out _ _ hS9 (fun _ => ?_)
  clear HK K
  try simp only [Act.put, List.setIfInBounds_toArray, List.set_cons_succ, List.set_cons_zero]
  refine wpAnyH_take (i := 3) (oi := ⟨some 14, .makeInterface 106 (.tmp 13), _, _, _, none⟩) (v := .iface 106 (.pointer (some ⟨f, 0, none⟩))) rfl (by kernel_rfl) (by kernel_rfl) (by kernel_rfl) (fun _ _ _ h => h) (Or.inl ⟨by rfl, fun _ _ => by first | rfl | go_simp⟩) hS9 ?_
  try simp only [Act.put, List.setIfInBounds_toArray, List.set_cons_succ, List.set_cons_zero]
  have p0 := (lit_cell HX9 0).trans rfl
  have q0 := lit_free HX9 0
  have p1 := (lit_cell HX9 1).trans rfl
  have q1 := lit_free HX9 1
  have p2 := (lit_cell HX9 2).trans rfl
  have q2 := lit_free HX9 2
  have p3 := (lit_cell HX9 3).trans rfl
  have q3 := lit_free HX9 3
  have p4 := (lit_cell HX9 4).trans rfl
  have q4 := lit_free HX9 4
  refine wpAnyH_ready (rs := [4]) (by kernel_rfl) (by simp) (AllReadyH.cons (o := ⟨none, .store 48 (.tmp 0) (.tmp 11), _, _, _, none⟩) rfl (fun K hK => ?_) AllReadyH.nil)
  have hx2 := lit_set (k := 4) (.slice none 0 0) (lit_set (k := 3) (.slice none 0 0) (lit_set (k := 2) (.int .u64 0) (lit_set (k := 1) (.bool false) (lit_set (k := 0) (.int .u64 0) (HX9)))))
  have ho2 : Only xv w9 ((((((w9).setCell ⟨xv, 0, none⟩ (.int .u64 0)).setCell ⟨xv, 1, none⟩ (.bool false)).setCell ⟨xv, 2, none⟩ (.int .u64 0)).setCell ⟨xv, 3, none⟩ (.slice none 0 0)).setCell ⟨xv, 4, none⟩ (.slice none 0 0)) := (((((Only.refl xv w9).trans (Only.set xv 0 (.int .u64 0) (w9))).trans (Only.set xv 1 (.bool false) ((w9).setCell ⟨xv, 0, none⟩ (.int .u64 0)))).trans (Only.set xv 2 (.int .u64 0) (((w9).setCell ⟨xv, 0, none⟩ (.int .u64 0)).setCell ⟨xv, 1, none⟩ (.bool false)))).trans (Only.set xv 3 (.slice none 0 0) ((((w9).setCell ⟨xv, 0, none⟩ (.int .u64 0)).setCell ⟨xv, 1, none⟩ (.bool false)).setCell ⟨xv, 2, none⟩ (.int .u64 0)))).trans (Only.set xv 4 (.slice none 0 0) (((((w9).setCell ⟨xv, 0, none⟩ (.int .u64 0)).setCell ⟨xv, 1, none⟩ (.bool false)).setCell ⟨xv, 2, none⟩ (.int .u64 0)).setCell ⟨xv, 3, none⟩ (.slice none 0 0)))
  go_simp
  change K _ ((((((w9).setCell ⟨xv, 0, none⟩ (.int .u64 0)).setCell ⟨xv, 1, none⟩ (.bool false)).setCell ⟨xv, 2, none⟩ (.int .u64 0)).setCell ⟨xv, 3, none⟩ (.slice none 0 0)).setCell ⟨xv, 4, none⟩ (.slice none 0 0))
  generalize (((((w9).setCell ⟨xv, 0, none⟩ (.int .u64 0)).setCell ⟨xv, 1, none⟩ (.bool false)).setCell ⟨xv, 2, none⟩ (.int .u64 0)).setCell ⟨xv, 3, none⟩ (.slice none 0 0)).setCell ⟨xv, 4, none⟩ (.slice none 0 0) = w10 at *
  have hne2 : xv ≠ w.heap.size := by have := HL.out; omega
  have hS10 := (ho2.block w.heap.size (lit_lt hS9) (by omega)).trans hS9
  have HE10 := (ho2.block ev (lit_lt HE9) (by omega)).trans HE9
  refine hK.out _ _ hS10 (fun _ => ?_)
  clear hK K
  try simp only [Act.put, List.setIfInBounds_toArray, List.set_cons_succ, List.set_cons_zero]
  have y0 := (lit_cell HE10 0).trans rfl
  have y1 := lit_free HE10 0
  refine wpAnyH_ready (rs := [5]) (by kernel_rfl) (by simp) (AllReadyH.cons (o := ⟨none, .store 34 (.tmp 1) (.tmp 14), _, _, _, none⟩) rfl (fun K hK => ?_) AllReadyH.nil)
  go_simp
  have hS11 : (w10.setCell ⟨ev, 0, none⟩ (.iface 106 (.pointer (some ⟨f, 0, none⟩)))).heap[w.heap.size]? = some (.cells #[.int .u64 0, .bool false, .int .u64 0, .slice none 0 0, .slice none 0 0] 48 (0, 0)) := (lit_far _ (by have := HL.out; omega)).trans hS10
  refine hK.out _ _ hS11 (fun _ => ?_)
  clear hK K
  try simp only [Act.put, List.setIfInBounds_toArray, List.set_cons_succ, List.set_cons_zero]
  refine wpAnyH_done (by kernel_rfl) ?_ _
  have HC : Caught xv ev f #[.int .u64 0, .bool false, .int .u64 0, .slice none 0 0, .slice none 0 0] 48 w (w10.setCell ⟨ev, 0, none⟩ (.iface 106 (.pointer (some ⟨f, 0, none⟩)))) := ⟨(lit_far _ hne).trans (hx2.trans (by simp)), (lit_set _ HE10).trans rfl, ((((Duo.below HB.out).trans (Duo.below hb9)).trans (Duo.only ho2)).trans (Duo.only2 (Only.set ev 0 _ w10)))⟩
  have HCH := Lib.hid HC
  clear HC
  generalize w10.setCell ⟨ev, 0, none⟩ (.iface 106 (.pointer (some ⟨f, 0, none⟩))) = w11 at *
  go_wp2
  exact ⟨rfl, _, rfl, _, results_none rfl _ _ _, rfl, rfl, HCH.out⟩
set_option maxRecDepth 100000 in
set_option maxHeartbeats 4000000 in
theorem readSlot1_idle (xv ev : Nat) (w : World) :
    CallsD Tryz.prog 107 #[.pointer (some ⟨xv, 0, none⟩), .pointer (some ⟨ev, 0, none⟩)] .returning w fun e u' w' => e = .returned (.tuple #[]) ∧ u' = .returning ∧ w' = w := by
  have hta : ∀ w, (Instr.typeAssert .nilIface 20 34 true).run Tryz.prog w = .ok (.tuple #[.nilIface, .bool false]) w := fun w => by kernel_rfl
  refine callsD_of_wpS Tryz.func107 rfl fun c₀ cs hu => ?_
  simp only [Tryz.ntmps107, List.size_toArray, List.length_cons, List.length_nil, Nat.reduceAdd, Nat.reduceSub, Array.replicate_succ, Array.replicate_zero, List.push_toArray, List.append_toArray, List.nil_append, List.cons_append]
  apply wpS_seq
  apply wpS_region
  simp [wpOpsS, go_sem, recoverD, hu, Exit.thenS, hta]
  refine wpS_of_wp ?_
  go_wp2
  cases c₀
  simp only at hu
  subst hu
  exact ⟨rfl, _, rfl, _, results_none rfl _ _ _, rfl, rfl, rfl⟩

set_option maxRecDepth 100000 in
set_option maxHeartbeats 4000000 in
theorem readCert1_catch (f xv ev : Nat) (x0 x1 x2 x3 x4 x5 y : Value) (older : List PanicEntry) (w : World) (hg : GlobE w) (hf : f < w.heap.size) (hne : xv ≠ ev) (hx : w.heap[xv]? = some (.cells #[x0, x1, x2, x3, x4, x5] 60 (0, 0))) (he : w.heap[ev]? = some (.cells #[y] 34 (0, 0))) :
    CallsD Tryz.prog 116 #[.pointer (some ⟨xv, 0, none⟩), .pointer (some ⟨ev, 0, none⟩)] (.panicking ({ v := .iface 106 (.pointer (some ⟨f, 0, none⟩)), recovered := false } :: older)) w fun e u' w' =>
      e = .returned (.tuple #[]) ∧ u' = .panicking ({ v := .iface 106 (.pointer (some ⟨f, 0, none⟩)), recovered := true } :: older) ∧ Caught xv ev f #[.string ⟨#[]⟩, .int .u64 0, .slice none 0 0, .slice none 0 0, .slice none 0 0, .slice none 0 0] 60 w w' := by
  have hta := to_error
  have hxl := lit_lt hx
  have hel := lit_lt he
  have hN : (w.alloc (.cells #[.string ⟨#[]⟩, .int .u64 0, .slice none 0 0, .slice none 0 0, .slice none 0 0, .slice none 0 0] 60)).drew.heap[w.heap.size]? = some (.cells #[.string ⟨#[]⟩, .int .u64 0, .slice none 0 0, .slice none 0 0, .slice none 0 0, .slice none 0 0] 60 (0, 0)) := heap_alloc_new w (.cells #[.string ⟨#[]⟩, .int .u64 0, .slice none 0 0, .slice none 0 0, .slice none 0 0, .slice none 0 0] 60)
  have HB := Lib.hid ((by0 w (.cells #[.string ⟨#[]⟩, .int .u64 0, .slice none 0 0, .slice none 0 0, .slice none 0 0, .slice none 0 0] 60)).drew)
  have HF := Lib.hid (faultOf_any f _ (hg.next HB.out) (by show f < (w.alloc _).heap.size; rw [World.size_alloc]; omega))
  have HX := Lib.hid ((HB.out.block xv hxl).trans hx)
  have HE := Lib.hid ((HB.out.block ev hel).trans he)
  have HL := Lib.hid (And.intro hxl hel)
  clear hg hx he
  refine callsD_of_wpS Tryz.func116 rfl fun c₀ cs hu => ?_
  simp only [Tryz.ntmps116, List.size_toArray, List.length_cons, List.length_nil, Nat.reduceAdd, Nat.reduceSub, Array.replicate_succ, Array.replicate_zero, List.push_toArray, List.append_toArray, List.nil_append, List.cons_append]
  apply wpS_seq
  apply wpS_region
  simp [wpOpsS, go_sem, recoverD, hu, Exit.thenS, hta]
  refine wpS_of_wp ?_
  go_upto_region 3 with fail
  refine wp_region_held_drew (S := fun w' => w'.heap[w.heap.size]? = some (.cells #[.string ⟨#[]⟩, .int .u64 0, .slice none 0 0, .slice none 0 0, .slice none 0 0, .slice none 0 0] 60 (0, 0))) (by kernel_rfl) hN (fun hH => ?_)
  generalize (w.alloc (.cells #[.string ⟨#[]⟩, .int .u64 0, .slice none 0 0, .slice none 0 0, .slice none 0 0, .slice none 0 0] 60)).drew = w8 at *
  refine wpAnyH_take (i := 0) (oi := ⟨some 11, .load 60 (.tmp 4), _, _, _, none⟩) (v := .agg #[.string ⟨#[]⟩, .int .u64 0, .slice none 0 0, .slice none 0 0, .slice none 0 0, .slice none 0 0]) rfl (by kernel_rfl) (by kernel_rfl) (by kernel_rfl) (fun _ _ _ h => h) (Or.inl ⟨by rfl, fun w1 hS => by have c0 := (lit_cell hS 0).trans rfl; have c1 := (lit_cell hS 1).trans rfl; have c2 := (lit_cell hS 2).trans rfl; have c3 := (lit_cell hS 3).trans rfl; have c4 := (lit_cell hS 4).trans rfl; have c5 := (lit_cell hS 5).trans rfl; go_simp⟩) hH ?_
  try simp only [Act.put, List.setIfInBounds_toArray, List.set_cons_succ, List.set_cons_zero]
  refine wpAnyH_take (i := 1) (oi := ⟨some 12, .move (.tmp 2), _, _, _, none⟩) (v := .iface 106 (.pointer (some ⟨f, 0, none⟩))) rfl (by kernel_rfl) (by kernel_rfl) (by kernel_rfl) (fun _ _ _ h => h) (Or.inl ⟨by rfl, fun _ _ => rfl⟩) hH ?_
  try simp only [Act.put, List.setIfInBounds_toArray, List.set_cons_succ, List.set_cons_zero]
  refine wpAnyH_ready (rs := [2]) (by kernel_rfl) (by simp) (AllReadyH.cons (o := ⟨some 13, .call ⟨.value (.func 79), #[.tmp 12], #[34]⟩, _, _, _, none⟩) rfl (fun K hK => ?_) AllReadyH.nil)
  have HK := Lib.hid hK
  clear hK
  go_simp
  refine HF.out.mono ?_
  rintro e w9 ⟨rfl, hb9⟩
  have hS9 := (hb9.block w.heap.size (lit_lt hH)).trans hH
  have HX9 := (hb9.block xv (lit_lt HX.out)).trans HX.out
  have HE9 := (hb9.block ev (lit_lt HE.out)).trans HE.out
  refine HK.out.out _ _ hS9 (fun _ => ?_)
  clear HK K
  try simp only [Act.put, List.setIfInBounds_toArray, List.set_cons_succ, List.set_cons_zero]
  refine wpAnyH_take (i := 3) (oi := ⟨some 14, .makeInterface 106 (.tmp 13), _, _, _, none⟩) (v := .iface 106 (.pointer (some ⟨f, 0, none⟩))) rfl (by kernel_rfl) (by kernel_rfl) (by kernel_rfl) (fun _ _ _ h => h) (Or.inl ⟨by rfl, fun _ _ => by first | rfl | go_simp⟩) hS9 ?_
  try simp only [Act.put, List.setIfInBounds_toArray, List.set_cons_succ, List.set_cons_zero]
  have p0 := (lit_cell HX9 0).trans rfl
  have q0 := lit_free HX9 0
  have p1 := (lit_cell HX9 1).trans rfl
  have q1 := lit_free HX9 1
  have p2 := (lit_cell HX9 2).trans rfl
  have q2 := lit_free HX9 2
  have p3 := (lit_cell HX9 3).trans rfl
  have q3 := lit_free HX9 3
  have p4 := (lit_cell HX9 4).trans rfl
  have q4 := lit_free HX9 4
  have p5 := (lit_cell HX9 5).trans rfl
  have q5 := lit_free HX9 5
  refine wpAnyH_ready (rs := [4]) (by kernel_rfl) (by simp) (AllReadyH.cons (o := ⟨none, .store 60 (.tmp 0) (.tmp 11), _, _, _, none⟩) rfl (fun K hK => ?_) AllReadyH.nil)
  have hx2 := lit_set (k := 5) (.slice none 0 0) (lit_set (k := 4) (.slice none 0 0) (lit_set (k := 3) (.slice none 0 0) (lit_set (k := 2) (.slice none 0 0) (lit_set (k := 1) (.int .u64 0) (lit_set (k := 0) (.string ⟨#[]⟩) (HX9))))))
  have ho2 : Only xv w9 (((((((w9).setCell ⟨xv, 0, none⟩ (.string ⟨#[]⟩)).setCell ⟨xv, 1, none⟩ (.int .u64 0)).setCell ⟨xv, 2, none⟩ (.slice none 0 0)).setCell ⟨xv, 3, none⟩ (.slice none 0 0)).setCell ⟨xv, 4, none⟩ (.slice none 0 0)).setCell ⟨xv, 5, none⟩ (.slice none 0 0)) := ((((((Only.refl xv w9).trans (Only.set xv 0 (.string ⟨#[]⟩) (w9))).trans (Only.set xv 1 (.int .u64 0) ((w9).setCell ⟨xv, 0, none⟩ (.string ⟨#[]⟩)))).trans (Only.set xv 2 (.slice none 0 0) (((w9).setCell ⟨xv, 0, none⟩ (.string ⟨#[]⟩)).setCell ⟨xv, 1, none⟩ (.int .u64 0)))).trans (Only.set xv 3 (.slice none 0 0) ((((w9).setCell ⟨xv, 0, none⟩ (.string ⟨#[]⟩)).setCell ⟨xv, 1, none⟩ (.int .u64 0)).setCell ⟨xv, 2, none⟩ (.slice none 0 0)))).trans (Only.set xv 4 (.slice none 0 0) (((((w9).setCell ⟨xv, 0, none⟩ (.string ⟨#[]⟩)).setCell ⟨xv, 1, none⟩ (.int .u64 0)).setCell ⟨xv, 2, none⟩ (.slice none 0 0)).setCell ⟨xv, 3, none⟩ (.slice none 0 0)))).trans (Only.set xv 5 (.slice none 0 0) ((((((w9).setCell ⟨xv, 0, none⟩ (.string ⟨#[]⟩)).setCell ⟨xv, 1, none⟩ (.int .u64 0)).setCell ⟨xv, 2, none⟩ (.slice none 0 0)).setCell ⟨xv, 3, none⟩ (.slice none 0 0)).setCell ⟨xv, 4, none⟩ (.slice none 0 0)))
  go_simp
  change K _ (((((((w9).setCell ⟨xv, 0, none⟩ (.string ⟨#[]⟩)).setCell ⟨xv, 1, none⟩ (.int .u64 0)).setCell ⟨xv, 2, none⟩ (.slice none 0 0)).setCell ⟨xv, 3, none⟩ (.slice none 0 0)).setCell ⟨xv, 4, none⟩ (.slice none 0 0)).setCell ⟨xv, 5, none⟩ (.slice none 0 0))
  generalize ((((((w9).setCell ⟨xv, 0, none⟩ (.string ⟨#[]⟩)).setCell ⟨xv, 1, none⟩ (.int .u64 0)).setCell ⟨xv, 2, none⟩ (.slice none 0 0)).setCell ⟨xv, 3, none⟩ (.slice none 0 0)).setCell ⟨xv, 4, none⟩ (.slice none 0 0)).setCell ⟨xv, 5, none⟩ (.slice none 0 0) = w10 at *
  have hne2 : xv ≠ w.heap.size := by have := HL.out; omega
  have hS10 := (ho2.block w.heap.size (lit_lt hS9) (by omega)).trans hS9
  have HE10 := (ho2.block ev (lit_lt HE9) (by omega)).trans HE9
  refine hK.out _ _ hS10 (fun _ => ?_)
  clear hK K
  try simp only [Act.put, List.setIfInBounds_toArray, List.set_cons_succ, List.set_cons_zero]
  have y0 := (lit_cell HE10 0).trans rfl
  have y1 := lit_free HE10 0
  refine wpAnyH_ready (rs := [5]) (by kernel_rfl) (by simp) (AllReadyH.cons (o := ⟨none, .store 34 (.tmp 1) (.tmp 14), _, _, _, none⟩) rfl (fun K hK => ?_) AllReadyH.nil)
  go_simp
  have hS11 : (w10.setCell ⟨ev, 0, none⟩ (.iface 106 (.pointer (some ⟨f, 0, none⟩)))).heap[w.heap.size]? = some (.cells #[.string ⟨#[]⟩, .int .u64 0, .slice none 0 0, .slice none 0 0, .slice none 0 0, .slice none 0 0] 60 (0, 0)) := (lit_far _ (by have := HL.out; omega)).trans hS10
  refine hK.out _ _ hS11 (fun _ => ?_)
  clear hK K
  try simp only [Act.put, List.setIfInBounds_toArray, List.set_cons_succ, List.set_cons_zero]
  refine wpAnyH_done (by kernel_rfl) ?_ _
  have HC : Caught xv ev f #[.string ⟨#[]⟩, .int .u64 0, .slice none 0 0, .slice none 0 0, .slice none 0 0, .slice none 0 0] 60 w (w10.setCell ⟨ev, 0, none⟩ (.iface 106 (.pointer (some ⟨f, 0, none⟩)))) := ⟨(lit_far _ hne).trans (hx2.trans (by simp)), (lit_set _ HE10).trans rfl, ((((Duo.below HB.out).trans (Duo.below hb9)).trans (Duo.only ho2)).trans (Duo.only2 (Only.set ev 0 _ w10)))⟩
  have HCH := Lib.hid HC
  clear HC
  generalize w10.setCell ⟨ev, 0, none⟩ (.iface 106 (.pointer (some ⟨f, 0, none⟩))) = w11 at *
  go_wp2
  exact ⟨rfl, _, rfl, _, results_none rfl _ _ _, rfl, rfl, HCH.out⟩
set_option maxRecDepth 100000 in
set_option maxHeartbeats 4000000 in
theorem readCert1_idle (xv ev : Nat) (w : World) :
    CallsD Tryz.prog 116 #[.pointer (some ⟨xv, 0, none⟩), .pointer (some ⟨ev, 0, none⟩)] .returning w fun e u' w' => e = .returned (.tuple #[]) ∧ u' = .returning ∧ w' = w := by
  have hta : ∀ w, (Instr.typeAssert .nilIface 20 34 true).run Tryz.prog w = .ok (.tuple #[.nilIface, .bool false]) w := fun w => by kernel_rfl
  refine callsD_of_wpS Tryz.func116 rfl fun c₀ cs hu => ?_
  simp only [Tryz.ntmps116, List.size_toArray, List.length_cons, List.length_nil, Nat.reduceAdd, Nat.reduceSub, Array.replicate_succ, Array.replicate_zero, List.push_toArray, List.append_toArray, List.nil_append, List.cons_append]
  apply wpS_seq
  apply wpS_region
  simp [wpOpsS, go_sem, recoverD, hu, Exit.thenS, hta]
  refine wpS_of_wp ?_
  go_wp2
  cases c₀
  simp only at hu
  subst hu
  exact ⟨rfl, _, rfl, _, results_none rfl _ _ _, rfl, rfl, rfl⟩

set_option maxRecDepth 100000 in
set_option maxHeartbeats 4000000 in
theorem readMsg1_catch (f xv ev : Nat) (x0 x1 x2 x3 x4 x5 y : Value) (older : List PanicEntry) (w : World) (hg : GlobE w) (hf : f < w.heap.size) (hne : xv ≠ ev) (hx : w.heap[xv]? = some (.cells #[x0, x1, x2, x3, x4, x5] 70 (0, 0))) (he : w.heap[ev]? = some (.cells #[y] 34 (0, 0))) :
    CallsD Tryz.prog 120 #[.pointer (some ⟨xv, 0, none⟩), .pointer (some ⟨ev, 0, none⟩)] (.panicking ({ v := .iface 106 (.pointer (some ⟨f, 0, none⟩)), recovered := false } :: older)) w fun e u' w' =>
      e = .returned (.tuple #[]) ∧ u' = .panicking ({ v := .iface 106 (.pointer (some ⟨f, 0, none⟩)), recovered := true } :: older) ∧ Caught xv ev f #[.string ⟨#[]⟩, .string ⟨#[]⟩, .int .u64 0, .int .u64 0, .int .u64 0, .int .u64 0] 70 w w' := by
  have hta := to_error
  have hxl := lit_lt hx
  have hel := lit_lt he
  have hN : (w.alloc (.cells #[.string ⟨#[]⟩, .string ⟨#[]⟩, .int .u64 0, .int .u64 0, .int .u64 0, .int .u64 0] 70)).drew.heap[w.heap.size]? = some (.cells #[.string ⟨#[]⟩, .string ⟨#[]⟩, .int .u64 0, .int .u64 0, .int .u64 0, .int .u64 0] 70 (0, 0)) := heap_alloc_new w (.cells #[.string ⟨#[]⟩, .string ⟨#[]⟩, .int .u64 0, .int .u64 0, .int .u64 0, .int .u64 0] 70)
  have HB := Lib.hid ((by0 w (.cells #[.string ⟨#[]⟩, .string ⟨#[]⟩, .int .u64 0, .int .u64 0, .int .u64 0, .int .u64 0] 70)).drew)
  have HF := Lib.hid (faultOf_any f _ (hg.next HB.out) (by show f < (w.alloc _).heap.size; rw [World.size_alloc]; omega))
  have HX := Lib.hid ((HB.out.block xv hxl).trans hx)
  have HE := Lib.hid ((HB.out.block ev hel).trans he)
  have HL := Lib.hid (And.intro hxl hel)
  clear hg hx he
  refine callsD_of_wpS Tryz.func120 rfl fun c₀ cs hu => ?_
  simp only [Tryz.ntmps120, List.size_toArray, List.length_cons, List.length_nil, Nat.reduceAdd, Nat.reduceSub, Array.replicate_succ, Array.replicate_zero, List.push_toArray, List.append_toArray, List.nil_append, List.cons_append]
  apply wpS_seq
  apply wpS_region
  simp [wpOpsS, go_sem, recoverD, hu, Exit.thenS, hta]
  refine wpS_of_wp ?_
  go_upto_region 3 with fail
  refine wp_region_held_drew (S := fun w' => w'.heap[w.heap.size]? = some (.cells #[.string ⟨#[]⟩, .string ⟨#[]⟩, .int .u64 0, .int .u64 0, .int .u64 0, .int .u64 0] 70 (0, 0))) (by kernel_rfl) hN (fun hH => ?_)
  generalize (w.alloc (.cells #[.string ⟨#[]⟩, .string ⟨#[]⟩, .int .u64 0, .int .u64 0, .int .u64 0, .int .u64 0] 70)).drew = w8 at *
  refine wpAnyH_take (i := 0) (oi := ⟨some 11, .load 70 (.tmp 4), _, _, _, none⟩) (v := .agg #[.string ⟨#[]⟩, .string ⟨#[]⟩, .int .u64 0, .int .u64 0, .int .u64 0, .int .u64 0]) rfl (by kernel_rfl) (by kernel_rfl) (by kernel_rfl) (fun _ _ _ h => h) (Or.inl ⟨by rfl, fun w1 hS => by have c0 := (lit_cell hS 0).trans rfl; have c1 := (lit_cell hS 1).trans rfl; have c2 := (lit_cell hS 2).trans rfl; have c3 := (lit_cell hS 3).trans rfl; have c4 := (lit_cell hS 4).trans rfl; have c5 := (lit_cell hS 5).trans rfl; go_simp⟩) hH ?_
  try simp only [Act.put, List.setIfInBounds_toArray, List.set_cons_succ, List.set_cons_zero]
  refine wpAnyH_take (i := 1) (oi := ⟨some 12, .move (.tmp 2), _, _, _, none⟩) (v := .iface 106 (.pointer (some ⟨f, 0, none⟩))) rfl (by kernel_rfl) (by kernel_rfl) (by kernel_rfl) (fun _ _ _ h => h) (Or.inl ⟨by rfl, fun _ _ => rfl⟩) hH ?_
  try simp only [Act.put, List.setIfInBounds_toArray, List.set_cons_succ, List.set_cons_zero]
  refine wpAnyH_ready (rs := [2]) (by kernel_rfl) (by simp) (AllReadyH.cons (o := ⟨some 13, .call ⟨.value (.func 79), #[.tmp 12], #[34]⟩, _, _, _, none⟩) rfl (fun K hK => ?_) AllReadyH.nil)
  have HK := Lib.hid hK
  clear hK
  go_simp
  refine HF.out.mono ?_
  rintro e w9 ⟨rfl, hb9⟩
  have hS9 := (hb9.block w.heap.size (lit_lt hH)).trans hH
  have HX9 := (hb9.block xv (lit_lt HX.out)).trans HX.out
  have HE9 := (hb9.block ev (lit_lt HE.out)).trans HE.out
  refine HK.out.out _ _ hS9 (fun _ => ?_)
  clear HK K
  try simp only [Act.put, List.setIfInBounds_toArray, List.set_cons_succ, List.set_cons_zero]
  refine wpAnyH_take (i := 3) (oi := ⟨some 14, .makeInterface 106 (.tmp 13), _, _, _, none⟩) (v := .iface 106 (.pointer (some ⟨f, 0, none⟩))) rfl (by kernel_rfl) (by kernel_rfl) (by kernel_rfl) (fun _ _ _ h => h) (Or.inl ⟨by rfl, fun _ _ => by first | rfl | go_simp⟩) hS9 ?_
  try simp only [Act.put, List.setIfInBounds_toArray, List.set_cons_succ, List.set_cons_zero]
  have p0 := (lit_cell HX9 0).trans rfl
  have q0 := lit_free HX9 0
  have p1 := (lit_cell HX9 1).trans rfl
  have q1 := lit_free HX9 1
  have p2 := (lit_cell HX9 2).trans rfl
  have q2 := lit_free HX9 2
  have p3 := (lit_cell HX9 3).trans rfl
  have q3 := lit_free HX9 3
  have p4 := (lit_cell HX9 4).trans rfl
  have q4 := lit_free HX9 4
  have p5 := (lit_cell HX9 5).trans rfl
  have q5 := lit_free HX9 5
  refine wpAnyH_ready (rs := [4]) (by kernel_rfl) (by simp) (AllReadyH.cons (o := ⟨none, .store 70 (.tmp 0) (.tmp 11), _, _, _, none⟩) rfl (fun K hK => ?_) AllReadyH.nil)
  have hx2 := lit_set (k := 5) (.int .u64 0) (lit_set (k := 4) (.int .u64 0) (lit_set (k := 3) (.int .u64 0) (lit_set (k := 2) (.int .u64 0) (lit_set (k := 1) (.string ⟨#[]⟩) (lit_set (k := 0) (.string ⟨#[]⟩) (HX9))))))
  have ho2 : Only xv w9 (((((((w9).setCell ⟨xv, 0, none⟩ (.string ⟨#[]⟩)).setCell ⟨xv, 1, none⟩ (.string ⟨#[]⟩)).setCell ⟨xv, 2, none⟩ (.int .u64 0)).setCell ⟨xv, 3, none⟩ (.int .u64 0)).setCell ⟨xv, 4, none⟩ (.int .u64 0)).setCell ⟨xv, 5, none⟩ (.int .u64 0)) := ((((((Only.refl xv w9).trans (Only.set xv 0 (.string ⟨#[]⟩) (w9))).trans (Only.set xv 1 (.string ⟨#[]⟩) ((w9).setCell ⟨xv, 0, none⟩ (.string ⟨#[]⟩)))).trans (Only.set xv 2 (.int .u64 0) (((w9).setCell ⟨xv, 0, none⟩ (.string ⟨#[]⟩)).setCell ⟨xv, 1, none⟩ (.string ⟨#[]⟩)))).trans (Only.set xv 3 (.int .u64 0) ((((w9).setCell ⟨xv, 0, none⟩ (.string ⟨#[]⟩)).setCell ⟨xv, 1, none⟩ (.string ⟨#[]⟩)).setCell ⟨xv, 2, none⟩ (.int .u64 0)))).trans (Only.set xv 4 (.int .u64 0) (((((w9).setCell ⟨xv, 0, none⟩ (.string ⟨#[]⟩)).setCell ⟨xv, 1, none⟩ (.string ⟨#[]⟩)).setCell ⟨xv, 2, none⟩ (.int .u64 0)).setCell ⟨xv, 3, none⟩ (.int .u64 0)))).trans (Only.set xv 5 (.int .u64 0) ((((((w9).setCell ⟨xv, 0, none⟩ (.string ⟨#[]⟩)).setCell ⟨xv, 1, none⟩ (.string ⟨#[]⟩)).setCell ⟨xv, 2, none⟩ (.int .u64 0)).setCell ⟨xv, 3, none⟩ (.int .u64 0)).setCell ⟨xv, 4, none⟩ (.int .u64 0)))
  go_simp
  change K _ (((((((w9).setCell ⟨xv, 0, none⟩ (.string ⟨#[]⟩)).setCell ⟨xv, 1, none⟩ (.string ⟨#[]⟩)).setCell ⟨xv, 2, none⟩ (.int .u64 0)).setCell ⟨xv, 3, none⟩ (.int .u64 0)).setCell ⟨xv, 4, none⟩ (.int .u64 0)).setCell ⟨xv, 5, none⟩ (.int .u64 0))
  generalize ((((((w9).setCell ⟨xv, 0, none⟩ (.string ⟨#[]⟩)).setCell ⟨xv, 1, none⟩ (.string ⟨#[]⟩)).setCell ⟨xv, 2, none⟩ (.int .u64 0)).setCell ⟨xv, 3, none⟩ (.int .u64 0)).setCell ⟨xv, 4, none⟩ (.int .u64 0)).setCell ⟨xv, 5, none⟩ (.int .u64 0) = w10 at *
  have hne2 : xv ≠ w.heap.size := by have := HL.out; omega
  have hS10 := (ho2.block w.heap.size (lit_lt hS9) (by omega)).trans hS9
  have HE10 := (ho2.block ev (lit_lt HE9) (by omega)).trans HE9
  refine hK.out _ _ hS10 (fun _ => ?_)
  clear hK K
  try simp only [Act.put, List.setIfInBounds_toArray, List.set_cons_succ, List.set_cons_zero]
  have y0 := (lit_cell HE10 0).trans rfl
  have y1 := lit_free HE10 0
  refine wpAnyH_ready (rs := [5]) (by kernel_rfl) (by simp) (AllReadyH.cons (o := ⟨none, .store 34 (.tmp 1) (.tmp 14), _, _, _, none⟩) rfl (fun K hK => ?_) AllReadyH.nil)
  go_simp
  have hS11 : (w10.setCell ⟨ev, 0, none⟩ (.iface 106 (.pointer (some ⟨f, 0, none⟩)))).heap[w.heap.size]? = some (.cells #[.string ⟨#[]⟩, .string ⟨#[]⟩, .int .u64 0, .int .u64 0, .int .u64 0, .int .u64 0] 70 (0, 0)) := (lit_far _ (by have := HL.out; omega)).trans hS10
  refine hK.out _ _ hS11 (fun _ => ?_)
  clear hK K
  try simp only [Act.put, List.setIfInBounds_toArray, List.set_cons_succ, List.set_cons_zero]
  refine wpAnyH_done (by kernel_rfl) ?_ _
  have HC : Caught xv ev f #[.string ⟨#[]⟩, .string ⟨#[]⟩, .int .u64 0, .int .u64 0, .int .u64 0, .int .u64 0] 70 w (w10.setCell ⟨ev, 0, none⟩ (.iface 106 (.pointer (some ⟨f, 0, none⟩)))) := ⟨(lit_far _ hne).trans (hx2.trans (by simp)), (lit_set _ HE10).trans rfl, ((((Duo.below HB.out).trans (Duo.below hb9)).trans (Duo.only ho2)).trans (Duo.only2 (Only.set ev 0 _ w10)))⟩
  have HCH := Lib.hid HC
  clear HC
  generalize w10.setCell ⟨ev, 0, none⟩ (.iface 106 (.pointer (some ⟨f, 0, none⟩))) = w11 at *
  go_wp2
  exact ⟨rfl, _, rfl, _, results_none rfl _ _ _, rfl, rfl, HCH.out⟩
set_option maxRecDepth 100000 in
set_option maxHeartbeats 4000000 in
theorem readMsg1_idle (xv ev : Nat) (w : World) :
    CallsD Tryz.prog 120 #[.pointer (some ⟨xv, 0, none⟩), .pointer (some ⟨ev, 0, none⟩)] .returning w fun e u' w' => e = .returned (.tuple #[]) ∧ u' = .returning ∧ w' = w := by
  have hta : ∀ w, (Instr.typeAssert .nilIface 20 34 true).run Tryz.prog w = .ok (.tuple #[.nilIface, .bool false]) w := fun w => by kernel_rfl
  refine callsD_of_wpS Tryz.func120 rfl fun c₀ cs hu => ?_
  simp only [Tryz.ntmps120, List.size_toArray, List.length_cons, List.length_nil, Nat.reduceAdd, Nat.reduceSub, Array.replicate_succ, Array.replicate_zero, List.push_toArray, List.append_toArray, List.nil_append, List.cons_append]
  apply wpS_seq
  apply wpS_region
  simp [wpOpsS, go_sem, recoverD, hu, Exit.thenS, hta]
  refine wpS_of_wp ?_
  go_wp2
  cases c₀
  simp only at hu
  subst hu
  exact ⟨rfl, _, rfl, _, results_none rfl _ _ _, rfl, rfl, rfl⟩

set_option maxRecDepth 100000 in
set_option maxHeartbeats 4000000 in
theorem readHeader1_catch (f xv ev : Nat) (x0 x1 x2 x3 y : Value) (older : List PanicEntry) (w : World) (hg : GlobE w) (hf : f < w.heap.size) (hne : xv ≠ ev) (hx : w.heap[xv]? = some (.cells #[x0, x1, x2, x3] 72 (0, 0))) (he : w.heap[ev]? = some (.cells #[y] 34 (0, 0))) :
    CallsD Tryz.prog 121 #[.pointer (some ⟨xv, 0, none⟩), .pointer (some ⟨ev, 0, none⟩)] (.panicking ({ v := .iface 106 (.pointer (some ⟨f, 0, none⟩)), recovered := false } :: older)) w fun e u' w' =>
      e = .returned (.tuple #[]) ∧ u' = .panicking ({ v := .iface 106 (.pointer (some ⟨f, 0, none⟩)), recovered := true } :: older) ∧ Caught xv ev f #[.int .u64 0, .string ⟨#[]⟩, .string ⟨#[]⟩, .string ⟨#[]⟩] 72 w w' := by
  have hta := to_error
  have hxl := lit_lt hx
  have hel := lit_lt he
  have hN : (w.alloc (.cells #[.int .u64 0, .string ⟨#[]⟩, .string ⟨#[]⟩, .string ⟨#[]⟩] 72)).drew.heap[w.heap.size]? = some (.cells #[.int .u64 0, .string ⟨#[]⟩, .string ⟨#[]⟩, .string ⟨#[]⟩] 72 (0, 0)) := heap_alloc_new w (.cells #[.int .u64 0, .string ⟨#[]⟩, .string ⟨#[]⟩, .string ⟨#[]⟩] 72)
  have HB := Lib.hid ((by0 w (.cells #[.int .u64 0, .string ⟨#[]⟩, .string ⟨#[]⟩, .string ⟨#[]⟩] 72)).drew)
  have HF := Lib.hid (faultOf_any f _ (hg.next HB.out) (by show f < (w.alloc _).heap.size; rw [World.size_alloc]; omega))
  have HX := Lib.hid ((HB.out.block xv hxl).trans hx)
  have HE := Lib.hid ((HB.out.block ev hel).trans he)
  have HL := Lib.hid (And.intro hxl hel)
  clear hg hx he
  refine callsD_of_wpS Tryz.func121 rfl fun c₀ cs hu => ?_
  simp only [Tryz.ntmps121, List.size_toArray, List.length_cons, List.length_nil, Nat.reduceAdd, Nat.reduceSub, Array.replicate_succ, Array.replicate_zero, List.push_toArray, List.append_toArray, List.nil_append, List.cons_append]
  apply wpS_seq
  apply wpS_region
  simp [wpOpsS, go_sem, recoverD, hu, Exit.thenS, hta]
  refine wpS_of_wp ?_
  go_upto_region 3 with fail
  refine wp_region_held_drew (S := fun w' => w'.heap[w.heap.size]? = some (.cells #[.int .u64 0, .string ⟨#[]⟩, .string ⟨#[]⟩, .string ⟨#[]⟩] 72 (0, 0))) (by kernel_rfl) hN (fun hH => ?_)
  generalize (w.alloc (.cells #[.int .u64 0, .string ⟨#[]⟩, .string ⟨#[]⟩, .string ⟨#[]⟩] 72)).drew = w8 at *
  refine wpAnyH_take (i := 0) (oi := ⟨some 11, .load 72 (.tmp 4), _, _, _, none⟩) (v := .agg #[.int .u64 0, .string ⟨#[]⟩, .string ⟨#[]⟩, .string ⟨#[]⟩]) rfl (by kernel_rfl) (by kernel_rfl) (by kernel_rfl) (fun _ _ _ h => h) (Or.inl ⟨by rfl, fun w1 hS => by have c0 := (lit_cell hS 0).trans rfl; have c1 := (lit_cell hS 1).trans rfl; have c2 := (lit_cell hS 2).trans rfl; have c3 := (lit_cell hS 3).trans rfl; go_simp⟩) hH ?_
  try simp only [Act.put, List.setIfInBounds_toArray, List.set_cons_succ, List.set_cons_zero]
  refine wpAnyH_take (i := 1) (oi := ⟨some 12, .move (.tmp 2), _, _, _, none⟩) (v := .iface 106 (.pointer (some ⟨f, 0, none⟩))) rfl (by kernel_rfl) (by kernel_rfl) (by kernel_rfl) (fun _ _ _ h => h) (Or.inl ⟨by rfl, fun _ _ => rfl⟩) hH ?_
  try simp only [Act.put, List.setIfInBounds_toArray, List.set_cons_succ, List.set_cons_zero]
  refine wpAnyH_ready (rs := [2]) (by kernel_rfl) (by simp) (AllReadyH.cons (o := ⟨some 13, .call ⟨.value (.func 79), #[.tmp 12], #[34]⟩, _, _, _, none⟩) rfl (fun K hK => ?_) AllReadyH.nil)
  have HK := Lib.hid hK
  clear hK
  go_simp
  refine HF.out.mono ?_
  rintro e w9 ⟨rfl, hb9⟩
  have hS9 := (hb9.block w.heap.size (lit_lt hH)).trans hH
  have HX9 := (hb9.block xv (lit_lt HX.out)).trans HX.out
  have HE9 := (hb9.block ev (lit_lt HE.out)).trans HE.out
  refine HK.out.out _ _ hS9 (fun _ => ?_)
  clear HK K
  try simp only [Act.put, List.setIfInBounds_toArray, List.set_cons_succ, List.set_cons_zero]
  refine wpAnyH_take (i := 3) (oi := ⟨some 14, .makeInterface 106 (.tmp 13), _, _, _, none⟩) (v := .iface 106 (.pointer (some ⟨f, 0, none⟩))) rfl (by kernel_rfl) (by kernel_rfl) (by kernel_rfl) (fun _ _ _ h => h) (Or.inl ⟨by rfl, fun _ _ => by first | rfl | go_simp⟩) hS9 ?_
  try simp only [Act.put, List.setIfInBounds_toArray, List.set_cons_succ, List.set_cons_zero]
  have p0 := (lit_cell HX9 0).trans rfl
  have q0 := lit_free HX9 0
  have p1 := (lit_cell HX9 1).trans rfl
  have q1 := lit_free HX9 1
  have p2 := (lit_cell HX9 2).trans rfl
  have q2 := lit_free HX9 2
  have p3 := (lit_cell HX9 3).trans rfl
  have q3 := lit_free HX9 3
  refine wpAnyH_ready (rs := [4]) (by kernel_rfl) (by simp) (AllReadyH.cons (o := ⟨none, .store 72 (.tmp 0) (.tmp 11), _, _, _, none⟩) rfl (fun K hK => ?_) AllReadyH.nil)
  have hx2 := lit_set (k := 3) (.string ⟨#[]⟩) (lit_set (k := 2) (.string ⟨#[]⟩) (lit_set (k := 1) (.string ⟨#[]⟩) (lit_set (k := 0) (.int .u64 0) (HX9))))
  have ho2 : Only xv w9 (((((w9).setCell ⟨xv, 0, none⟩ (.int .u64 0)).setCell ⟨xv, 1, none⟩ (.string ⟨#[]⟩)).setCell ⟨xv, 2, none⟩ (.string ⟨#[]⟩)).setCell ⟨xv, 3, none⟩ (.string ⟨#[]⟩)) := ((((Only.refl xv w9).trans (Only.set xv 0 (.int .u64 0) (w9))).trans (Only.set xv 1 (.string ⟨#[]⟩) ((w9).setCell ⟨xv, 0, none⟩ (.int .u64 0)))).trans (Only.set xv 2 (.string ⟨#[]⟩) (((w9).setCell ⟨xv, 0, none⟩ (.int .u64 0)).setCell ⟨xv, 1, none⟩ (.string ⟨#[]⟩)))).trans (Only.set xv 3 (.string ⟨#[]⟩) ((((w9).setCell ⟨xv, 0, none⟩ (.int .u64 0)).setCell ⟨xv, 1, none⟩ (.string ⟨#[]⟩)).setCell ⟨xv, 2, none⟩ (.string ⟨#[]⟩)))
  go_simp
  change K _ (((((w9).setCell ⟨xv, 0, none⟩ (.int .u64 0)).setCell ⟨xv, 1, none⟩ (.string ⟨#[]⟩)).setCell ⟨xv, 2, none⟩ (.string ⟨#[]⟩)).setCell ⟨xv, 3, none⟩ (.string ⟨#[]⟩))
  generalize ((((w9).setCell ⟨xv, 0, none⟩ (.int .u64 0)).setCell ⟨xv, 1, none⟩ (.string ⟨#[]⟩)).setCell ⟨xv, 2, none⟩ (.string ⟨#[]⟩)).setCell ⟨xv, 3, none⟩ (.string ⟨#[]⟩) = w10 at *
  have hne2 : xv ≠ w.heap.size := by have := HL.out; omega
  have hS10 := (ho2.block w.heap.size (lit_lt hS9) (by omega)).trans hS9
  have HE10 := (ho2.block ev (lit_lt HE9) (by omega)).trans HE9
  refine hK.out _ _ hS10 (fun _ => ?_)
  clear hK K
  try simp only [Act.put, List.setIfInBounds_toArray, List.set_cons_succ, List.set_cons_zero]
  have y0 := (lit_cell HE10 0).trans rfl
  have y1 := lit_free HE10 0
  refine wpAnyH_ready (rs := [5]) (by kernel_rfl) (by simp) (AllReadyH.cons (o := ⟨none, .store 34 (.tmp 1) (.tmp 14), _, _, _, none⟩) rfl (fun K hK => ?_) AllReadyH.nil)
  go_simp
  have hS11 : (w10.setCell ⟨ev, 0, none⟩ (.iface 106 (.pointer (some ⟨f, 0, none⟩)))).heap[w.heap.size]? = some (.cells #[.int .u64 0, .string ⟨#[]⟩, .string ⟨#[]⟩, .string ⟨#[]⟩] 72 (0, 0)) := (lit_far _ (by have := HL.out; omega)).trans hS10
  refine hK.out _ _ hS11 (fun _ => ?_)
  clear hK K
  try simp only [Act.put, List.setIfInBounds_toArray, List.set_cons_succ, List.set_cons_zero]
  refine wpAnyH_done (by kernel_rfl) ?_ _
  have HC : Caught xv ev f #[.int .u64 0, .string ⟨#[]⟩, .string ⟨#[]⟩, .string ⟨#[]⟩] 72 w (w10.setCell ⟨ev, 0, none⟩ (.iface 106 (.pointer (some ⟨f, 0, none⟩)))) := ⟨(lit_far _ hne).trans (hx2.trans (by simp)), (lit_set _ HE10).trans rfl, ((((Duo.below HB.out).trans (Duo.below hb9)).trans (Duo.only ho2)).trans (Duo.only2 (Only.set ev 0 _ w10)))⟩
  have HCH := Lib.hid HC
  clear HC
  generalize w10.setCell ⟨ev, 0, none⟩ (.iface 106 (.pointer (some ⟨f, 0, none⟩))) = w11 at *
  go_wp2
  exact ⟨rfl, _, rfl, _, results_none rfl _ _ _, rfl, rfl, HCH.out⟩
set_option maxRecDepth 100000 in
set_option maxHeartbeats 4000000 in
theorem readHeader1_idle (xv ev : Nat) (w : World) :
    CallsD Tryz.prog 121 #[.pointer (some ⟨xv, 0, none⟩), .pointer (some ⟨ev, 0, none⟩)] .returning w fun e u' w' => e = .returned (.tuple #[]) ∧ u' = .returning ∧ w' = w := by
  have hta : ∀ w, (Instr.typeAssert .nilIface 20 34 true).run Tryz.prog w = .ok (.tuple #[.nilIface, .bool false]) w := fun w => by kernel_rfl
  refine callsD_of_wpS Tryz.func121 rfl fun c₀ cs hu => ?_
  simp only [Tryz.ntmps121, List.size_toArray, List.length_cons, List.length_nil, Nat.reduceAdd, Nat.reduceSub, Array.replicate_succ, Array.replicate_zero, List.push_toArray, List.append_toArray, List.nil_append, List.cons_append]
  apply wpS_seq
  apply wpS_region
  simp [wpOpsS, go_sem, recoverD, hu, Exit.thenS, hta]
  refine wpS_of_wp ?_
  go_wp2
  cases c₀
  simp only at hu
  subst hu
  exact ⟨rfl, _, rfl, _, results_none rfl _ _ _, rfl, rfl, rfl⟩
end Go.Proofs.YtbkiijndhjmkdaaGreatDoor
