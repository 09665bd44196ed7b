/- The program's fault; what recovers; an attempt. -/
import Derived.Test.YtefhjncoakgbkaaDoorQa
import Derived.Defers
import Derived.Recover
namespace Go.Proofs.YtefhjncoakgbkaaDoor
open Go.RowKit Go.Extern.Stop Go.Stop Go.Extern

/-- a fault that was made -/
structure Made (c a : Int) (g : Nat) (w w' : World) : Prop where
  l : w.heap.size ≤ g
  h : w'.heap[g]? = some (.cells #[.int .i64 c, .int .i64 a] 66 (0, 0))
  b : Below w.heap.size w w'

set_option maxRecDepth 100000 in
set_option maxHeartbeats 4000000 in
theorem qfault_any (f b : Nat) (S : List UInt8) (a m c : Nat) (w : World) (hg : GlobE w) (h0 : w.heap[f]? = some (.cells #[.int .i64 (c : Int), .int .i64 0] 66 (0, 0))) (hR : RAt b S a m w) :
    Calls Tryd.prog 39 #[.pointer (some ⟨b, 0, none⟩), .iface 61 (.pointer (some ⟨f, 0, none⟩))] w fun e w' => ∃ g, e = .returned (.iface 61 (.pointer (some ⟨g, 0, none⟩))) ∧ Made (c : Int) (a : Int) g w w' := by
  have hfl := lit_lt h0
  have hbl := lit_lt hR
  have hgl : 0 < w.heap.size := World.block_lt_of_cell? w _ hg
  have hgA : (w.alloc (.cells #[.pointer none] 61)).cell? ⟨0, 0, none⟩ = some (.iface 98 (.agg #[.pointer (some ⟨2, 31, none⟩)])) := by
    rw [World.cell?_alloc_lt _ _ ⟨0, 0, none⟩ hgl]; exact hg
  have HA := Lib.hid ((as_hit ⟨f, 0, none⟩ ⟨w.heap.size, 0, none⟩ (.pointer none) (w.alloc (.cells #[.pointer none] 61)) hgA (by simp) (by simp)).mono (fun _ _ h => after_as (f := f) h))
  have H0 := Lib.hid h0
  have HR := Lib.hid hR
  clear hgA hgl hg h0 hR
  go_enter Tryd.func39, Tryd.ntmps39
  go_wp2_with (go_at_call 21; refine HA.out.mono ?_; rintro e w1 ⟨rfl, hw1, b1⟩; have k0 := (b1.cell (p := ⟨f, 0, none⟩) hfl).trans ((lit_cell H0.out 0).trans rfl); have k1 := (b1.cell (p := ⟨b, 1, none⟩) hbl).trans ((lit_cell HR.out 1).trans rfl); have HB1 := Lib.hid b1; clear b1)
  go_ret
  exact ⟨_, rfl, HB1.out.size, heap_alloc_new w1 _, HB1.out.alloc HB1.out.size _⟩

theorem to_error (v : Value) (w : World) : (Instr.typeAssert (.iface 61 v) 20 31 true).run Tryd.prog w = .ok (.tuple #[.iface 61 v, .bool true]) w := run_typeAssert_hasB Tryd.underlying31 (by kernel_rfl) v 20 w

set_option maxRecDepth 100000 in
set_option maxHeartbeats 4000000 in
theorem catch_panicking (f b rv ev : Nat) (S : List UInt8) (a m c : Nat) (x : Value) (older : List PanicEntry) (w : World) (hg : GlobE w) (h0 : w.heap[f]? = some (.cells #[.int .i64 (c : Int), .int .i64 0] 66 (0, 0))) (hR : RAt b S a m w)
    (hrv : w.heap[rv]? = some (.cells #[.pointer (some ⟨b, 0, none⟩)] 23 (0, 0))) (hev : w.heap[ev]? = some (.cells #[x] 31 (0, 0))) :
    CallsD Tryd.prog 38 #[.pointer (some ⟨rv, 0, none⟩), .pointer (some ⟨ev, 0, none⟩)] (.panicking ({ v := .iface 61 (.pointer (some ⟨f, 0, none⟩)), recovered := false } :: older)) w fun e u' w' =>
      e = .returned (.tuple #[]) ∧ u' = .panicking ({ v := .iface 61 (.pointer (some ⟨f, 0, none⟩)), recovered := true } :: older) ∧ ∃ g w1, Made (c : Int) (a : Int) g w w1 ∧ w' = w1.setCell ⟨ev, 0, none⟩ (.iface 61 (.pointer (some ⟨g, 0, none⟩))) := by
  have HF := Lib.hid (qfault_any f b S a m c w hg h0 hR)
  have hta := to_error
  have r0 := (lit_cell hrv 0).trans rfl
  clear hg h0 hR
  refine callsD_of_wpS Tryd.func38 rfl fun c₀ cs hu => ?_
  simp only [Tryd.ntmps38, List.size_toArray, List.length_cons, List.length_nil, Nat.reduceAdd, Nat.reduceSub, Array.replicate_succ, Array.replicate_zero, List.push_toArray, List.append_toArray, List.nil_append, List.cons_append]
  apply wpS_seq
  apply wpS_region
  simp [wpOpsS, go_sem, recoverD, hu, Exit.thenS, hta]
  refine wpS_of_wp ?_
  go_wp2_with (go_at_call 39; refine HF.out.mono ?_; rintro e w1 ⟨g, rfl, hmade⟩; have e0 := (lit_cell ((hmade.b.block ev (lit_lt hev)).trans hev) 0).trans rfl; have e1 := lit_free ((hmade.b.block ev (lit_lt hev)).trans hev) 0)
  exact ⟨rfl, _, rfl, _, results_none rfl _ _ _, rfl, rfl, _, _, hmade, rfl⟩

set_option maxRecDepth 100000 in
set_option maxHeartbeats 4000000 in
theorem catch_idle (rv ev : Nat) (w : World) :
    CallsD Tryd.prog 38 #[.pointer (some ⟨rv, 0, none⟩), .pointer (some ⟨ev, 0, none⟩)] .returning w fun e u' w' => e = .returned (.tuple #[]) ∧ u' = .returning ∧ w' = w := by
  have hta : ∀ w, (Instr.typeAssert .nilIface 20 31 true).run Tryd.prog w = .ok (.tuple #[.nilIface, .bool false]) w := fun w => by kernel_rfl
  refine callsD_of_wpS Tryd.func38 rfl fun c₀ cs hu => ?_
  simp only [Tryd.ntmps38, List.size_toArray, List.length_cons, List.length_nil, Nat.reduceAdd, Nat.reduceSub, Array.replicate_succ, Array.replicate_zero, List.push_toArray, List.append_toArray, List.nil_append, List.cons_append]
  apply wpS_seq
  apply wpS_region
  simp [wpOpsS, go_sem, recoverD, hu, Exit.thenS, hta]
  refine wpS_of_wp ?_
  go_wp2
  cases c₀
  simp only at hu
  subst hu
  exact ⟨rfl, _, rfl, _, results_none rfl _ _ _, rfl, rfl, rfl⟩

/-- all blocks but A and x are as they were -/
structure Duo (A x : Nat) (w w' : World) : Prop where
  os : w'.os = w.os
  tape : w'.tape = w.tape
  output : w'.output = w.output
  size : w.heap.size ≤ w'.heap.size
  block : ∀ k, k < w.heap.size → k ≠ A → k ≠ x → w'.heap[k]? = w.heap[k]?

set_option maxRecDepth 100000 in
set_option maxHeartbeats 4000000 in
theorem attempt_ok (b x : Nat) (S : List UInt8) (a a' m : Nat) (X : Obj) (F : FuncId) (cap : Array Value) (w : World) (hent : ∀ args w, (callFunc F args).run Tryd.prog w = .ok (.enter F args) w) (hR : RAt b S a m w) (hx : x < w.heap.size) (hxb : x ≠ b)
    (hread : ∀ w4 A, Below w.heap.size w w4 → w.heap.size ≤ A → RAt A S a m w4 → Calls Tryd.prog F (#[.pointer (some ⟨A, 0, none⟩)] ++ cap) w4 fun e w5 => e = .returned (.tuple #[]) ∧ RAt A S a' m w5 ∧ Duo A x w4 w5 ∧ w5.heap[x]? = some X) :
    Calls Tryd.prog 23 #[.pointer (some ⟨b, 0, none⟩), .func (.func F) #[] cap] w fun e w' => e = .returned .nilIface ∧ RAt b S a' m w' ∧ w'.heap[x]? = some X ∧ Duo b x w w' := by
  have hmf : ∀ (fn : Fn) (first cap : Array Value) (w : World), (Instr.makeFunc fn first cap).run Tryd.prog w = .ok (.func fn first cap) w := fun _ _ _ _ => rfl
  have HRD := Lib.hid hread
  have hbl := lit_lt hR
  have HR := Lib.hid hR
  have c0 := (lit_cell hR 0).trans rfl
  have c1 := (lit_cell hR 1).trans rfl
  have c2 := (lit_cell hR 2).trans rfl
  clear hread hR
  go_enter_defers Tryd.func23, Tryd.ntmps23
  go_wp2_with fail
  refine (HRD.out _ _ ((by0 w _).trans (((Below.refl _ _).alloc (by simp) _).alloc (by simp <;> omega) _)) (by omega) (show RAt (w.heap.size + 1 + 1) S a m _ from ?_)).mono ?_
  · rw [RAt, show w.heap.size + 1 + 1 = ((w.alloc (.cells #[.pointer (some ⟨b, 0, none⟩)] 23)).alloc (.cells #[.nilIface] 31)).heap.size by simp]
    exact heap_alloc_new _ _
  rintro e w5 ⟨rfl, hr5, ht5, hX⟩
  have hrv : w5.heap[w.heap.size]? = some (.cells #[.pointer (some ⟨b, 0, none⟩)] 23 (0, 0)) := (ht5.block _ (by simp <;> omega) (by omega) (by omega)).trans (lit_old _ (lit_old _ (heap_alloc_new w _)))
  have hev : w5.heap[w.heap.size + 1]? = some (.cells #[.nilIface] 31 (0, 0)) := (ht5.block _ (by simp <;> omega) (by omega) (by omega)).trans (lit_old _ (by rw [show w.heap.size + 1 = (w.alloc (.cells #[.pointer (some ⟨b, 0, none⟩)] 23)).heap.size by simp]; exact heap_alloc_new _ _))
  have hb5 : RAt b S a m w5 := (ht5.block _ (by simp <;> omega) (by omega) (by omega)).trans (lit_old _ (lit_old _ (lit_old _ HR.out)))
  have HT5 := Lib.hid ht5
  have r0 := (lit_cell hrv 0).trans rfl
  have e0 := (lit_cell hev 0).trans rfl
  have e1 := lit_free hev 0
  have b0 := (lit_cell hb5 0).trans rfl
  have b1 := (lit_cell hb5 1).trans rfl
  have b2 := (lit_cell hb5 2).trans rfl
  have f0 := lit_free hb5 0
  have f1 := lit_free hb5 1
  have f2 := lit_free hb5 2
  have a0 := (lit_cell hr5 0).trans rfl
  have a1 := (lit_cell hr5 1).trans rfl
  have a2 := (lit_cell hr5 2).trans rfl
  have HXX := Lib.hid hX
  have HB5 := Lib.hid hb5
  have HE5 := Lib.hid hev
  clear ht5 hr5 hb5 hev hrv hX HRD c0 c1 c2 HR
  go_wp2
  have hW1 : RAt b S a' m ((((w5.setCell ⟨b, 0, none⟩ (.string ⟨S.toArray⟩)).setCell ⟨b, 1, none⟩ (.int .i64 (a' : Int))).setCell ⟨b, 2, none⟩ (.int .i64 (m : Int))).setCell ⟨w.heap.size + 1, 0, none⟩ .nilIface) :=
    (lit_far _ (by omega)).trans ((lit_set _ (lit_set _ (lit_set _ HB5.out))).trans rfl)
  have hW2 : ((((w5.setCell ⟨b, 0, none⟩ (.string ⟨S.toArray⟩)).setCell ⟨b, 1, none⟩ (.int .i64 (a' : Int))).setCell ⟨b, 2, none⟩ (.int .i64 (m : Int))).setCell ⟨w.heap.size + 1, 0, none⟩ .nilIface).heap[w.heap.size + 1]? = some (.cells #[.nilIface] 31 (0, 0)) :=
    (lit_set _ ((lit_far _ (by omega)).trans ((lit_far _ (by omega)).trans ((lit_far _ (by omega)).trans HE5.out)))).trans rfl
  have hW3 : ((((w5.setCell ⟨b, 0, none⟩ (.string ⟨S.toArray⟩)).setCell ⟨b, 1, none⟩ (.int .i64 (a' : Int))).setCell ⟨b, 2, none⟩ (.int .i64 (m : Int))).setCell ⟨w.heap.size + 1, 0, none⟩ .nilIface).heap[x]? = some X :=
    (lit_far _ (by omega)).trans ((lit_far _ hxb).trans ((lit_far _ hxb).trans ((lit_far _ hxb).trans HXX.out)))
  have hW4 : Duo b x w ((((w5.setCell ⟨b, 0, none⟩ (.string ⟨S.toArray⟩)).setCell ⟨b, 1, none⟩ (.int .i64 (a' : Int))).setCell ⟨b, 2, none⟩ (.int .i64 (m : Int))).setCell ⟨w.heap.size + 1, 0, none⟩ .nilIface) := by
    have h5 := HT5.out
    refine ⟨h5.os, h5.tape, h5.output, ?_, fun k hk h1 h2 => ?_⟩
    · have := h5.size
      simp at this
      simp [World.setCell]
      omega
    · exact (lit_far _ (by omega)).trans ((lit_far _ h1).trans ((lit_far _ h1).trans ((lit_far _ h1).trans ((h5.block k (by simp <;> omega) (by omega) h2).trans ((heap_alloc_old _ _ (by simp <;> omega)).trans ((heap_alloc_old _ _ (by simp <;> omega)).trans (heap_alloc_old _ _ hk)))))))
  generalize (((w5.setCell ⟨b, 0, none⟩ (.string ⟨S.toArray⟩)).setCell ⟨b, 1, none⟩ (.int .i64 (a' : Int))).setCell ⟨b, 2, none⟩ (.int .i64 (m : Int))).setCell ⟨w.heap.size + 1, 0, none⟩ .nilIface = wf at *
  refine leaves_cons (f := 38) (args := #[.pointer (some ⟨w.heap.size, 0, none⟩), .pointer (some ⟨w.heap.size + 1, 0, none⟩)]) (by simp) (by simp [go_sem]) ?_
  refine (catch_idle w.heap.size (w.heap.size + 1) wf).mono ?_
  rintro e u' w'' ⟨rfl, rfl, rfl⟩
  have z0 := (lit_cell hW2 0).trans rfl
  refine ⟨.nilIface, by simp [results, Tryd.results23, go_sem, z0], rfl, hW1, hW3, hW4⟩

set_option maxRecDepth 100000 in
set_option maxHeartbeats 4000000 in
theorem attempt_bad (b : Nat) (S : List UInt8) (a m c : Nat) (F : FuncId) (cap : Array Value) (w : World) (hent : ∀ args w, (callFunc F args).run Tryd.prog w = .ok (.enter F args) w) (hR : RAt b S a m w) (hg : GlobE w)
    (hread : ∀ w4 A, Below w.heap.size w w4 → w.heap.size ≤ A → RAt A S a m w4 → Calls Tryd.prog F (#[.pointer (some ⟨A, 0, none⟩)] ++ cap) w4 (Gave c A w4)) :
    Calls Tryd.prog 23 #[.pointer (some ⟨b, 0, none⟩), .func (.func F) #[] cap] w fun e w' => ∃ g, e = .returned (.iface 61 (.pointer (some ⟨g, 0, none⟩))) ∧ Made (c : Int) (a : Int) g w w' := by
  have hmf : ∀ (fn : Fn) (first cap : Array Value) (w : World), (Instr.makeFunc fn first cap).run Tryd.prog w = .ok (.func fn first cap) w := fun _ _ _ _ => rfl
  have HRD := Lib.hid hread
  have hbl := lit_lt hR
  have HR := Lib.hid hR
  have HG := Lib.hid hg
  have c0 := (lit_cell hR 0).trans rfl
  have c1 := (lit_cell hR 1).trans rfl
  have c2 := (lit_cell hR 2).trans rfl
  clear hread hR hg
  go_enter_defers Tryd.func23, Tryd.ntmps23
  go_wp2_with fail
  refine (HRD.out _ _ ((by0 w _).trans (((Below.refl _ _).alloc (by simp) _).alloc (by simp <;> omega) _)) (by omega) (show RAt (w.heap.size + 1 + 1) S a m _ from ?_)).mono ?_
  · rw [RAt, show w.heap.size + 1 + 1 = ((w.alloc (.cells #[.pointer (some ⟨b, 0, none⟩)] 23)).alloc (.cells #[.nilIface] 31)).heap.size by simp]
    exact heap_alloc_new _ _
  rintro e w5 ⟨⟨f, hf, rfl, hfc⟩, ht5⟩
  have hrv : w5.heap[w.heap.size]? = some (.cells #[.pointer (some ⟨b, 0, none⟩)] 23 (0, 0)) := (ht5.block _ (by simp <;> omega) (by omega)).trans (lit_old _ (lit_old _ (heap_alloc_new w _)))
  have hev : w5.heap[w.heap.size + 1]? = some (.cells #[.nilIface] 31 (0, 0)) := (ht5.block _ (by simp <;> omega) (by omega)).trans (lit_old _ (by rw [show w.heap.size + 1 = (w.alloc (.cells #[.pointer (some ⟨b, 0, none⟩)] 23)).heap.size by simp]; exact heap_alloc_new _ _))
  have hb5 : RAt b S a m w5 := (ht5.block _ (by simp <;> omega) (by omega)).trans (lit_old _ (lit_old _ (lit_old _ HR.out)))
  have hbel : Below w.heap.size w w5 := by
    refine ⟨ht5.os, ht5.tape, ht5.output, ?_, fun k hk => ?_⟩
    · have := ht5.size
      simp at this
      omega
    · exact (ht5.block k (by simp <;> omega) (by omega)).trans ((heap_alloc_old _ _ (by simp <;> omega)).trans ((heap_alloc_old _ _ (by simp <;> omega)).trans (heap_alloc_old _ _ hk)))
  refine leaves_cons (f := 38) (args := #[.pointer (some ⟨w.heap.size, 0, none⟩), .pointer (some ⟨w.heap.size + 1, 0, none⟩)]) (by simp) (by simp [go_sem]) ?_
  refine (catch_panicking f b w.heap.size (w.heap.size + 1) S a m c .nilIface [] w5 (HG.out.next hbel) hfc hb5 hrv hev).mono ?_
  rintro e u' w'' ⟨rfl, rfl, g, w6, hm, rfl⟩
  have hs5 : w.heap.size + 1 < w5.heap.size := lit_lt hev
  have hW2 : (w6.setCell ⟨w.heap.size + 1, 0, none⟩ (.iface 61 (.pointer (some ⟨g, 0, none⟩)))).heap[w.heap.size + 1]? = some (.cells #[.iface 61 (.pointer (some ⟨g, 0, none⟩))] 31 (0, 0)) := (lit_set _ ((hm.b.block _ hs5).trans hev)).trans rfl
  have z0 := (lit_cell hW2 0).trans rfl
  have hl := hm.l
  exact ⟨_, by simp [results, Tryd.results23, go_sem, z0], g, rfl, by omega, (lit_far _ (by omega)).trans hm.h, (hbel.trans (hm.b.mono (by omega))).setCell (by simp) _⟩
end Go.Proofs.YtefhjncoakgbkaaDoor
