/- errors.Is of a *api.Fault and its own Code; the law's fault. -/
import Derived.Test.YtefhjncoakgbkaaDoorUa
import Derived.Test.YtefhjncoakgbkaaDoorBa
import Derived.BigQuiet
import Derived.Deep.QuietTactic
namespace Go.Proofs.YtefhjncoakgbkaaDoor
open Go.RowKit Go.Extern.Stop Go.Stop Go.Extern

theorem ri_typeOf (v : Value) (w : World) : (ReflectliteType.typeOf #[.iface 34 v]).run Tryd.prog w = .ok (.iface 98 (.agg #[.pointer (some ⟨2, 34, none⟩)])) w := by kernel_rfl
theorem ri_mComp (v : Value) (w : World) : (Go.method 242 98 v "Comparable").run Tryd.prog w = .ok (73, v) w := by kernel_rfl
theorem ri_comp : (Tryd.prog.info? 34).map (·.comparable) = some true := by kernel_rfl
theorem ri_noIs (v : Value) (xT : TypeId) (w : World) : (Instr.typeAssert (.iface 61 v) xT 108 true).run Tryd.prog w = .ok (.tuple #[.nilIface, .bool false]) w := run_typeAssert_lacksB Tryd.underlying108 (by kernel_rfl) (by kernel_rfl) v xT w
theorem ri_unwrap (v : Value) (xT : TypeId) (w : World) : (Instr.typeAssert (.iface 61 v) xT 105 true).run Tryd.prog w = .ok (.tuple #[.iface 61 v, .bool true]) w := run_typeAssert_hasB Tryd.underlying105 (by kernel_rfl) v xT w
theorem ri_mUnwrap (v : Value) (w : World) : (Go.method 242 61 v "Unwrap").run Tryd.prog w = .ok (67, v) w := by kernel_rfl
theorem ri_same (c : Int) (w : World) : (binOp .eql 31 (.iface 34 (.int .i64 c)) (.iface 34 (.int .i64 c))).run Tryd.prog w = .ok (.bool true) w := by
  obtain ⟨i, hi, hc⟩ := Option.map_eq_some_iff.1 ri_comp
  have h : ∀ d : Nat, (Op.equalIn (d + 2) 31 (.iface 34 (.int .i64 c)) (.iface 34 (.int .i64 c))).run Tryd.prog w = .ok true w := fun d => by
    simp [Op.equalIn, run_underlying Tryd.underlying31, run_underlying Tryd.underlying34, typeInfo, hi, hc]
  simp only [binOp]
  simp [Op.equal, Op.maxDepth, h 9998]

set_option maxHeartbeats 4000000 in
theorem is_fault (f : Nat) (c : Int) (w : World) (h1 : w.cell? ⟨f, 0, none⟩ = some (.int .i64 c)) :
    Calls Tryd.prog 22 #[.iface 61 (.pointer (some ⟨f, 0, none⟩)), .iface 34 (.int .i64 c)] w fun e w' => e = .returned (.bool true) ∧ w' = w := by
  have h8 := @run_callFunc_extern Tryd.prog 36 _ ReflectliteType.typeOf Tryd.func36 (by kernel_rfl) (by kernel_rfl) (by kernel_rfl) (by kernel_rfl)
  have h32 := @run_callFunc_extern Tryd.prog 73 _ (ReflectliteType.method fun t => do Rtype.noPackHeld "Comparable" t; pure (.bool (← typeInfo t).comparable)) Tryd.func73 (by kernel_rfl) (by kernel_rfl) (by kernel_rfl) (by kernel_rfl)
  have tT := ri_typeOf
  have cT : ∀ w, ((ReflectliteType.method fun t => do Rtype.noPackHeld "Comparable" t; pure (.bool (← typeInfo t).comparable)) #[.agg #[.pointer (some ⟨2, 34, none⟩)]]).run Tryd.prog w = .ok (.bool true) w := fun w => by kernel_rfl
  generalize (ReflectliteType.method fun t => do Rtype.noPackHeld "Comparable" t; pure (.bool (← typeInfo t).comparable)) = g at h32 cT
  have mR := ri_mComp
  have nW := ri_noIs
  have uW := ri_unwrap
  have mU := ri_mUnwrap
  have heq := ri_same c w
  have hty := run_eql_iface_types (P := Tryd.prog) 61 34 (.pointer (some ⟨f, 0, none⟩)) (.int .i64 c) Tryd.underlying31 (by decide) w
  go_enter Tryd.func22, Tryd.ntmps22
  go_wp2
  refine wp_loop_rounds 2 ?_
  rw [rounds_succ]
  go_wp2
  rw [rounds_succ]
  go_wp2
  go_ret
  exact ⟨rfl, rfl⟩

/-- what reflectlite wants of memory: the type error's handle -/
def GlobE (w : World) : Prop := w.cell? ⟨0, 0, none⟩ = some (.iface 98 (.agg #[.pointer (some ⟨2, 31, none⟩)]))
theorem GlobE.next {w w' : World} (h : GlobE w) (hb : Below w.heap.size w w') : GlobE w' := (hb.cell (World.block_lt_of_cell? w _ h)).trans h

/-- an error that a call answers: none, or a fault with this Code and place -/
def ErrV (lo : Nat) (c a : Int) (v : Value) (w : World) : Prop := if c = 0 then v = .nilIface else ∃ f, lo ≤ f ∧ v = .iface 61 (.pointer (some ⟨f, 0, none⟩)) ∧ w.cell? ⟨f, 0, none⟩ = some (.int .i64 c) ∧ w.cell? ⟨f, 1, none⟩ = some (.int .i64 a)
theorem ErrV.next {lo : Nat} {c a : Int} {v : Value} {w w' : World} (h : ErrV lo c a v w) (hb : Below w.heap.size w w') : ErrV lo c a v w' := by
  unfold ErrV at *
  by_cases hc : c = 0
  · rw [if_pos hc] at *; exact h
  · rw [if_neg hc] at *
    obtain ⟨f, h0, h1, h2, h3⟩ := h
    have hl : f < w.heap.size := World.block_lt_of_cell? w _ h2
    exact ⟨f, h0, h1, (hb.cell (p := ⟨f, 0, none⟩) hl).trans h2, (hb.cell (p := ⟨f, 1, none⟩) hl).trans h3⟩

theorem after_as {f : Nat} {w : World} {e : Ending} {w' : World} : (e = .returned (.bool true) ∧ w' = (((((w.alloc (.cells #[.pointer none] 61)).alloc (.cells #[.pointer (some ⟨w.heap.size, 0, none⟩)] 63)).alloc (.cells #[.pointer (some ⟨2, 63, none⟩), .pointer (some ⟨(w.alloc (.cells #[.pointer none] 61)).heap.size, 0, none⟩), .int .u64 150] 78)).alloc (.cells #[.pointer (some ⟨2, 63, none⟩), .pointer (some ⟨(w.alloc (.cells #[.pointer none] 61)).heap.size, 0, none⟩), .int .u64 150] 78)).alloc (.cells #[.pointer (some ⟨f, 0, none⟩)] 61)).setCell ⟨w.heap.size, 0, none⟩ (.pointer (some ⟨f, 0, none⟩))) →
    e = .returned (.bool true) ∧ w'.cell? ⟨w.heap.size, 0, none⟩ = some (.pointer (some ⟨f, 0, none⟩)) ∧ Below w.heap.size w w' := by
  rintro ⟨rfl, rfl⟩
  refine ⟨rfl, ?_, ?_⟩
  · exact (lit_cell (lit_set _ (lit_old _ (lit_old _ (lit_old _ (lit_old _ (heap_alloc_new w (.cells #[.pointer none] 61))))))) 0).trans rfl
  exact (((((Below.refl _ _).alloc (Nat.le_refl _) _).alloc (by simp) _).alloc (by simp; omega) _).alloc (by simp; omega) _).alloc (by simp; omega) _ |>.setCell (Nat.le_refl _) _

set_option maxRecDepth 100000 in
set_option maxHeartbeats 4000000 in
theorem fault_any (lo : Nat) (c a : Int) (v : Value) (w : World) (hg : GlobE w) (hv : ErrV lo c a v w) :
    Calls Tryd.prog 11 #[v] w fun e w' => e = .returned (.tuple #[.int .i64 c, .int .i64 (if c = 0 then 0 else a), .bool true]) ∧ Below w.heap.size w w' := by
  unfold ErrV at hv
  by_cases hc : c = 0
  · rw [if_pos hc] at hv
    subst hv hc
    rw [if_pos rfl]
    go_enter Tryd.func11, Tryd.ntmps11
    go_wp2
    refine bodyPost_ret (v := .tuple #[.int .i64 0, .int .i64 0, .bool true]) (by simp [results, Tryd.results11, go_sem, *]) rfl ⟨rfl, Below.refl _ _⟩
  · rw [if_neg hc] at hv ⊢
    obtain ⟨f, _, rfl, h0, h1⟩ := hv
    have hc0 : (c == 0) = false := by simpa using hc
    have hfl : f < w.heap.size := World.block_lt_of_cell? w _ h0
    have hgl : 0 < w.heap.size := World.block_lt_of_cell? w _ hg
    have hgA : (w.alloc (.cells #[.pointer none] 61)).cell? ⟨0, 0, none⟩ = some (.iface 98 (.agg #[.pointer (some ⟨2, 31, none⟩)])) := by
      rw [World.cell?_alloc_lt _ _ ⟨0, 0, none⟩ hgl]; exact hg
    have HA := Lib.hid ((as_hit ⟨f, 0, none⟩ ⟨w.heap.size, 0, none⟩ (.pointer none) (w.alloc (.cells #[.pointer none] 61)) hgA (by simp) (by simp)).mono (fun _ _ h => after_as (f := f) h))
    clear hgA hgl
    go_enter Tryd.func11, Tryd.ntmps11
    go_wp2_with (first | (go_at_call 21; refine HA.out.mono ?_; rintro e w1 ⟨rfl, hw1, b1⟩; have k0 := (b1.cell (p := ⟨f, 0, none⟩) hfl).trans h0; have k1 := (b1.cell (p := ⟨f, 1, none⟩) hfl).trans h1) | (go_at_call 22; refine (is_fault _ _ _ ?_).mono ?_; assumption; rintro e w2 ⟨rfl, rfl⟩))
    go_quiet (fail)
    have b2 := Below_drewN' b1 nq
    go_wp2
    refine bodyPost_ret (v := .tuple #[.int .i64 c, .int .i64 a, .bool true]) (by simp [results, Tryd.results11, go_sem, *]) rfl ⟨rfl, b2⟩
end Go.Proofs.YtefhjncoakgbkaaDoor
