/- errors.Is of a *api.Fault and its own Code; the law's fault. -/
import Derived.Test.YtlhmmplkdjibkaaGreatDoorJ3
import Derived.Test.YtlhmmplkdjibkaaGreatDoorJ1
import Derived.BigQuiet
import Derived.Deep.QuietTactic
namespace Go.Proofs.YtlhmmplkdjibkaaGreatDoor
open Go.RowKit Go.Extern.Stop Go.Stop Go.Extern

theorem ri_typeOf (v : Value) (w : World) : (ReflectliteType.typeOf #[.iface 32 v]).run Tryz.prog w = .ok (.iface 203 (.agg #[.pointer (some ⟨4, 32, none⟩)])) w := by kernel_rfl
theorem ri_mComp (v : Value) (w : World) : (Go.method 388 203 v "Comparable").run Tryz.prog w = .ok (214, v) w := by kernel_rfl
theorem ri_comp : (Tryz.prog.info? 32).map (·.comparable) = some true := by kernel_rfl
theorem ri_noIs (v : Value) (xT : TypeId) (w : World) : (Instr.typeAssert (.iface 85 v) xT 214 true).run Tryz.prog w = .ok (.tuple #[.nilIface, .bool false]) w := run_typeAssert_lacksB Tryz.underlying214 (by kernel_rfl) (by kernel_rfl) v xT w
theorem ri_unwrap (v : Value) (xT : TypeId) (w : World) : (Instr.typeAssert (.iface 85 v) xT 210 true).run Tryz.prog w = .ok (.tuple #[.iface 85 v, .bool true]) w := run_typeAssert_hasB Tryz.underlying210 (by kernel_rfl) v xT w
theorem ri_mUnwrap (v : Value) (w : World) : (Go.method 388 85 v "Unwrap").run Tryz.prog w = .ok (207, v) w := by kernel_rfl
theorem ri_same (c : Int) (w : World) : (binOp .eql 38 (.iface 32 (.int .i64 c)) (.iface 32 (.int .i64 c))).run Tryz.prog w = .ok (.bool true) w := by
  obtain ⟨i, hi, hc⟩ := Option.map_eq_some_iff.1 ri_comp
  have h : ∀ d : Nat, (Op.equalIn (d + 2) 38 (.iface 32 (.int .i64 c)) (.iface 32 (.int .i64 c))).run Tryz.prog w = .ok true w := fun d => by
    simp [Op.equalIn, run_underlying Tryz.underlying38, run_underlying Tryz.underlying32, typeInfo, hi, hc]
  simp only [binOp]
  simp [Op.equal, Op.maxDepth, h 9998]

set_option maxHeartbeats 4000000 in
theorem is_fault (f : Nat) (c : Int) (w : World) (h1 : w.cell? ⟨f, 0, none⟩ = some (.int .i64 c)) :
    Calls Tryz.prog 35 #[.iface 85 (.pointer (some ⟨f, 0, none⟩)), .iface 32 (.int .i64 c)] w fun e w' => e = .returned (.bool true) ∧ w' = w := by
  have h8 := @run_callFunc_extern Tryz.prog 77 _ ReflectliteType.typeOf Tryz.func77 (by kernel_rfl) (by kernel_rfl) (by kernel_rfl) (by kernel_rfl)
  have h32 := @run_callFunc_extern Tryz.prog 214 _ (ReflectliteType.method fun t => do Rtype.noPackHeld "Comparable" t; pure (.bool (← typeInfo t).comparable)) Tryz.func214 (by kernel_rfl) (by kernel_rfl) (by kernel_rfl) (by kernel_rfl)
  have tT := ri_typeOf
  have cT : ∀ w, ((ReflectliteType.method fun t => do Rtype.noPackHeld "Comparable" t; pure (.bool (← typeInfo t).comparable)) #[.agg #[.pointer (some ⟨4, 32, none⟩)]]).run Tryz.prog w = .ok (.bool true) w := fun w => by kernel_rfl
  generalize (ReflectliteType.method fun t => do Rtype.noPackHeld "Comparable" t; pure (.bool (← typeInfo t).comparable)) = g at h32 cT
  have mR := ri_mComp
  have nW := ri_noIs
  have uW := ri_unwrap
  have mU := ri_mUnwrap
  have heq := ri_same c w
  have hty := run_eql_iface_types (P := Tryz.prog) 85 32 (.pointer (some ⟨f, 0, none⟩)) (.int .i64 c) Tryz.underlying38 (by decide) w
  go_enter Tryz.func35, Tryz.ntmps35
  go_wp2
  refine wp_loop_rounds 2 ?_
  rw [rounds_succ]
  go_wp2
  rw [rounds_succ]
  go_wp2
  go_ret
  exact ⟨rfl, rfl⟩

/-- what reflectlite wants of memory: the type error's handle -/
def GlobE (w : World) : Prop := w.cell? ⟨0, 0, none⟩ = some (.iface 203 (.agg #[.pointer (some ⟨4, 38, none⟩)]))
theorem GlobE.next {w w' : World} (h : GlobE w) (hb : Below w.heap.size w w') : GlobE w' := (hb.cell (World.block_lt_of_cell? w _ h)).trans h

/-- an error that a call answers: none, or a fault with this Code and place -/
def ErrV (lo : Nat) (c a : Int) (v : Value) (w : World) : Prop := if c = 0 then v = .nilIface else ∃ f, lo ≤ f ∧ v = .iface 85 (.pointer (some ⟨f, 0, none⟩)) ∧ w.cell? ⟨f, 0, none⟩ = some (.int .i64 c) ∧ w.cell? ⟨f, 1, none⟩ = some (.int .i64 a)
theorem ErrV.next {lo : Nat} {c a : Int} {v : Value} {w w' : World} (h : ErrV lo c a v w) (hb : Below w.heap.size w w') : ErrV lo c a v w' := by
  unfold ErrV at *
  by_cases hc : c = 0
  · rw [if_pos hc] at *; exact h
  · rw [if_neg hc] at *
    obtain ⟨f, h0, h1, h2, h3⟩ := h
    have hl : f < w.heap.size := World.block_lt_of_cell? w _ h2
    exact ⟨f, h0, h1, (hb.cell (p := ⟨f, 0, none⟩) hl).trans h2, (hb.cell (p := ⟨f, 1, none⟩) hl).trans h3⟩

theorem after_as {f : Nat} {w : World} {e : Ending} {w' : World} : (e = .returned (.bool true) ∧ w' = (((((w.alloc (.cells #[.pointer none] 85)).alloc (.cells #[.pointer (some ⟨w.heap.size, 0, none⟩)] 87)).alloc (.cells #[.pointer (some ⟨4, 87, none⟩), .pointer (some ⟨(w.alloc (.cells #[.pointer none] 85)).heap.size, 0, none⟩), .int .u64 150] 144)).alloc (.cells #[.pointer (some ⟨4, 87, none⟩), .pointer (some ⟨(w.alloc (.cells #[.pointer none] 85)).heap.size, 0, none⟩), .int .u64 150] 144)).alloc (.cells #[.pointer (some ⟨f, 0, none⟩)] 85)).setCell ⟨w.heap.size, 0, none⟩ (.pointer (some ⟨f, 0, none⟩))) →
    e = .returned (.bool true) ∧ w'.cell? ⟨w.heap.size, 0, none⟩ = some (.pointer (some ⟨f, 0, none⟩)) ∧ Below w.heap.size w w' := by
  rintro ⟨rfl, rfl⟩
  refine ⟨rfl, ?_, ?_⟩
  · exact (lit_cell (lit_set _ (lit_old _ (lit_old _ (lit_old _ (lit_old _ (heap_alloc_new w (.cells #[.pointer none] 85))))))) 0).trans rfl
  exact (((((Below.refl _ _).alloc (Nat.le_refl _) _).alloc (by simp) _).alloc (by simp; omega) _).alloc (by simp; omega) _).alloc (by simp; omega) _ |>.setCell (Nat.le_refl _) _

end Go.Proofs.YtlhmmplkdjibkaaGreatDoor
