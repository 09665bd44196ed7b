/- End, New; a reader that is none: all that is asked of a reader. -/
import Derived.Test.YtbkiijndhjmkdaaGreatDoorJ12
namespace Go.Proofs.YtbkiijndhjmkdaaGreatDoor
open Go.RowKit Go.Extern.Stop Go.Stop Go.Extern

theorem ri_noIsE (v : Value) (xT : TypeId) (w : World) : (Instr.typeAssert (.iface 28 v) xT 249 true).run Tryz.prog w = .ok (.tuple #[.nilIface, .bool false]) w := run_typeAssert_lacksB Tryz.underlying249 (by kernel_rfl) (by kernel_rfl) v xT w
theorem ri_noUnE (v : Value) (xT : TypeId) (w : World) : (Instr.typeAssert (.iface 28 v) xT 245 true).run Tryz.prog w = .ok (.tuple #[.nilIface, .bool false]) w := run_typeAssert_lacksB Tryz.underlying245 (by kernel_rfl) (by kernel_rfl) v xT w
theorem ri_noUsE (v : Value) (xT : TypeId) (w : World) : (Instr.typeAssert (.iface 28 v) xT 246 true).run Tryz.prog w = .ok (.tuple #[.nilIface, .bool false]) w := run_typeAssert_lacksB Tryz.underlying246 (by kernel_rfl) (by kernel_rfl) v xT w
theorem ri_unlike (c d : Int) (hcd : (c == d) = false) (w : World) : (binOp .eql 34 (.iface 28 (.int .i64 c)) (.iface 28 (.int .i64 d))).run Tryz.prog w = .ok (.bool false) w := by
  obtain ⟨i, hi, hc⟩ := Option.map_eq_some_iff.1 ri_comp
  have h : ∀ k : Nat, (Op.equalIn (k + 2) 34 (.iface 28 (.int .i64 c)) (.iface 28 (.int .i64 d))).run Tryz.prog w = .ok false w := fun k => by
    simp [Op.equalIn, run_underlying Tryz.underlying34, run_underlying Tryz.underlying28, typeInfo, hi, hc, hcd]
  simp only [binOp]
  simp [Op.equal, Op.maxDepth, h 9998]

set_option maxHeartbeats 4000000 in
theorem is_unlike (f : Nat) (c d : Int) (hcd : (c == d) = false) (w : World) (h1 : w.cell? ⟨f, 0, none⟩ = some (.int .i64 c)) :
    Calls Tryz.prog 50 #[.iface 106 (.pointer (some ⟨f, 0, none⟩)), .iface 28 (.int .i64 d)] w fun e w' => e = .returned (.bool false) ∧ w' = w := by
  have h8 := @run_callFunc_extern Tryz.prog 100 _ ReflectliteType.typeOf Tryz.func100 (by kernel_rfl) (by kernel_rfl) (by kernel_rfl) (by kernel_rfl)
  have h32 := @run_callFunc_extern Tryz.prog 243 _ (ReflectliteType.method fun t => do Rtype.noPackHeld "Comparable" t; pure (.bool (← typeInfo t).comparable)) Tryz.func243 (by kernel_rfl) (by kernel_rfl) (by kernel_rfl) (by kernel_rfl)
  have tT := ri_typeOf
  have cT : ∀ w, ((ReflectliteType.method fun t => do Rtype.noPackHeld "Comparable" t; pure (.bool (← typeInfo t).comparable)) #[.agg #[.pointer (some ⟨4, 28, none⟩)]]).run Tryz.prog w = .ok (.bool true) w := fun w => by kernel_rfl
  generalize (ReflectliteType.method fun t => do Rtype.noPackHeld "Comparable" t; pure (.bool (← typeInfo t).comparable)) = g at h32 cT
  have mR := ri_mComp
  have nW := ri_noIs
  have uW := ri_unwrap
  have mU := ri_mUnwrap
  have nE1 := ri_noIsE
  have nE2 := ri_noUnE
  have nE3 := ri_noUsE
  have heq := ri_unlike c d hcd w
  have hty := run_eql_iface_types (P := Tryz.prog) 106 28 (.pointer (some ⟨f, 0, none⟩)) (.int .i64 d) Tryz.underlying34 (by decide) w
  clear hcd
  go_enter Tryz.func50, Tryz.ntmps50
  go_wp2
  refine wp_loop_rounds 2 ?_
  rw [rounds_succ]
  go_wp2
  rw [rounds_succ]
  go_wp2
  go_ret
  exact ⟨rfl, rfl⟩

set_option maxRecDepth 100000 in
theorem qlist_any (b : Nat) (S : List UInt8) (a m : Nat) (w : World) (hR : RQ b S a m w) (hG : GlobU w) (hS : S.length ≤ 1000000) (ha : a ≤ S.length) :
    Calls Tryz.prog 196 #[.pointer (some ⟨b, 0, none⟩)] w fun e w' => ∃ v, e = .returned (.tuple #[.int .i64 ((takeP (S.drop a) m 3).n : Int), v]) ∧ ErrV w.heap.size (takeP (S.drop a) m 3).c a v w' ∧ RQ b S (a + (takeP (S.drop a) m 3).m) m w' ∧ Only b w w' := by
  have HC0 := qbegun_any b S a m 3 w hR hG hS ha (by decide)
  rw [← takeP_len (S.drop a) m 3 (by decide) (by decide) (by decide)] at HC0
  have HC := Lib.hid HC0
  clear HC0 hR hG hS ha
  generalize takeP (S.drop a) m 3 = P at *
  go_enter Tryz.func196, Tryz.ntmps196
  go_wp2_with (go_at_call 187; refine HC.out.mono ?_; rintro e w1 ⟨v, rfl, h1, h2, h3⟩)
  refine bodyPost_ret (v := .tuple #[.int .i64 (P.n : Int), v]) (by simp [results, Tryz.results196, go_sem]) rfl ⟨v, rfl, h1, h2, h3⟩

set_option maxRecDepth 100000 in
theorem qmap_any (b : Nat) (S : List UInt8) (a m : Nat) (w : World) (hR : RQ b S a m w) (hG : GlobU w) (hS : S.length ≤ 1000000) (ha : a ≤ S.length) :
    Calls Tryz.prog 146 #[.pointer (some ⟨b, 0, none⟩)] w fun e w' => ∃ v, e = .returned (.tuple #[.int .i64 ((takeP (S.drop a) m 4).n : Int), v]) ∧ ErrV w.heap.size (takeP (S.drop a) m 4).c a v w' ∧ RQ b S (a + (takeP (S.drop a) m 4).m) m w' ∧ Only b w w' := by
  have HC0 := qbegun_any b S a m 4 w hR hG hS ha (by decide)
  rw [← takeP_len (S.drop a) m 4 (by decide) (by decide) (by decide)] at HC0
  have HC := Lib.hid HC0
  clear HC0 hR hG hS ha
  generalize takeP (S.drop a) m 4 = P at *
  go_enter Tryz.func146, Tryz.ntmps146
  go_wp2_with (go_at_call 187; refine HC.out.mono ?_; rintro e w1 ⟨v, rfl, h1, h2, h3⟩)
  refine bodyPost_ret (v := .tuple #[.int .i64 (P.n : Int), v]) (by simp [results, Tryz.results146, go_sem]) rfl ⟨v, rfl, h1, h2, h3⟩

set_option maxRecDepth 100000 in
theorem qbin_any (b : Nat) (S : List UInt8) (a m : Nat) (w : World) (hR : RQ b S a m w) (hG : GlobU w) (hS : S.length ≤ 1000000) (ha : a ≤ S.length) :
    Calls Tryz.prog 186 #[.pointer (some ⟨b, 0, none⟩)] w fun e w' => ∃ v, e = .returned (.tuple #[.string ⟨(takeP (S.drop a) m 1).t.toArray⟩, v]) ∧ ErrV w.heap.size (takeP (S.drop a) m 1).c a v w' ∧ RQ b S (a + (takeP (S.drop a) m 1).m) m w' ∧ Only b w w' := by
  have HC0 := qcounted_any b S a m 1 w hR hG hS ha (.inl rfl)
  have HC := Lib.hid HC0
  clear HC0 hR hG hS ha
  generalize takeP (S.drop a) m 1 = P at *
  go_enter Tryz.func186, Tryz.ntmps186
  go_wp2_with (go_at_call 188; refine HC.out.mono ?_; rintro e w1 ⟨v, rfl, h1, h2, h3⟩)
  refine bodyPost_ret (v := .tuple #[.string ⟨P.t.toArray⟩, v]) (by simp [results, Tryz.results186, go_sem]) rfl ⟨v, rfl, h1, h2, h3⟩

set_option maxRecDepth 100000 in
theorem qstr_any (b : Nat) (S : List UInt8) (a m : Nat) (w : World) (hR : RQ b S a m w) (hG : GlobU w) (hS : S.length ≤ 1000000) (ha : a ≤ S.length) :
    Calls Tryz.prog 148 #[.pointer (some ⟨b, 0, none⟩)] w fun e w' => ∃ v, e = .returned (.tuple #[.string ⟨(takeP (S.drop a) m 2).t.toArray⟩, v]) ∧ ErrV w.heap.size (takeP (S.drop a) m 2).c a v w' ∧ RQ b S (a + (takeP (S.drop a) m 2).m) m w' ∧ Only b w w' := by
  have HC0 := qcounted_any b S a m 2 w hR hG hS ha (.inr rfl)
  have HC := Lib.hid HC0
  clear HC0 hR hG hS ha
  generalize takeP (S.drop a) m 2 = P at *
  go_enter Tryz.func148, Tryz.ntmps148
  go_wp2_with (go_at_call 188; refine HC.out.mono ?_; rintro e w1 ⟨v, rfl, h1, h2, h3⟩)
  refine bodyPost_ret (v := .tuple #[.string ⟨P.t.toArray⟩, v]) (by simp [results, Tryz.results148, go_sem]) rfl ⟨v, rfl, h1, h2, h3⟩

set_option maxRecDepth 100000 in
theorem end1_any (A : Nat) (S : List UInt8) (a m : Nat) (w : World) (hR : RAt A S a m w) (hS : S.length ≤ 1000000) (ha : a ≤ S.length) :
    Calls Tryz.prog 155 #[.pointer (some ⟨A, 0, none⟩)] w (Gave (if a < S.length then 5 else 4) A w) := by
  by_cases hl : a < S.length
  · have HT := Lib.hid (qtake_ok A S a m 1 w hR hS ha (by rw [List.length_drop]; omega))
    rw [if_pos hl]
    clear hR hS ha hl
    have HG := Lib.hid (fun w => giveUp_any 5 A w)
    go_enter Tryz.func155, Tryz.ntmps155
    go_wp2_with (first | (go_at_call 156; refine HT.out.mono ?_; rintro e w1 ⟨rfl, hr, ho⟩) | (go_at_call 157; refine (HG.out _).mono ?_; rintro e w2 ⟨⟨f, hf, rfl, hfc⟩, ho2⟩))
    exact ⟨rfl, (⟨⟨f, hf, rfl, hfc⟩, ho2⟩ : Gave 5 A _ _ w2).from ho⟩
  · have HT := Lib.hid (qtake_short A S a m 1 w hR hS ha (by decide) (by rw [List.length_drop]; omega))
    rw [if_neg hl]
    clear hR hS ha hl
    go_enter Tryz.func155, Tryz.ntmps155
    go_wp2_with (go_at_call 156; refine HT.out.mono ?_; rintro e w1 ⟨⟨f, hf, rfl, hfc⟩, ho⟩)
    exact ⟨rfl, ⟨f, hf, rfl, hfc⟩, ho⟩

set_option maxRecDepth 100000 in
theorem qend_any (b : Nat) (S : List UInt8) (a m : Nat) (w : World) (hR : RQ b S a m w) (hG : GlobU w) (hS : S.length ≤ 1000000) (ha : a ≤ S.length) :
    Calls Tryz.prog 88 #[.pointer (some ⟨b, 0, none⟩)] w fun e w' => ∃ v, e = .returned v ∧ ErrV w.heap.size (if a < S.length then 5 else 0) a v w' ∧ Below w.heap.size w w' := by
  have HC0 := attempt_bad b S a m (if a < S.length then 5 else 4) 155 #[] w ent_end hR.r hG.e (fun w4 A h4 hA hRA => end1_any A S a m w4 hRA hS ha)
  by_cases hl : a < S.length
  · rw [if_pos hl] at HC0 ⊢
    have HC := Lib.hid HC0
    clear HC0 hR hG hS ha hl
    go_enter Tryz.func88, Tryz.ntmps88
    go_wp2_with (first | (go_at_call 154; refine HC.out.mono ?_; rintro e w1 ⟨g, rfl, hm⟩) | (go_at_call 50; refine (is_unlike g 5 4 (by decide) _ ((lit_cell hm.h 0).trans rfl)).mono ?_; rintro e w2 ⟨rfl, rfl⟩))
    refine bodyPost_ret (v := .iface 106 (.pointer (some ⟨g, 0, none⟩))) (by simp [results, Tryz.results88, go_sem]) rfl ⟨_, rfl, errV_made (c := 5) hm (Nat.le_refl _) (by decide) rfl, hm.b⟩
  · rw [if_neg hl] at HC0 ⊢
    have HC := Lib.hid HC0
    clear HC0 hR hG hS ha hl
    go_enter Tryz.func88, Tryz.ntmps88
    go_wp2_with (first | (go_at_call 154; refine HC.out.mono ?_; rintro e w1 ⟨g, rfl, hm⟩) | (go_at_call 50; refine (is_fault g 4 _ ((lit_cell hm.h 0).trans rfl)).mono ?_; rintro e w2 ⟨rfl, rfl⟩))
    refine bodyPost_ret (v := .nilIface) (by simp [results, Tryz.results88, go_sem]) rfl ⟨_, rfl, ?_, hm.b⟩
    rw [ErrV, if_pos rfl]

set_option maxRecDepth 100000 in
theorem qnew_any (S : List UInt8) (i : Int) (w : World) (h1 : -9223372036854775808 ≤ i) (h2 : i ≤ 9223372036854775807) :
    Calls Tryz.prog 86 #[.string ⟨S.toArray⟩, .int .i64 i] w fun e w' => ∃ b, w.heap.size ≤ b ∧ e = .returned (.pointer (some ⟨b, 0, none⟩)) ∧ RQ b S 0 (max i 0).toNat w' ∧ Below w.heap.size w w' := by
  by_cases hz : i = 0
  · subst hz
    have HR := Lib.hid (heap_alloc_new w (.cells #[.string ⟨S.toArray⟩, .int .i64 0, .int .i64 0] 226))
    clear h1 h2
    go_enter Tryz.func86, Tryz.ntmps86
    go_wp2
    go_ret
    exact ⟨_, Nat.le_refl _, rfl, ⟨HR.out, by decide⟩, by0 _ _⟩
  by_cases hi : i < 0
  · have e : (max i 0).toNat = 0 := by omega
    rw [e]
    have HR := Lib.hid (heap_alloc_new w (.cells #[.string ⟨S.toArray⟩, .int .i64 0, .int .i64 0] 226))
    have hmx : max i 0 = 0 := by omega
    clear e hz h1 h2
    go_enter Tryz.func86, Tryz.ntmps86
    go_wp2
    all_goals go_ret
    all_goals first | exact ⟨_, Nat.le_refl _, rfl, ⟨HR.out, Nat.zero_lt_succ _⟩, by0 _ _⟩ | (exfalso; omega)
  · obtain ⟨m, rfl⟩ : ∃ m : Nat, i = (m : Int) := ⟨i.toNat, by omega⟩
    have e : (max (m : Int) 0).toNat = m := by omega
    rw [e]
    have HM := Lib.hid (show m < 9223372036854775808 by omega)
    have HR := Lib.hid (heap_alloc_new w (.cells #[.string ⟨S.toArray⟩, .int .i64 0, .int .i64 (m : Int)] 226))
    have hp : (0 : Int) < (m : Int) := by omega
    clear e h1 h2 hz hi
    go_enter Tryz.func86, Tryz.ntmps86
    go_wp2
    all_goals go_ret
    all_goals first | exact ⟨_, Nat.le_refl _, rfl, ⟨HR.out, HM.out⟩, by0 _ _⟩ | (exfalso; omega)

theorem reader_c : ReaderC GlobU RQ where
  ge := fun h => h.e
  gb := fun h hb => h.next hb
  lt := fun h => lit_lt h.r
  keep := fun h ho hne => ⟨(ho.block _ (lit_lt h.r) hne.symm).trans h.r, h.m⟩
  new := fun S i w _ _ h1 h2 => qnew_any S i w h1 h2
  num := fun b S a m w h g hS ha => by
    have k := qnum_any b S a m w h g hS ha
    rw [← takeP_numQ (S.drop a) m] at k
    exact k
  bin := qbin_any
  str := qstr_any
  list := qlist_any
  map := qmap_any
  fin := qend_any

/-- a reader that is none -/
structure NilU : Prop where
  num : ∀ w, Calls Tryz.prog 184 #[.pointer none] w fun e w' => ∃ v, e = .returned (.tuple #[.int .u64 0, v]) ∧ ErrV w.heap.size 1 0 v w' ∧ Below w.heap.size w w'
  str : ∀ w, Calls Tryz.prog 148 #[.pointer none] w fun e w' => ∃ v, e = .returned (.tuple #[.string ⟨#[]⟩, v]) ∧ ErrV w.heap.size 1 0 v w' ∧ Below w.heap.size w w'
  fin : ∀ w, Calls Tryz.prog 88 #[.pointer none] w fun e w' => ∃ v, e = .returned v ∧ ErrV w.heap.size 1 0 v w' ∧ Below w.heap.size w w'
set_option maxRecDepth 100000 in
theorem attempt_nil (fv : Value) (w : World) : Calls Tryz.prog 154 #[.pointer none, fv] w fun e w' => ∃ g, e = .returned (.iface 106 (.pointer (some ⟨g, 0, none⟩))) ∧ Made (1 : Int) (0 : Int) g w w' := by
  go_enter_defers Tryz.func154, Tryz.ntmps154
  go_wp2_with fail
  have hN : w.heap.size + 1 + 1 = ((w.alloc (.cells #[.pointer none] 155)).alloc (.cells #[.iface 106 (.pointer (some ⟨w.heap.size + 1 + 1, 0, none⟩))] 34)).heap.size := by simp
  have hN1 : w.heap.size + 1 = (w.alloc (.cells #[.pointer none] 155)).heap.size := by simp
  have hW1 : (((w.alloc (.cells #[.pointer none] 155)).alloc (.cells #[.iface 106 (.pointer (some ⟨w.heap.size + 1 + 1, 0, none⟩))] 34)).alloc (.cells #[.int .i64 1, .int .i64 0] 38)).heap[w.heap.size + 1 + 1]? = some (.cells #[.int .i64 1, .int .i64 0] 38 (0, 0)) := by
    conv => lhs; arg 2; rw [hN]
    exact heap_alloc_new _ _
  have hW2 : (((w.alloc (.cells #[.pointer none] 155)).alloc (.cells #[.iface 106 (.pointer (some ⟨w.heap.size + 1 + 1, 0, none⟩))] 34)).alloc (.cells #[.int .i64 1, .int .i64 0] 38)).heap[w.heap.size + 1]? = some (.cells #[.iface 106 (.pointer (some ⟨w.heap.size + 1 + 1, 0, none⟩))] 34 (0, 0)) := by
    refine lit_old _ ?_
    conv => lhs; arg 2; rw [hN1]
    exact heap_alloc_new _ _
  have hW3 : Below w.heap.size w (((w.alloc (.cells #[.pointer none] 155)).alloc (.cells #[.iface 106 (.pointer (some ⟨w.heap.size + 1 + 1, 0, none⟩))] 34)).alloc (.cells #[.int .i64 1, .int .i64 0] 38)) := ((by0 w _).alloc (by simp) _).alloc (by simp <;> omega) _
  generalize ((w.alloc (.cells #[.pointer none] 155)).alloc (.cells #[.iface 106 (.pointer (some ⟨w.heap.size + 1 + 1, 0, none⟩))] 34)).alloc (.cells #[.int .i64 1, .int .i64 0] 38) = wf at *
  have z0 := (lit_cell hW2 0).trans rfl
  exact ⟨.iface 106 (.pointer (some ⟨w.heap.size + 1 + 1, 0, none⟩)), by simp [results, Tryz.results154, go_sem, z0], _, rfl, by omega, hW1, hW3⟩
set_option maxRecDepth 100000 in
theorem nil_num (w : World) : Calls Tryz.prog 184 #[.pointer none] w fun e w' => ∃ v, e = .returned (.tuple #[.int .u64 0, v]) ∧ ErrV w.heap.size 1 0 v w' ∧ Below w.heap.size w w' := by
  have hmf : ∀ (fn : Fn) (first cap : Array Value) (w : World), (Instr.makeFunc fn first cap).run Tryz.prog w = .ok (.func fn first cap) w := fun _ _ _ _ => rfl
  obtain ⟨X, hX⟩ : ∃ X, X = w.heap.size := ⟨_, rfl⟩
  obtain ⟨wA, hwA⟩ : ∃ wA, w.alloc (.cells #[.int .u64 0] 22) = wA := ⟨_, rfl⟩
  have HB0 := Lib.hid (show Below w.heap.size w wA from hwA ▸ by0 w _)
  have HX0 := Lib.hid (show wA.heap[X]? = some (.cells #[.int .u64 0] 22 (0, 0)) by rw [← hwA, hX]; exact heap_alloc_new w _)
  have HC := Lib.hid (attempt_nil (.func (.func 207) #[] #[.pointer (some ⟨X, 0, none⟩)]) wA)
  have HXE := Lib.hid hX
  have HWA := Lib.hid hwA
  clear hX hwA
  go_enter Tryz.func184, Tryz.ntmps184
  go_upto_region 1 with fail
  rw [HWA.out, ← HXE.out]
  go_wp2_with (go_at_call 154; refine HC.out.mono ?_; rintro e w2 ⟨g, rfl, hm⟩; have hx := (hm.b.block X (lit_lt HX0.out)).trans HX0.out; have x0 := (lit_cell hx 0).trans rfl; have x1 := lit_free hx 0)
  have hX := HXE.out
  have hl := hm.l
  have hxl := lit_lt HX0.out
  have hx2 : (w2.setCell ⟨X, 0, none⟩ (.int .u64 0)).heap[X]? = some (.cells #[.int .u64 0] 22 (0, 0)) := (lit_set _ hx).trans rfl
  have z0 := (lit_cell hx2 0).trans rfl
  have hm2 : (w2.setCell ⟨X, 0, none⟩ (.int .u64 0)).heap[g]? = w2.heap[g]? := lit_far _ (by omega)
  have ho2 : Below w.heap.size w (w2.setCell ⟨X, 0, none⟩ (.int .u64 0)) := (HB0.out.trans (hm.b.mono (by omega))).setCell (show w.heap.size ≤ X by omega) _
  generalize w2.setCell ⟨X, 0, none⟩ (.int .u64 0) = w3 at *
  refine bodyPost_ret (v := .tuple #[.int .u64 0, .iface 106 (.pointer (some ⟨g, 0, none⟩))]) (by simp [results, Tryz.results184, go_sem, z0]) rfl ⟨_, rfl, errV_made (c := 1) (a := 0) hm (by omega) (by decide) hm2, ho2⟩
set_option maxRecDepth 100000 in
theorem nil_counted (s : Int) (w : World) : Calls Tryz.prog 188 #[.pointer none, .int .i64 s] w fun e w' => ∃ v, e = .returned (.tuple #[.string ⟨#[]⟩, v]) ∧ ErrV w.heap.size 1 0 v w' ∧ Below w.heap.size w w' := by
  have hmf : ∀ (fn : Fn) (first cap : Array Value) (w : World), (Instr.makeFunc fn first cap).run Tryz.prog w = .ok (.func fn first cap) w := fun _ _ _ _ => rfl
  obtain ⟨Y, hY⟩ : ∃ Y, Y = w.heap.size := ⟨_, rfl⟩
  obtain ⟨X, hX⟩ : ∃ X, X = w.heap.size + 1 := ⟨_, rfl⟩
  obtain ⟨wA, hwA⟩ : ∃ wA, (w.alloc (.cells #[.int .i64 s] 3)).alloc (.cells #[.string ⟨#[]⟩] 9) = wA := ⟨_, rfl⟩
  have HB0 := Lib.hid (show Below w.heap.size w wA from hwA ▸ (by0 w _).alloc (by simp) _)
  have HX0 := Lib.hid (show wA.heap[X]? = some (.cells #[.string ⟨#[]⟩] 9 (0, 0)) by rw [← hwA, hX, show w.heap.size + 1 = (w.alloc (.cells #[.int .i64 s] 3)).heap.size by simp]; exact heap_alloc_new _ _)
  have HC := Lib.hid (attempt_nil (.func (.func 211) #[] #[.pointer (some ⟨Y, 0, none⟩), .pointer (some ⟨X, 0, none⟩)]) wA)
  have HXE := Lib.hid hX
  have HYE := Lib.hid hY
  have HWA := Lib.hid hwA
  clear hX hwA hY
  go_enter Tryz.func188, Tryz.ntmps188
  go_upto_region 1 with fail
  rw [HWA.out, ← HXE.out, ← HYE.out]
  go_wp2_with (go_at_call 154; refine HC.out.mono ?_; rintro e w2 ⟨g, rfl, hm⟩; have hx := (hm.b.block X (lit_lt HX0.out)).trans HX0.out; have x0 := (lit_cell hx 0).trans rfl; have x1 := lit_free hx 0)
  have hX := HXE.out
  have hl := hm.l
  have hxl := lit_lt HX0.out
  have hx2 : (w2.setCell ⟨X, 0, none⟩ (.string ⟨#[]⟩)).heap[X]? = some (.cells #[.string ⟨#[]⟩] 9 (0, 0)) := (lit_set _ hx).trans rfl
  have z0 := (lit_cell hx2 0).trans rfl
  have hm2 : (w2.setCell ⟨X, 0, none⟩ (.string ⟨#[]⟩)).heap[g]? = w2.heap[g]? := lit_far _ (by omega)
  have ho2 : Below w.heap.size w (w2.setCell ⟨X, 0, none⟩ (.string ⟨#[]⟩)) := (HB0.out.trans (hm.b.mono (by omega))).setCell (show w.heap.size ≤ X by omega) _
  generalize w2.setCell ⟨X, 0, none⟩ (.string ⟨#[]⟩) = w3 at *
  refine bodyPost_ret (v := .tuple #[.string ⟨#[]⟩, .iface 106 (.pointer (some ⟨g, 0, none⟩))]) (by simp [results, Tryz.results188, go_sem, z0]) rfl ⟨_, rfl, errV_made (c := 1) (a := 0) hm (by omega) (by decide) hm2, ho2⟩
set_option maxRecDepth 100000 in
theorem nil_str (w : World) : Calls Tryz.prog 148 #[.pointer none] w fun e w' => ∃ v, e = .returned (.tuple #[.string ⟨#[]⟩, v]) ∧ ErrV w.heap.size 1 0 v w' ∧ Below w.heap.size w w' := by
  have HC := Lib.hid (nil_counted 2 w)
  go_enter Tryz.func148, Tryz.ntmps148
  go_wp2_with (go_at_call 188; refine HC.out.mono ?_; rintro e w1 ⟨v, rfl, h1, h2⟩)
  refine bodyPost_ret (v := .tuple #[.string ⟨#[]⟩, v]) (by simp [results, Tryz.results148, go_sem]) rfl ⟨v, rfl, h1, h2⟩
set_option maxRecDepth 100000 in
theorem nil_end (w : World) : Calls Tryz.prog 88 #[.pointer none] w fun e w' => ∃ v, e = .returned v ∧ ErrV w.heap.size 1 0 v w' ∧ Below w.heap.size w w' := by
  have HC := Lib.hid (attempt_nil (.func (.func 155) #[] #[]) w)
  go_enter Tryz.func88, Tryz.ntmps88
  go_wp2_with (first | (go_at_call 154; refine HC.out.mono ?_; rintro e w1 ⟨g, rfl, hm⟩) | (go_at_call 50; refine (is_unlike g 1 4 (by decide) _ ((lit_cell hm.h 0).trans rfl)).mono ?_; rintro e w2 ⟨rfl, rfl⟩))
  refine bodyPost_ret (v := .iface 106 (.pointer (some ⟨g, 0, none⟩))) (by simp [results, Tryz.results88, go_sem]) rfl ⟨_, rfl, errV_made (c := 1) (a := 0) hm (Nat.le_refl _) (by decide) rfl, hm.b⟩
theorem nil_u : NilU := ⟨nil_num, nil_str, nil_end⟩
end Go.Proofs.YtbkiijndhjmkdaaGreatDoor
