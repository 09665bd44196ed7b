/- The reference: its rotation of a word, and its constants. -/
import Derived.Test.YtmnklonoelpidaaGreatDoorJ4
import Derived.Deep.QuietTactic
import Derived.BigQuiet
namespace Go.Proofs.YtmnklonoelpidaaGreatDoor
open Go.RowKit

theorem rt_eq (x : BitVec 32) (k : Nat) (k2 : k < 32) :
    bits BinOp.or IntKind.u32 (tn x / (2 : Int) ^ k) (tn x * (2 : Int) ^ (32 - k) % (4294967296 : Int)) = tn (x.rotateRight k) := by
  rw [shl_u32, shr_u32, bits_or_u32]
  rw [BitVec.rotateRight, Nat.mod_eq_of_lt k2]
  rfl

set_option maxHeartbeats 400000 in
theorem rt_any (x : BitVec 32) (k : Nat) (w : World) (k1 : 1 ≤ k) (k2 : k < 32) :
    Calls Tryz.prog 163 #[.int .u32 (tn x), .int .i64 (k : Int)] w fun e w' => e = .returned (.int .u32 (tn (x.rotateRight k))) ∧ ∃ n, w' = w.drewN n := by
  have a0 : (0 : Int) ≤ (k : Int) := by omega
  have a1 : (0 : Int) ≤ 32 - (k : Int) := by omega
  have a1' : (k : Int) ≤ 32 := by omega
  obtain ⟨e1, e2, e3⟩ : IntKind.i64.wrap (32 - (k : Int)) = 32 - (k : Int) ∧ (32 - (k : Int)).toNat = 32 - k ∧ (k : Int).toNat = k := ⟨IntWalk.i64_in _ (by omega), by omega, by omega⟩
  go_enter Tryz.func163, Tryz.ntmps163
  go_wp2
  go_quiet (fail)
  go_wp2
  go_ret
  exact ⟨congrArg Ending.returned (congrArg (Value.int IntKind.u32) (rt_eq x k k2)), nq, rfl⟩

def KA : Array Value := (KL.map fun n : Nat => Value.int .u32 (n : Int)).toArray
def zero60 : Array Value := (List.replicate 64 (Value.int .u32 0)).toArray

/-- one operation whose run is known -/
theorem wpList_run {P : Program} {w w' : World} {ops : Array Oper} {rest : List Oper} {o : Oper} {a : Act} {Q : Exit → Act → World → Prop} {v : Value} (hgd : o.guard = none)
    (hrun : (execOp a.eval o).run P w = .ok (.value v) w') (h : wpList P ops Q rest (a.put o.dst v) w') : wpList P ops Q (o :: rest) a w := by
  refine wpList_plain hgd fun K hK => ?_
  unfold Oper.wp
  rw [hrun]
  exact hK _ _ h
theorem wpList_build60 {w : World} {ops : Array Oper} {rest : List Oper} {o : Oper} {a : Act} {Q : Exit → Act → World → Prop} {v : Value} {parts : Array (Nat × Operand)} (hgd : o.guard = none) (_ho : o.op = .build 205 parts)
    (hrun : (execOp a.eval o).run Tryz.prog w = .ok (.value v) w) (h : wpList Tryz.prog ops Q rest (a.put o.dst v) w) : wpList Tryz.prog ops Q (o :: rest) a w := wpList_run hgd hrun h
theorem wpList_alloc60 {w : World} {ops : Array Oper} {rest : List Oper} {o : Oper} {a : Act} {Q : Exit → Act → World → Prop} (hgd : o.guard = none) (_ho : o.op = .alloc 205)
    (hrun : (execOp a.eval o).run Tryz.prog w = .ok (.value (.pointer (some ⟨w.heap.size, 0, none⟩))) (w.alloc (.cells zero60 205))) (h : wpList Tryz.prog ops Q rest (a.put o.dst (.pointer (some ⟨w.heap.size, 0, none⟩))) (w.alloc (.cells zero60 205))) : wpList Tryz.prog ops Q (o :: rest) a w := wpList_run hgd hrun h

theorem KA_size : KA.size = 64 := by kernel_rfl
theorem KA_one : KA.all (·.oneCell') = true := by kernel_rfl
theorem hi60 : (Tryz.prog.info? 205).map (·.size) = some KA.size := by kernel_rfl
theorem there60 (w : World) : (w.alloc (.cells zero60 205)).there w.heap.size 0 KA.size := by
  rw [KA_size]
  exact fun j hj => ⟨by rw [cell_of_row _ _ _ _ 205 _ (heap_alloc_new w _)]; simp [zero60]; omega, frozen_of_row _ _ _ _ 205 (heap_alloc_new w _)⟩
/-- the constants, stored in a new block -/
theorem stored60 (w : World) : ((w.alloc (.cells zero60 205)).setCells w.heap.size 0 KA.toList).heap[w.heap.size]? = some (.cells KA 205 (0, 0)) := by
  have h := heap_setCells_row KA.toList 0 (List.replicate 64 (Value.int .u32 0)) (w.alloc (.cells zero60 205)) (heap_alloc_new w _) (by rw [Array.length_toList, KA_size]; simp)
  rw [h]
  congr 2
set_option maxRecDepth 100000 in
set_option maxHeartbeats 8000000 in
theorem const_any (w : World) :
    Calls Tryz.prog 164 #[] w fun e w' => e = .returned (.agg KA) ∧ Below w.heap.size w w' := by
  go_enter Tryz.func164, Tryz.ntmps164
  go_wp2_with (first
    | (refine wpList_alloc60 rfl rfl (by kernel_rfl) ?_)
    | (refine wpList_build60 (v := .agg KA) rfl rfl (by kernel_rfl) ?_)
    | (refine wpList_store_mid rfl 205 (.tmp 0) (.tmp 1) rfl w.heap.size 0 KA rfl rfl (there60 w) hi60 KA_one ?_))
  exact bodyPost_ret (results_cell_row (P := Tryz.prog) (fn := Tryz.f164) rfl _ _ w.heap.size 205 KA (0, 0) _ rfl (stored60 w) Tryz.underlying205 rfl hi60) rfl ⟨rfl, Below_setCells ((Below.refl _ _).alloc (Nat.le_refl _) _) (Nat.le_refl _) 0 _⟩
end Go.Proofs.YtmnklonoelpidaaGreatDoor
