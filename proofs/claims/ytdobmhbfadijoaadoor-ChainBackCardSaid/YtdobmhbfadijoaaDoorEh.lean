/- copy of a text into 32 noughts. -/
import Derived.Test.YtdobmhbfadijoaaDoorEc
import Derived.Laws.CopyRow
import Derived.Deep.WholeRow
namespace Go.Proofs.YtdobmhbfadijoaaDoor
open Go.RowKit

def pad32 (s : (List UInt8)) : (List UInt8) := s.take 32 ++ List.replicate (32 - s.length) 0
theorem pad32_len (s : (List UInt8)) : (pad32 s).length = 32 := by rw [pad32, List.length_append, List.length_take, List.length_replicate]; omega
theorem copy_pad (s : (List UInt8)) (w : World) : (Builtin.copy_ #[31, 9] 3 #[.slice (some ⟨w.heap.size, 0, none⟩) 32 32, .string ⟨s.toArray⟩]).run Tryd.prog (w.alloc (.cells (bytesC zero32).toArray 5)) = .ok (.int .i64 ((min s.length 32 : Nat) : Int)) (w.alloc (.cells (bytesC (pad32 s)).toArray 5)) := by
  obtain ⟨i0, hi, hz0, hz1, hz2⟩ := info_parts info_byte
  obtain ⟨m, hm⟩ : ∃ m, m = min s.length 32 := ⟨_, rfl⟩
  have hsz : (⟨s.toArray⟩ : ByteArray).size = s.length := rfl
  have hmin : Nat.min s.length 32 = m := hm.symm
  have hvs : List.take m (List.map (fun b : UInt8 => Value.int IntKind.u8 (b.toNat : Int)) s) = bytesC (s.take 32) := by
    rw [bytesC, ← List.map_take, hm, ← List.take_take, List.take_of_length_le (i := s.length) (by rw [List.length_take]; omega)]
  have hlv : (bytesC (s.take 32)).length = m := by rw [bytesC, List.length_map, List.length_take, hm, Nat.min_comm]
  have hst := run_storeCells_at Tryd.prog w.heap.size 0 5 (bytesC (s.take 32)) 0 (bytesC zero32).toArray (w.alloc (.cells (bytesC zero32).toArray 5)) (heap_alloc_new w _) (by rw [hlv]; simp [bytesC, zero32]; omega) (by
    intro v hv
    obtain ⟨x, _, rfl⟩ := List.mem_map.1 hv
    rfl)
  rw [World.setRow_alloc_new] at hst
  have hfin : (List.take (0 + 0) (bytesC zero32).toArray.toList ++ bytesC (s.take 32) ++ List.drop (0 + 0 + (bytesC (s.take 32)).length) (bytesC zero32).toArray.toList).toArray = (bytesC (pad32 s)).toArray := by
    rw [hlv]
    simp only [bytesC, zero32, List.map_replicate, Nat.zero_add, List.take_zero, List.nil_append, List.drop_replicate, pad32, List.map_append]
    rw [show 32 - m = 32 - s.length by omega]
  rw [hfin] at hst
  simp [Builtin.copy_, run_underlying Tryd.underlying31, Builtin.lenOf, Builtin.firstCells, sizeOf, typeInfo, hi, hmin, hsz]
  rw [hvs, hst]
  simp [Result.andThen, hm]
  rfl
theorem conv_pad (P : (List UInt8)) (hP : P.length = 32) (w : World) : (convert 31 9 (.slice (some ⟨w.heap.size, 0, none⟩) 32 32)).run Tryd.prog (w.alloc (.cells (bytesC P).toArray 5)) = .ok (.string ⟨P.toArray⟩) (w.alloc (.cells (bytesC P).toArray 5)) := by
  have := conv_bytes P w.heap.size 32 (w.alloc (.cells (bytesC P).toArray 5)) (fun j hj => bytes_cell (heap_alloc_new w _) j hj)
  rwa [hP] at this
theorem bytes_set (Q : (List UInt8)) (j : Nat) (v : UInt8) : (bytesC Q).toArray.setIfInBounds j (.int .u8 (v.toNat : Int)) = (bytesC (Q.set j v)).toArray := by
  simp [bytesC, List.map_set]
end Go.Proofs.YtdobmhbfadijoaaDoor
