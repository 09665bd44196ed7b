/- Bytes in a block, made and laid as a text. -/
import Derived.Test.YtpbbpkflljcklaaDoorJ6
namespace Go.Proofs.YtpbbpkflljcklaaDoor
open Go.RowKit

def zero32 : (List UInt8) := List.replicate 32 0
theorem zero32_dig : (digC zero32)[0]? = some 0 ∧ (digC zero32)[64]? = some 3 ∧ (digC zero32)[65]? = some 12 ∧ (digC zero32)[66]? = some 0 ∧ (digC zero32).length = 67 := by decide
def bytesC (L : (List UInt8)) : List Value := L.map fun b : UInt8 => Value.int .u8 (b.toNat : Int)
theorem info_byte : (Tryd.prog.info? 5).map (fun i => (i.zero, i.size, i.bytes)) = some (some (.int .u8 0), 1, 1) := by kernel_rfl
theorem made_bytes (n : Nat) : madeCells (Value.int .u8 0).cells n = (bytesC (List.replicate n 0)).toArray := by
  refine Array.ext (by simp [madeCells, bytesC, Value.cells]) ?_
  intro i h1 h2
  simp [madeCells, bytesC, Value.cells, Nat.mod_one]
theorem make_bytes (n : Nat) (hn : n ≤ 100000) (w : World) : (Instr.makeSlice 33 (.int .i64 (n : Int)) (.int .i64 (n : Int))).run Tryd.prog w = .ok (.slice (some ⟨w.heap.size, 0, none⟩) n n) (w.alloc (.cells (bytesC (List.replicate n 0)).toArray 5)) := by
  obtain ⟨i0, hi, hz0, hz1, hz2⟩ := info_parts info_byte
  have h := run_make (P := Tryd.prog) w 33 5 i0 (.int .u8 0) Tryd.underlying33 hi hz0 .i64 .i64 (n : Int) (n : Int) (by omega) (by omega) (by rw [hz2]; omega) (by omega)
  rw [h, hz1, Int.toNat_natCast, Nat.mul_one, made_bytes]
/-- what is in a block of bytes, as a text -/
theorem conv_bytes (L : (List UInt8)) (b cap : Nat) (w : World) (h : ∀ j (hj : j < L.length), w.cell? ⟨b, j, none⟩ = some (.int .u8 (L[j].toNat : Int))) : (convert 33 9 (.slice (some ⟨b, 0, none⟩) L.length cap)).run Tryd.prog w = .ok (.string ⟨L.toArray⟩) w :=
  run_convert_bytes_back (P := Tryd.prog) w 33 9 5 ⟨b, 0, none⟩ cap L Tryd.underlying33 Tryd.underlying5 Tryd.underlying9 (fun j hj => by rw [Addr.add_mid, Nat.zero_add]; exact h j hj)
theorem bytes_cell {L : (List UInt8)} {b : Nat} {t : TypeId} {w : World} (h : w.heap[b]? = some (.cells (bytesC L).toArray t (0, 0))) (j : Nat) (hj : j < L.length) : w.cell? ⟨b, j, none⟩ = some (.int .u8 (L[j].toNat : Int)) := by
  rw [lit_cell h]
  simp [bytesC, hj]
end Go.Proofs.YtpbbpkflljcklaaDoor
