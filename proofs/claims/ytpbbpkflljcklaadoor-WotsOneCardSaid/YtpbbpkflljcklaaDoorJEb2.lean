/- One byte in a block, laid as a text in whatever world; three texts. -/
import Derived.Test.YtpbbpkflljcklaaDoorJEb1
namespace Go.Proofs.YtpbbpkflljcklaaDoor
open Go.RowKit

theorem conv_at (v n : Nat) (w : World) (h : w.cell? ⟨n, 0, none⟩ = some (.int .u8 (v : Int))) (hv : v < 256) : (convert 33 9 (.slice (some ⟨n, 0, none⟩) 1 1)).run Tryd.prog w = .ok (.string ⟨#[UInt8.ofNat v]⟩) w := by
  have := conv_bytes [UInt8.ofNat v] n 1 w (fun j hj => by
    have e : j = 0 := by simpa using hj
    subst e
    rw [h]
    have h1 := byte_mod v
    simp only [List.getElem_cons_zero]
    congr 2
    omega)
  simpa using this
theorem conv_two (v : Nat) (hv : v < 256) (o : Obj) (wz : World) : (convert 33 9 (.slice (some ⟨wz.heap.size + 1, 0, none⟩) 1 1)).run Tryd.prog ((wz.alloc o).alloc (.cells #[.int .u8 (v : Int)] 5)) = .ok (.string ⟨#[UInt8.ofNat v]⟩) ((wz.alloc o).alloc (.cells #[.int .u8 (v : Int)] 5)) := by
  have := conv_one v hv (wz.alloc o)
  rwa [World.size_alloc] at this
theorem conv_old (v : Nat) (hv : v < 256) (o : Obj) (wz : World) : (convert 33 9 (.slice (some ⟨wz.heap.size, 0, none⟩) 1 1)).run Tryd.prog ((wz.alloc (.cells #[.int .u8 (v : Int)] 5)).alloc o) = .ok (.string ⟨#[UInt8.ofNat v]⟩) ((wz.alloc (.cells #[.int .u8 (v : Int)] 5)).alloc o) :=
  conv_at v _ _ ((lit_cell (lit_old o (heap_alloc_new wz _)) 0).trans rfl) hv
theorem cell_new1 (wz : World) (v : Value) (t : TypeId) : (wz.alloc (.cells #[v] t)).cell? ⟨wz.heap.size, 0, none⟩ = some v := (lit_cell (heap_alloc_new wz _) 0).trans rfl
theorem cell_new2 (wz : World) (o : Obj) (v : Value) (t : TypeId) : ((wz.alloc o).alloc (.cells #[v] t)).cell? ⟨wz.heap.size + 1, 0, none⟩ = some v := by
  have := cell_new1 (wz.alloc o) v t
  rwa [World.size_alloc] at this
theorem cell_old1 (wz : World) (o : Obj) (v : Value) (t : TypeId) : ((wz.alloc (.cells #[v] t)).alloc o).cell? ⟨wz.heap.size, 0, none⟩ = some v := (lit_cell (lit_old o (heap_alloc_new wz _)) 0).trans rfl
theorem cell_drew1 (wz : World) (a : Addr) : wz.drew.cell? a = wz.cell? a := rfl
theorem keep_cells {W w8 : World} (hb : Below W.heap.size W w8) (n : Nat) (h : n < W.heap.size) : w8.cell? ⟨n, 0, none⟩ = W.cell? ⟨n, 0, none⟩ := World.cell?_of_block (hb.block _ h)
theorem keep_cells2 {W w8 : World} (hb : Below W.heap.size W w8) (n : Nat) (h : n < W.heap.size) (o : Obj) : (w8.alloc o).cell? ⟨n, 0, none⟩ = W.cell? ⟨n, 0, none⟩ := (World.cell?_of_block (heap_alloc_old w8 o (Nat.lt_of_lt_of_le h hb.size))).trans (keep_cells hb n h)
theorem strs3_at (x y z : (List UInt8)) (wz : World) (sz : Nat) (h : sz = wz.heap.size) : Strs (some ⟨sz, 0, none⟩) [x, y, z] (wz.alloc (.cells #[.string ⟨x.toArray⟩, .string ⟨y.toArray⟩, .string ⟨z.toArray⟩] 9)) := by
  subst h
  exact strs_new wz [x, y, z] _ rfl
theorem below_drew {w wz : World} (h : Below w.heap.size w wz) : Below w.heap.size w wz.drew := below_next h (Below.refl _ _).drew
end Go.Proofs.YtpbbpkflljcklaaDoor
