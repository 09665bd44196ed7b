/- What every stage's texts share: a block whose cells are written out; a world behind draws; texts. -/
import Derived.Test.YtdobmhbfadijoaaDoorProg
import Derived.WalkKit
import Derived.Laws.IdiomStrings
import Derived.Lib.Hide
import Derived.IntWalk
import Derived.Deep.MidRow
import Derived.Laws.Rows
import Derived.BigQuiet
namespace Go.Proofs.YtdobmhbfadijoaaDoor
open Go.RowKit

theorem lit_cell {w : World} {b : Nat} {cs : Array Value} {t : TypeId} (h : w.heap[b]? = some (.cells cs t (0, 0))) (i : Nat) : w.cell? ⟨b, i, none⟩ = cs[i]? := by
  simp [World.cell?, h]
theorem lit_free {w : World} {b : Nat} {cs : Array Value} {t : TypeId} (h : w.heap[b]? = some (.cells cs t (0, 0))) (i : Nat) : w.frozen? ⟨b, i, none⟩ = false := by
  simp [World.frozen?, h]
theorem lit_lt {w : World} {b : Nat} {o : Obj} (h : w.heap[b]? = some o) : b < w.heap.size := (Array.getElem?_eq_some_iff.1 h).1
theorem lit_set {w : World} {b k : Nat} {cs : Array Value} {t : TypeId} (v : Value) (h : w.heap[b]? = some (.cells cs t (0, 0))) : (w.setCell ⟨b, k, none⟩ v).heap[b]? = some (.cells (cs.setIfInBounds k v) t (0, 0)) := by
  show (w.heap.modify b _)[b]? = _
  rw [Array.getElem?_modify, if_pos rfl, h]
  rfl
theorem lit_far {w : World} {b k : Nat} {c : Nat} (v : Value) (h : c ≠ b) : (w.setCell ⟨b, k, none⟩ v).heap[c]? = w.heap[c]? := by
  show (w.heap.modify b _)[c]? = _
  rw [Array.getElem?_modify, if_neg (by omega)]
theorem lit_old {w : World} (o : Obj) {b : Nat} {x : Obj} (h : w.heap[b]? = some x) : (w.alloc o).heap[b]? = some x := (heap_alloc_old w o (lit_lt h)).trans h
theorem by0 (w : World) (o : Obj) : Below w.heap.size w (w.alloc o) := (Below.refl _ _).alloc (Nat.le_refl _) _
theorem by0q (w : World) : ∀ n, Below w.heap.size w (w.drewN n)
  | 0 => Below.refl _ _
  | n + 1 => (by0q w n).drew
theorem Below_drewN' {B : Nat} {a w : World} (h : Below B a w) (n : Nat) : Below B a (w.drewN n) := ⟨h.os, h.tape, h.output, h.size, h.block⟩
theorem byte_mod (q : Nat) : (q : Int) % (256 : Int) = ((UInt8.ofNat q).toNat : Int) := by rw [UInt8.toNat_ofNat']; omega
theorem str_eta (s : ByteArray) : (⟨s.data.toList.toArray⟩ : ByteArray) = s := by
  cases s; simp

theorem strAdd (A B : List UInt8) : (⟨A.toArray⟩ : ByteArray) ++ ⟨B.toArray⟩ = ⟨(A ++ B).toArray⟩ := by
  apply ByteArray.ext
  simp
theorem oneByte (w : World) (y : Int) (x : UInt8) (hy : y = (x.toNat : Int)) : ∀ j (hj : j < [x].length), (w.alloc (.cells #[.int .u8 y] 5)).cell? ((⟨w.heap.size, 0, none⟩ : Addr).add j) = some (.int .u8 ([x][j].toNat : Int)) := by
  intro j hj
  obtain rfl : j = 0 := by simpa using hj
  rw [Addr.add_mid, World.cell?_alloc_at (hn := rfl), hy]
  rfl
theorem run_cat (A B : List UInt8) (h : A.length + B.length < 4611686018427387904) (w : World) : (Op.stringOp .add ⟨A.toArray⟩ ⟨B.toArray⟩).run Tryd.prog w = .ok (.string ⟨(A ++ B).toArray⟩) w := by
  have hs : ((((⟨A.toArray⟩ : ByteArray).size + (⟨B.toArray⟩ : ByteArray).size : Nat) : Int) > IntKind.i64.max) = False := by
    have e : IntKind.i64.max = 9223372036854775807 := by decide
    have e1 : (⟨A.toArray⟩ : ByteArray).size = A.length := rfl
    have e2 : (⟨B.toArray⟩ : ByteArray).size = B.length := rfl
    rw [e, e1, e2]
    simp only [gt_iff_lt, eq_iff_iff, iff_false]
    omega
  simp only [Op.stringOp, hs, if_false, strAdd]
  rfl
theorem extract_list (Y : List UInt8) (i j : Nat) : (⟨Y.toArray⟩ : ByteArray).extract i j = ⟨((Y.take j).drop i).toArray⟩ := by
  apply ByteArray.ext
  rw [ByteArray.data_extract]
  simp [List.drop_take]

/-- a number in k bytes, the highest first -/
def be (n : Nat) : Nat → List UInt8
  | 0 => []
  | k + 1 => UInt8.ofNat (n / 256 ^ k) :: be n k
theorem be_length (n : Nat) : ∀ k, (be n k).length = k
  | 0 => rfl
  | k + 1 => by rw [be, List.length_cons, be_length n k]
end Go.Proofs.YtdobmhbfadijoaaDoor
