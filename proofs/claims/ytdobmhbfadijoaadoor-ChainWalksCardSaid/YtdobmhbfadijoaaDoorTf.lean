/- The text model of the sum, and what a hasher holds of the text that it has read. -/
import Derived.Test.YtdobmhbfadijoaaDoorTe
import Derived.StillTailTactics
import Derived.Laws.CopyOwn
import Derived.Lib.LazyBuf
namespace Go.Proofs.YtdobmhbfadijoaaDoor
open Go.RowKit

/-- all but block b is as it was -/
structure But (b : Nat) (w w' : World) : Prop where
  os : w'.os = w.os
  tape : w'.tape = w.tape
  output : w'.output = w.output
  size : w.heap.size ≤ w'.heap.size
  block : ∀ k, k < w.heap.size → k ≠ b → w'.heap[k]? = w.heap[k]?

theorem But.refl (b : Nat) (w : World) : But b w w := ⟨rfl, rfl, rfl, Nat.le_refl _, fun _ _ _ => rfl⟩
theorem But.trans {b : Nat} {w w1 w2 : World} (h : But b w w1) (k : But b w1 w2) : But b w w2 :=
  ⟨k.os.trans h.os, k.tape.trans h.tape, k.output.trans h.output, Nat.le_trans h.size k.size, fun i hi hne => (k.block i (Nat.lt_of_lt_of_le hi h.size) hne).trans (h.block i hi hne)⟩
theorem But.drew {b : Nat} {a w : World} (h : But b a w) : But b a w.drew := ⟨h.os, h.tape, h.output, h.size, h.block⟩
theorem But.of_below {b : Nat} {w w' : World} (h : Below w.heap.size w w') : But b w w' := ⟨h.os, h.tape, h.output, h.size, fun k hk _ => h.block k hk⟩
theorem But.setCells {b : Nat} {a w : World} (h : But b a w) (o : Nat) (vs : List Value) : But b a (w.setCells b o vs) :=
  have q := rest_setCells b vs o w
  h.trans ⟨q.1, q.2.1, q.2.2, Nat.le_of_eq (size_setCells b vs o w).symm, fun k _ hne => heap_setCells_ne b k hne vs o w⟩
theorem But.setCell {b : Nat} {a w : World} (h : But b a w) (o : Nat) (v : Value) : But b a (w.setCell ⟨b, o, none⟩ v) := h.setCells o [v]
theorem But.below {b B : Nat} {w w' : World} (h : But b w w') (hB : B ≤ w.heap.size) (hb : B ≤ b) : Below B w w' := ⟨h.os, h.tape, h.output, h.size, fun k hk => h.block k (by omega) (by omega)⟩

theorem splice_nil {α : Type} (L : List α) (o : Nat) : splice L o [] = L := by simp [splice]
theorem splice_cons {α : Type} (L : List α) (o : Nat) (v : α) (r : List α) (h : o < L.length) : splice (L.set o v) (o + 1) r = splice L o (v :: r) := by
  have h1 : (L.set o v).take (o + 1) = L.take o ++ [v] := by
    rw [List.take_succ_eq_append_getElem (by simpa using h), List.take_set_of_le (Nat.le_refl _)]
    simp
  have h2 : (L.set o v).drop (o + 1 + r.length) = L.drop (o + (v :: r).length) := by
    rw [List.drop_set_of_lt (by omega), List.length_cons]
    congr 1
    omega
  unfold splice
  rw [h1, h2]
  simp

theorem heap_setCells_row {b : Nat} {t : TypeId} : ∀ (vs : List Value) (o : Nat) (L : List Value) (w : World), w.heap[b]? = some (.cells L.toArray t (0, 0)) → o + vs.length ≤ L.length →
    (w.setCells b o vs).heap[b]? = some (.cells (splice L o vs).toArray t (0, 0))
  | [], o, L, w, h, _ => by rw [splice_nil]; exact h
  | v :: r, o, L, w, h, hl => by
    have h1 : (w.setCell ⟨b, o, none⟩ v).heap[b]? = some (.cells (L.set o v).toArray t (0, 0)) := by
      rw [heap_setCell_same w b o _ t v h]; simp
    rw [World.setCells, heap_setCells_row r (o + 1) (L.set o v) _ h1 (by simp at hl ⊢; omega), splice_cons L o v r (by simp at hl; omega)]

/-- the program's constants -/
def KL : List Nat := [0x428a2f98, 0x71374491, 0xb5c0fbcf, 0xe9b5dba5, 0x3956c25b, 0x59f111f1, 0x923f82a4, 0xab1c5ed5, 0xd807aa98, 0x12835b01, 0x243185be, 0x550c7dc3, 0x72be5d74, 0x80deb1fe, 0x9bdc06a7, 0xc19bf174, 0xe49b69c1, 0xefbe4786, 0x0fc19dc6, 0x240ca1cc, 0x2de92c6f, 0x4a7484aa, 0x5cb0a9dc, 0x76f988da, 0x983e5152, 0xa831c66d, 0xb00327c8, 0xbf597fc7, 0xc6e00bf3, 0xd5a79147, 0x06ca6351, 0x14292967, 0x27b70a85, 0x2e1b2138, 0x4d2c6dfc, 0x53380d13, 0x650a7354, 0x766a0abb, 0x81c2c92e, 0x92722c85, 0xa2bfe8a1, 0xa81a664b, 0xc24b8b70, 0xc76c51a3, 0xd192e819, 0xd6990624, 0xf40e3585, 0x106aa070, 0x19a4c116, 0x1e376c08, 0x2748774c, 0x34b0bcb5, 0x391c0cb3, 0x4ed8aa4a, 0x5b9cca4f, 0x682e6ff3, 0x748f82ee, 0x78a5636f, 0x84c87814, 0x8cc70208, 0x90befffa, 0xa4506ceb, 0xbef9a3f7, 0xc67178f2]
def KF (i : Nat) : BitVec 32 := BitVec.ofNat 32 (KL.getD i 0)
def IV : St := ⟨0x6a09e667, 0xbb67ae85, 0x3c6ef372, 0xa54ff53a, 0x510e527f, 0x9b05688c, 0x1f83d9ab, 0x5be0cd19⟩
def St.at (s : St) : Nat → BitVec 32
  | 0 => s.a | 1 => s.b | 2 => s.c | 3 => s.d | 4 => s.e | 5 => s.f | 6 => s.g | _ => s.h
/-- a block's bytes, as the rounds take them -/
def cOf (l : List UInt8) (i : Nat) : BitVec 32 := BitVec.ofNat 32 (l.getD i 0).toNat
def plus (s r : St) : St := ⟨s.a + r.a, s.b + r.b, s.c + r.c, s.d + r.d, s.e + r.e, s.f + r.f, s.g + r.g, s.h + r.h⟩
/-- the words behind a block -/
def comp (s : St) (l : List UInt8) : St := plus s (rounds KF (sched (cOf l)) s 64)
/-- the words behind the first n blocks of a text -/
def hw (T : List UInt8) : Nat → St
  | 0 => IV
  | n + 1 => comp (hw T n) ((T.drop (64 * n)).take 64)
def w8 (s : St) : List Value := [.int .u32 (tn s.a), .int .u32 (tn s.b), .int .u32 (tn s.c), .int .u32 (tn s.d), .int .u32 (tn s.e), .int .u32 (tn s.f), .int .u32 (tn s.g), .int .u32 (tn s.h)]

theorem hw_append (T X : List UInt8) : ∀ n, 64 * n ≤ T.length → hw (T ++ X) n = hw T n
  | 0, _ => rfl
  | n + 1, h => by
    rw [hw, hw, hw_append T X n (by omega), List.drop_append_of_le_length (by omega), List.take_append_of_le_length (by rw [List.length_drop]; omega)]

theorem w8_length (s : St) : (w8 s).length = 8 := rfl
theorem w8_at (s : St) : ∀ i < 8, (w8 s).toArray[i]? = some (.int .u32 (tn (s.at i))) := by
  intro i hi
  match i, hi with
  | 0, _ => rfl
  | 1, _ => rfl
  | 2, _ => rfl
  | 3, _ => rfl
  | 4, _ => rfl
  | 5, _ => rfl
  | 6, _ => rfl
  | 7, _ => rfl
theorem tn_byte (x : UInt8) : tn (BitVec.ofNat 32 x.toNat) = (x.toNat : Int) := by
  have := x.toNat_lt
  rw [tn, BitVec.toNat_ofNat]
  omega
theorem cells_at (O : List UInt8) (hO : O.length = 64) : ∀ i < 64, (cellsOf O).toArray[i]? = some (.int .u8 (tn (cOf O i))) := by
  intro i hi
  rw [cOf, tn_byte, List.getElem?_toArray, cellsOf_get O i (by omega), List.getD_eq_getElem?_getD, List.getElem?_eq_getElem (by omega)]
  rfl

/-- a hasher's cells -/
def hcells (s : St) (O : List UInt8) (n : Nat) : List Value := w8 s ++ (cellsOf O ++ [Value.int .u64 (n : Int)])
/-- the hasher in block b has read T: its cells are its words, its open bytes (those that count are T's last ones), and its size -/
def Has (b : Nat) (T : List UInt8) (w : World) : Prop :=
  ∃ O : List UInt8, O.length = 64 ∧ O.take (T.length % 64) = T.drop (64 * (T.length / 64)) ∧
    w.heap[b]? = some (.cells (hcells (hw T (T.length / 64)) O T.length).toArray 73 (0, 0))

theorem hcells_length (s : St) (O : List UInt8) (n : Nat) (hO : O.length = 64) : (hcells s O n).length = 73 := by simp [hcells, w8_length, cellsOf_length, hO]
theorem hcells_open (s : St) (O : List UInt8) (n r : Nat) (X : List UInt8) (hO : O.length = 64) (hr : r + X.length ≤ 64) :
    splice (hcells s O n) (8 + r) (cellsOf X) = hcells s (splice O r X) n := by
  have hl := cellsOf_length O
  have hx := cellsOf_length X
  unfold splice hcells
  rw [List.take_append, List.drop_append, w8_length, List.take_of_length_le (by rw [w8_length]; omega), List.drop_of_length_le (by rw [w8_length]; omega)]
  rw [show 8 + r - 8 = r by omega, show 8 + r + (cellsOf X).length - 8 = r + X.length by omega, List.take_append_of_le_length (by omega), List.drop_append_of_le_length (by omega)]
  simp [cellsOf]
theorem hcells_size (s : St) (O : List UInt8) (n m : Nat) (hO : O.length = 64) : (hcells s O n).set 72 (.int .u64 (m : Int)) = hcells s O m := by
  have hl := cellsOf_length O
  unfold hcells
  rw [List.set_append_right _ _ (by rw [w8_length]; omega), List.set_append_right _ _ (by rw [w8_length]; omega), w8_length, hl, hO]
  rfl
theorem hcells_words (s s' : St) (O : List UInt8) (n : Nat) : splice (hcells s O n) 0 (w8 s') = hcells s' O n := by
  unfold splice hcells
  rw [List.take_zero, List.nil_append, w8_length, List.drop_append_of_le_length (by rw [w8_length]; omega), List.drop_of_length_le (by rw [w8_length]; omega), List.nil_append]
theorem hcells_at72 (s : St) (O : List UInt8) (n : Nat) (hO : O.length = 64) : (hcells s O n)[72]? = some (.int .u64 (n : Int)) := by
  have hl := cellsOf_length O
  unfold hcells
  rw [List.getElem?_append_right (by rw [w8_length]; omega), List.getElem?_append_right (by rw [w8_length]; omega), w8_length, hl, hO]
  rfl

theorem take_splice (O X : List UInt8) (r : Nat) (hr : r ≤ O.length) : (splice O r X).take (r + X.length) = O.take r ++ X := by
  unfold splice
  rw [List.take_append, List.take_append, List.length_take, Nat.min_eq_left hr, show r + X.length - r = X.length by omega, List.take_of_length_le (by rw [List.length_take]; omega), List.take_of_length_le (Nat.le_refl _)]
  simp

/-- a part of a text is taken in, and the block is not yet full -/
theorem take_in (T O X : List UInt8) (hO : O.length = 64) (hT : O.take (T.length % 64) = T.drop (64 * (T.length / 64))) (hx : T.length % 64 + X.length < 64) :
    (splice O (T.length % 64) X).take ((T ++ X).length % 64) = (T ++ X).drop (64 * ((T ++ X).length / 64)) ∧ hw (T ++ X) ((T ++ X).length / 64) = hw T (T.length / 64) ∧ (T ++ X).length % 64 = T.length % 64 + X.length := by
  have e1 : (T ++ X).length = T.length + X.length := List.length_append
  have e2 : (T ++ X).length % 64 = T.length % 64 + X.length := by rw [e1]; omega
  have e3 : (T ++ X).length / 64 = T.length / 64 := by rw [e1]; omega
  refine ⟨?_, ?_, e2⟩
  · rw [e2, e3, take_splice O X _ (by omega), hT, List.drop_append_of_le_length (by omega)]
  · rw [e3, hw_append T X _ (by omega)]
/-- .. and the block is full -/
theorem take_full (T O X : List UInt8) (hO : O.length = 64) (hT : O.take (T.length % 64) = T.drop (64 * (T.length / 64))) (hx : T.length % 64 + X.length = 64) :
    (T ++ X).length % 64 = 0 ∧ (T ++ X).drop (64 * ((T ++ X).length / 64)) = [] ∧ hw (T ++ X) ((T ++ X).length / 64) = comp (hw T (T.length / 64)) (splice O (T.length % 64) X) := by
  have e1 : (T ++ X).length = T.length + X.length := List.length_append
  have e3 : (T ++ X).length / 64 = T.length / 64 + 1 := by rw [e1]; omega
  have hs : splice O (T.length % 64) X = T.drop (64 * (T.length / 64)) ++ X := by
    have h := take_splice O X (T.length % 64) (by omega)
    rw [hT, hx] at h
    rw [← h, List.take_of_length_le]
    rw [length_splice O _ X (by omega)]
    omega
  refine ⟨by rw [e1]; omega, ?_, ?_⟩
  · rw [List.drop_eq_nil_iff, e3, e1]; omega
  · rw [e3, hw, hw_append T X _ (by omega), hs, List.drop_append_of_le_length (by omega), List.take_of_length_le]
    rw [List.length_append, List.length_drop]
    omega

end Go.Proofs.YtdobmhbfadijoaaDoor
