/- The text model of the sum, and what a hasher holds of the text that it has read. -/
import Derived.Test.YtpbbpkflljcklaaDoorJ2
import Derived.StillTailTactics
import Derived.Laws.CopyOwn
import Derived.Lib.LazyBuf
import Derived.Test.YtpbbpkflljcklaaDoorJ3
import Derived.Test.YtpbbpkflljcklaaDoorJ1
import Derived.Deep.RegionLaw
namespace Go.Proofs.YtpbbpkflljcklaaDoor
open Go.RowKit

/-- all but block b is as it was -/
structure But (b : Nat) (w w' : World) : Prop where
  os : w'.os = w.os
  tape : w'.tape = w.tape
  output : w'.output = w.output
  size : w.heap.size ≤ w'.heap.size
  block : ∀ k, k < w.heap.size → k ≠ b → w'.heap[k]? = w.heap[k]?

theorem But.refl (b : Nat) (w : World) : But b w w := ⟨rfl, rfl, rfl, Nat.le_refl _, fun _ _ _ => rfl⟩
theorem But.trans {b : Nat} {w w1 w2 : World} (h : But b w w1) (k : But b w1 w2) : But b w w2 :=
  ⟨k.os.trans h.os, k.tape.trans h.tape, k.output.trans h.output, Nat.le_trans h.size k.size, fun i hi hne => (k.block i (Nat.lt_of_lt_of_le hi h.size) hne).trans (h.block i hi hne)⟩
theorem But.drew {b : Nat} {a w : World} (h : But b a w) : But b a w.drew := ⟨h.os, h.tape, h.output, h.size, h.block⟩
theorem But.of_below {b : Nat} {w w' : World} (h : Below w.heap.size w w') : But b w w' := ⟨h.os, h.tape, h.output, h.size, fun k hk _ => h.block k hk⟩
theorem But.setCells {b : Nat} {a w : World} (h : But b a w) (o : Nat) (vs : List Value) : But b a (w.setCells b o vs) :=
  have q := rest_setCells b vs o w
  h.trans ⟨q.1, q.2.1, q.2.2, Nat.le_of_eq (size_setCells b vs o w).symm, fun k _ hne => heap_setCells_ne b k hne vs o w⟩
theorem But.setCell {b : Nat} {a w : World} (h : But b a w) (o : Nat) (v : Value) : But b a (w.setCell ⟨b, o, none⟩ v) := h.setCells o [v]
theorem But.below {b B : Nat} {w w' : World} (h : But b w w') (hB : B ≤ w.heap.size) (hb : B ≤ b) : Below B w w' := ⟨h.os, h.tape, h.output, h.size, fun k hk => h.block k (by omega) (by omega)⟩

theorem splice_nil {α : Type} (L : List α) (o : Nat) : splice L o [] = L := by simp [splice]
theorem splice_cons {α : Type} (L : List α) (o : Nat) (v : α) (r : List α) (h : o < L.length) : splice (L.set o v) (o + 1) r = splice L o (v :: r) := by
  have h1 : (L.set o v).take (o + 1) = L.take o ++ [v] := by
    rw [List.take_succ_eq_append_getElem (by simpa using h), List.take_set_of_le (Nat.le_refl _)]
    simp
  have h2 : (L.set o v).drop (o + 1 + r.length) = L.drop (o + (v :: r).length) := by
    rw [List.drop_set_of_lt (by omega), List.length_cons]
    congr 1
    omega
  unfold splice
  rw [h1, h2]
  simp

theorem heap_setCells_row {b : Nat} {t : TypeId} : ∀ (vs : List Value) (o : Nat) (L : List Value) (w : World), w.heap[b]? = some (.cells L.toArray t (0, 0)) → o + vs.length ≤ L.length →
    (w.setCells b o vs).heap[b]? = some (.cells (splice L o vs).toArray t (0, 0))
  | [], o, L, w, h, _ => by rw [splice_nil]; exact h
  | v :: r, o, L, w, h, hl => by
    have h1 : (w.setCell ⟨b, o, none⟩ v).heap[b]? = some (.cells (L.set o v).toArray t (0, 0)) := by
      rw [heap_setCell_same w b o _ t v h]; simp
    rw [World.setCells, heap_setCells_row r (o + 1) (L.set o v) _ h1 (by simp at hl ⊢; omega), splice_cons L o v r (by simp at hl; omega)]

/-- the program's constants -/
def KL : List Nat := [0x428a2f98, 0x71374491, 0xb5c0fbcf, 0xe9b5dba5, 0x3956c25b, 0x59f111f1, 0x923f82a4, 0xab1c5ed5, 0xd807aa98, 0x12835b01, 0x243185be, 0x550c7dc3, 0x72be5d74, 0x80deb1fe, 0x9bdc06a7, 0xc19bf174, 0xe49b69c1, 0xefbe4786, 0x0fc19dc6, 0x240ca1cc, 0x2de92c6f, 0x4a7484aa, 0x5cb0a9dc, 0x76f988da, 0x983e5152, 0xa831c66d, 0xb00327c8, 0xbf597fc7, 0xc6e00bf3, 0xd5a79147, 0x06ca6351, 0x14292967, 0x27b70a85, 0x2e1b2138, 0x4d2c6dfc, 0x53380d13, 0x650a7354, 0x766a0abb, 0x81c2c92e, 0x92722c85, 0xa2bfe8a1, 0xa81a664b, 0xc24b8b70, 0xc76c51a3, 0xd192e819, 0xd6990624, 0xf40e3585, 0x106aa070, 0x19a4c116, 0x1e376c08, 0x2748774c, 0x34b0bcb5, 0x391c0cb3, 0x4ed8aa4a, 0x5b9cca4f, 0x682e6ff3, 0x748f82ee, 0x78a5636f, 0x84c87814, 0x8cc70208, 0x90befffa, 0xa4506ceb, 0xbef9a3f7, 0xc67178f2]
def KF (i : Nat) : BitVec 32 := BitVec.ofNat 32 (KL.getD i 0)
def IV : St := ⟨0x6a09e667, 0xbb67ae85, 0x3c6ef372, 0xa54ff53a, 0x510e527f, 0x9b05688c, 0x1f83d9ab, 0x5be0cd19⟩
def St.at (s : St) : Nat → BitVec 32
  | 0 => s.a | 1 => s.b | 2 => s.c | 3 => s.d | 4 => s.e | 5 => s.f | 6 => s.g | _ => s.h
/-- a block's bytes, as the rounds take them -/
def cOf (l : List UInt8) (i : Nat) : BitVec 32 := BitVec.ofNat 32 (l.getD i 0).toNat
def plus (s r : St) : St := ⟨s.a + r.a, s.b + r.b, s.c + r.c, s.d + r.d, s.e + r.e, s.f + r.f, s.g + r.g, s.h + r.h⟩
/-- the words behind a block -/
def comp (s : St) (l : List UInt8) : St := plus s (rounds KF (sched (cOf l)) s 64)
/-- the words behind the first n blocks of a text -/
def hw (T : List UInt8) : Nat → St
  | 0 => IV
  | n + 1 => comp (hw T n) ((T.drop (64 * n)).take 64)
def w8 (s : St) : List Value := [.int .u32 (tn s.a), .int .u32 (tn s.b), .int .u32 (tn s.c), .int .u32 (tn s.d), .int .u32 (tn s.e), .int .u32 (tn s.f), .int .u32 (tn s.g), .int .u32 (tn s.h)]

theorem hw_append (T X : List UInt8) : ∀ n, 64 * n ≤ T.length → hw (T ++ X) n = hw T n
  | 0, _ => rfl
  | n + 1, h => by
    rw [hw, hw, hw_append T X n (by omega), List.drop_append_of_le_length (by omega), List.take_append_of_le_length (by rw [List.length_drop]; omega)]

theorem w8_length (s : St) : (w8 s).length = 8 := rfl
theorem w8_at (s : St) : ∀ i < 8, (w8 s).toArray[i]? = some (.int .u32 (tn (s.at i))) := by
  intro i hi
  match i, hi with
  | 0, _ => rfl
  | 1, _ => rfl
  | 2, _ => rfl
  | 3, _ => rfl
  | 4, _ => rfl
  | 5, _ => rfl
  | 6, _ => rfl
  | 7, _ => rfl
theorem tn_byte (x : UInt8) : tn (BitVec.ofNat 32 x.toNat) = (x.toNat : Int) := by
  have := x.toNat_lt
  rw [tn, BitVec.toNat_ofNat]
  omega
theorem cells_at (O : List UInt8) (hO : O.length = 64) : ∀ i < 64, (cellsOf O).toArray[i]? = some (.int .u8 (tn (cOf O i))) := by
  intro i hi
  rw [cOf, tn_byte, List.getElem?_toArray, cellsOf_get O i (by omega), List.getD_eq_getElem?_getD, List.getElem?_eq_getElem (by omega)]
  rfl

/-- a hasher's cells -/
def hcells (s : St) (O : List UInt8) (n : Nat) : List Value := w8 s ++ (cellsOf O ++ [Value.int .u64 (n : Int)])
/-- the hasher in block b has read T: its cells are its words, its open bytes (those that count are T's last ones), and its size -/
def Has (b : Nat) (T : List UInt8) (w : World) : Prop :=
  ∃ O : List UInt8, O.length = 64 ∧ O.take (T.length % 64) = T.drop (64 * (T.length / 64)) ∧
    w.heap[b]? = some (.cells (hcells (hw T (T.length / 64)) O T.length).toArray 97 (0, 0))

theorem hcells_length (s : St) (O : List UInt8) (n : Nat) (hO : O.length = 64) : (hcells s O n).length = 73 := by simp [hcells, w8_length, cellsOf_length, hO]
theorem hcells_open (s : St) (O : List UInt8) (n r : Nat) (X : List UInt8) (hO : O.length = 64) (hr : r + X.length ≤ 64) :
    splice (hcells s O n) (8 + r) (cellsOf X) = hcells s (splice O r X) n := by
  have hl := cellsOf_length O
  have hx := cellsOf_length X
  unfold splice hcells
  rw [List.take_append, List.drop_append, w8_length, List.take_of_length_le (by rw [w8_length]; omega), List.drop_of_length_le (by rw [w8_length]; omega)]
  rw [show 8 + r - 8 = r by omega, show 8 + r + (cellsOf X).length - 8 = r + X.length by omega, List.take_append_of_le_length (by omega), List.drop_append_of_le_length (by omega)]
  simp [cellsOf]
theorem hcells_size (s : St) (O : List UInt8) (n m : Nat) (hO : O.length = 64) : (hcells s O n).set 72 (.int .u64 (m : Int)) = hcells s O m := by
  have hl := cellsOf_length O
  unfold hcells
  rw [List.set_append_right _ _ (by rw [w8_length]; omega), List.set_append_right _ _ (by rw [w8_length]; omega), w8_length, hl, hO]
  rfl
theorem hcells_words (s s' : St) (O : List UInt8) (n : Nat) : splice (hcells s O n) 0 (w8 s') = hcells s' O n := by
  unfold splice hcells
  rw [List.take_zero, List.nil_append, w8_length, List.drop_append_of_le_length (by rw [w8_length]; omega), List.drop_of_length_le (by rw [w8_length]; omega), List.nil_append]
theorem hcells_at72 (s : St) (O : List UInt8) (n : Nat) (hO : O.length = 64) : (hcells s O n)[72]? = some (.int .u64 (n : Int)) := by
  have hl := cellsOf_length O
  unfold hcells
  rw [List.getElem?_append_right (by rw [w8_length]; omega), List.getElem?_append_right (by rw [w8_length]; omega), w8_length, hl, hO]
  rfl

theorem take_splice (O X : List UInt8) (r : Nat) (hr : r ≤ O.length) : (splice O r X).take (r + X.length) = O.take r ++ X := by
  unfold splice
  rw [List.take_append, List.take_append, List.length_take, Nat.min_eq_left hr, show r + X.length - r = X.length by omega, List.take_of_length_le (by rw [List.length_take]; omega), List.take_of_length_le (Nat.le_refl _)]
  simp

/-- a part of a text is taken in, and the block is not yet full -/
theorem take_in (T O X : List UInt8) (hO : O.length = 64) (hT : O.take (T.length % 64) = T.drop (64 * (T.length / 64))) (hx : T.length % 64 + X.length < 64) :
    (splice O (T.length % 64) X).take ((T ++ X).length % 64) = (T ++ X).drop (64 * ((T ++ X).length / 64)) ∧ hw (T ++ X) ((T ++ X).length / 64) = hw T (T.length / 64) ∧ (T ++ X).length % 64 = T.length % 64 + X.length := by
  have e1 : (T ++ X).length = T.length + X.length := List.length_append
  have e2 : (T ++ X).length % 64 = T.length % 64 + X.length := by rw [e1]; omega
  have e3 : (T ++ X).length / 64 = T.length / 64 := by rw [e1]; omega
  refine ⟨?_, ?_, e2⟩
  · rw [e2, e3, take_splice O X _ (by omega), hT, List.drop_append_of_le_length (by omega)]
  · rw [e3, hw_append T X _ (by omega)]
/-- .. and the block is full -/
theorem take_full (T O X : List UInt8) (hO : O.length = 64) (hT : O.take (T.length % 64) = T.drop (64 * (T.length / 64))) (hx : T.length % 64 + X.length = 64) :
    (T ++ X).length % 64 = 0 ∧ (T ++ X).drop (64 * ((T ++ X).length / 64)) = [] ∧ hw (T ++ X) ((T ++ X).length / 64) = comp (hw T (T.length / 64)) (splice O (T.length % 64) X) := by
  have e1 : (T ++ X).length = T.length + X.length := List.length_append
  have e3 : (T ++ X).length / 64 = T.length / 64 + 1 := by rw [e1]; omega
  have hs : splice O (T.length % 64) X = T.drop (64 * (T.length / 64)) ++ X := by
    have h := take_splice O X (T.length % 64) (by omega)
    rw [hT, hx] at h
    rw [← h, List.take_of_length_le]
    rw [length_splice O _ X (by omega)]
    omega
  refine ⟨by rw [e1]; omega, ?_, ?_⟩
  · rw [List.drop_eq_nil_iff, e3, e1]; omega
  · rw [e3, hw, hw_append T X _ (by omega), hs, List.drop_append_of_le_length (by omega), List.take_of_length_le]
    rw [List.length_append, List.length_drop]
    omega

end Go.Proofs.YtpbbpkflljcklaaDoor
/- A copy from a string, a load in a region, and the compression by a hasher of its open block. -/
namespace Go.Proofs.YtpbbpkflljcklaaDoor
open Go.RowKit

theorem run_copy_str {P : Program} (w : World) (dT sT ty elem : TypeId) (b o dLen dCap : Nat) (t : ByteArray) (n : Nat)
    (hu : P.underlying dT = some (.slice elem)) (hz : ∀ w, (Go.sizeOf elem).run P w = .ok 1 w) (hn : Nat.min t.size dLen = n)
    (hc : ∀ j, j < n → (w.cell? ⟨b, o + j, none⟩).isSome = true) (hf : ∀ j, j < n → w.frozen? ⟨b, o + j, none⟩ = false) :
    (Builtin.copy_ #[dT, sT] ty #[.slice (some ⟨b, o, none⟩) dLen dCap, .string t]).run P w = .ok (goInt n) (w.setCells b o (cellsOf (t.data.toList.take n))) := by
  have hn2 : n ≤ t.data.toList.length := by rw [← hn]; exact Nat.min_le_left _ _
  have hl : (cellsOf (t.data.toList.take n)).length = n := by rw [cellsOf_length, List.length_take]; omega
  have hst := run_storeCells_cells (P := P) b o (cellsOf (t.data.toList.take n)) 0 w (by rw [hl]; simpa using hc) (by rw [hl]; simpa using hf) (by
    intro v hv
    obtain ⟨x, _, rfl⟩ := List.mem_map.1 hv
    rfl)
  have htk : List.take n (List.map (fun b : UInt8 => Value.int IntKind.u8 (b.toNat : Int)) t.data.toList) = cellsOf (t.data.toList.take n) := by rw [← List.map_take]; rfl
  simp [Builtin.copy_, run_underlying hu, Builtin.lenOf, Builtin.firstCells, hz, hn]
  rw [htk, hst]
  rfl

theorem wpList_copy_str {P : Program} {w : World} {ops : Array Oper} {rest : List Oper} {o : Oper} {a : Act} {Q : Exit → Act → World → Prop} (hgd : o.guard = none) (d x : Operand) (dT sT : TypeId)
    (ho : o.op = .call { callee := .builtin .copy, args := #[d, x], argTypes := #[dT, sT] }) (elem : TypeId) (hu : P.underlying dT = some (.slice elem)) (hz : ∀ w, (Go.sizeOf elem).run P w = .ok 1 w)
    (b off dLen dCap : Nat) (hd : a.eval d = .slice (some ⟨b, off, none⟩) dLen dCap) (t : ByteArray) (hx : a.eval x = .string t) (n : Nat) (hn : Nat.min t.size dLen = n)
    (hc : ∀ j, j < n → (w.cell? ⟨b, off + j, none⟩).isSome = true) (hf : ∀ j, j < n → w.frozen? ⟨b, off + j, none⟩ = false)
    (h : wpList P ops Q rest (a.put o.dst (goInt n)) (w.setCells b off (cellsOf (t.data.toList.take n)))) : wpList P ops Q (o :: rest) a w := by
  refine wpList_plain hgd fun K hK => ?_
  have hrun := run_copy_str (P := P) w dT sT o.type elem b off dLen dCap t n hu hz hn hc hf
  unfold Oper.wp
  simp [execOp, ho, resolve, invoke, builtin, hd, hx, hrun, Result.andThen]
  exact hK _ _ h

theorem wpStill_load_mid {P : Program} {ops : Array Oper} {w : World} {Q : Act → Prop} {a : Act} {op : Oper} {rest : List Oper} (hgd : op.guard = none) (ty : TypeId) (x : Operand) (ho : op.op = .load ty x)
    (b o : Nat) (hx : a.eval x = .pointer (some ⟨b, o, none⟩)) (cs : List Value) (d : TypeDesc) (hc : w.rangeAt b o cs)
    (hu : P.underlying ty = some d) (hd : d.isRow = true) (hi : (P.info? ty).map (·.size) = some cs.length)
    (h : wpStill P ops w Q rest (a.put op.dst (.agg cs.toArray))) : wpStill P ops w Q (op :: rest) a := by
  have hw : Region.wanted op (yielded ops a.tmps) = true := by simp [Region.wanted, hgd]
  unfold wpStill
  rw [if_pos hw]
  unfold Oper.still execOp
  simp only [ho, hx, Instr.loadAt, Instr.sureAddr, Sem.run_bind, Sem.run_pure, Result.andThen_ok, run_loadVar_mid w b o ty cs d hc hu hd hi]
  exact ⟨rfl, h⟩

/-- the package's variables -/
structure Glob (w : World) : Prop where
  size : 1 < w.heap.size
  iv : ∀ i < 8, w.cell? ⟨0, i, none⟩ = some (.int .u32 (tn (IV.at i)))
  k : ∀ i < 64, w.cell? ⟨1, i, none⟩ = some (.int .u32 (tn (KF i)))
theorem Glob.below {B : Nat} {w w' : World} (h : Glob w) (hB : 2 ≤ B) (hb : Below B w w') : Glob w' :=
  ⟨by have := hb.size; have := h.size; omega, fun i hi => (hb.cell (p := ⟨0, i, none⟩) (by show 0 < B; omega)).trans (h.iv i hi), fun i hi => (hb.cell (p := ⟨1, i, none⟩) (by show 1 < B; omega)).trans (h.k i hi)⟩

/-- the compression of a hasher's words, by its open block -/
theorem with_any (s : St) (O : List UInt8) (hO : O.length = 64) (w : World) (hg : Glob w) :
    Calls Tryd.prog 63 #[.agg (w8 s).toArray, .agg (cellsOf O).toArray] w fun e w' => e = .returned (.agg (w8 (comp s O)).toArray) ∧ Below w.heap.size w w' :=
  with_fn (w8 s).toArray (cellsOf O).toArray s.at (cOf O) KF w (cells_at O hO) (w8_at s) hg.k hg.size

end Go.Proofs.YtpbbpkflljcklaaDoor
/- Write takes the text in: behind it the hasher has read the old text and the new one, for lengths below ten to the twelfth. -/
namespace Go.Proofs.YtpbbpkflljcklaaDoor
open Go.RowKit

theorem row_cell {w : World} {b : Nat} {L : List Value} {t : TypeId} (h : w.heap[b]? = some (.cells L.toArray t (0, 0))) (i : Nat) : w.cell? ⟨b, i, none⟩ = L[i]? := by
  rw [cell_of_row w b i _ t _ h, List.getElem?_toArray]
theorem row_free {w : World} {b : Nat} {L : List Value} {t : TypeId} (h : w.heap[b]? = some (.cells L.toArray t (0, 0))) (i : Nat) : w.frozen? ⟨b, i, none⟩ = false := frozen_of_row w b i _ t h

theorem isSome_getElem? (L : List Value) (i : Nat) (h : i < L.length) : (L[i]?).isSome = true := by rw [List.getElem?_eq_getElem h]; rfl
theorem min_of (a b : Nat) : ∃ m, Nat.min a b = m ∧ m ≤ a ∧ m ≤ b ∧ (m = a ∨ m = b) :=
  ⟨_, rfl, Nat.min_le_left a b, Nat.min_le_right a b, (Nat.le_total a b).elim (fun h => .inl (Nat.min_eq_left h)) (fun h => .inr (Nat.min_eq_right h))⟩
theorem extract_end (Y : List UInt8) (m : Nat) : (⟨Y.toArray⟩ : ByteArray).extract m Y.length = ⟨(Y.drop m).toArray⟩ := by
  apply ByteArray.ext
  rw [ByteArray.data_extract]
  simp [List.take_of_length_le]
theorem w8_one (s : St) : (w8 s).toArray.all (·.oneCell') = true := by simp [w8, Value.oneCell']
/-- how many bytes a string has -/
def strLen : Value → Nat | .string s => s.size | _ => 0
theorem szof5 (w : World) : (Go.sizeOf 5).run Tryd.prog w = .ok 1 w := by kernel_rfl

set_option maxRecDepth 100000 in
set_option maxHeartbeats 1000000 in
theorem write_any (b : Nat) (T S : List UInt8) (w : World) (hH : Has b T w) (hg : Glob w) (hb : 2 ≤ b) (hlen : T.length + S.length < 1000000000000) :
    Calls Tryd.prog 55 #[.pointer (some ⟨b, 0, none⟩), .string ⟨S.toArray⟩] w fun e w' => e = .returned (.tuple #[]) ∧ Has b (T ++ S) w' ∧ But b w w' := by
  have HH := Lib.hid hH
  clear hH
  go_enter Tryd.func55, Tryd.ntmps55
  go_wp2
  go_loopw [1, 4] (fun s _ wr => ∃ X Y : List UInt8, Hid (S = X ++ Y) ∧ s = .string ⟨Y.toArray⟩ ∧ Hid (Has b (T ++ X) wr) ∧ But b w wr) (fun s _ _ => strLen s)
  case atStart => exact ⟨[], S, Lib.hid rfl, rfl, by simpa using HH, But.refl _ _⟩
  case round =>
    obtain ⟨X, Y, HS, rfl, HX, hbut⟩ := hrel
    by_cases hy : Y = []
    · subst hy
      have hsx := HS.out
      rw [List.append_nil] at hsx
      go_wp2
      go_end0
      exact ⟨rfl, by rw [hsx]; exact HX.out, hbut⟩
    · have hy0 : 0 < Y.length := List.length_pos_iff.2 hy
      clear hy
      obtain ⟨O, hO, hOt, hrow⟩ := HX.out
      obtain ⟨n, hn⟩ : ∃ n, (T ++ X).length = n := ⟨_, rfl⟩
      obtain ⟨st, hst⟩ : ∃ st, hw (T ++ X) (n / 64) = st := ⟨_, rfl⟩
      obtain ⟨r, hr⟩ : ∃ r, n % 64 = r := ⟨_, rfl⟩
      obtain ⟨m, hm, hm1', hm2', hmx'⟩ := min_of Y.length (64 - r)
      have hm1 := Lib.hid hm1'
      have hm2 := Lib.hid hm2'
      have hmx := Lib.hid hmx'
      clear hm1' hm2' hmx'
      have hr64 : r < 64 := by omega
      have hnm : n + Y.length < 1000000000000 := by have h1 := congrArg List.length HS.out; rw [List.length_append] at hn h1; omega
      rw [hn, hst] at hrow
      rw [hn, hr] at hOt
      have c72 : wr.cell? ⟨b, 72, none⟩ = some (.int .u64 (n : Int)) := by rw [row_cell hrow, hcells_at72 _ _ _ hO]
      have e1 : (n : Int).tmod 64 = (r : Int) := by rw [Int.tmod_eq_emod_of_nonneg (by omega)]; omega
      have e2 : (0 : Int) ≤ (r : Int) := by omega
      have e3 : (r : Int) ≤ 64 := by omega
      have e4 : (r : Int) < 64 := by omega
      have e5 : (r : Nat) ≤ 64 := by omega
      have HO := Lib.hid hO
      have HOt := Lib.hid hOt
      have Hrow := Lib.hid hrow
      have Hn := Lib.hid hn
      have Hst := Lib.hid hst
      have Hr := Lib.hid hr
      have Hm := Lib.hid hm
      clear hO hOt hrow hn hst hr hm
      go_wp2
      go_still_tail 10, (by kernel_rfl)
      change wpList _ _ _ _ _ wr.drew
      have Hmin : Nat.min (⟨Y.toArray⟩ : ByteArray).size (64 - r) = m := Hm.out
      refine wpList_copy_str rfl (.tmp 18) (.tmp 19) 33 9 rfl 5 Tryd.underlying33 szof5 b (8 + r) (64 - r) (64 - r) ?hd ⟨Y.toArray⟩ ?hx m Hmin ?hc ?hf ?hnext
      case hd => simp [Act.eval]; omega
      case hx => rfl
      case hc =>
        intro j hj
        have := hm2.out
        rw [World.cell?_drew, row_cell Hrow.out]
        exact isSome_getElem? _ _ (by rw [hcells_length _ _ _ HO.out]; omega)
      case hf => intro j _; rw [World.frozen?_drew]; exact row_free Hrow.out _
      case hnext =>
        obtain ⟨Z, hZ⟩ : ∃ Z, Y.take m = Z := ⟨_, rfl⟩
        have hZl : Hid (Z.length = m) := Lib.hid (by rw [← hZ, List.length_take]; have := hm1.out; omega)
        have hrow2 : (wr.drew.setCells b (8 + r) (cellsOf Z)).heap[b]? = some (.cells (hcells st (splice O r Z) n).toArray 97 (0, 0)) := by
          rw [← hcells_open st O n r Z HO.out (by have := hZl.out; have := hm2.out; omega)]
          exact heap_setCells_row _ _ _ _ Hrow.out (by rw [hcells_length _ _ _ HO.out, cellsOf_length]; have := hZl.out; have := hm2.out; omega)
        have hbut2 := hbut.drew.setCells (8 + r) (cellsOf Z)
        have eW : wr.drew.setCells b (8 + r) (cellsOf ((⟨Y.toArray⟩ : ByteArray).data.toList.take m)) = wr.drew.setCells b (8 + r) (cellsOf Z) := by rw [← hZ]
        rw [eW]
        clear eW
        generalize wr.drew.setCells b (8 + r) (cellsOf Z) = w2 at *
        have HZ := Lib.hid hZ
        clear hZ c72 e1 hbut Hmin
        have c72 : w2.cell? ⟨b, 72, none⟩ = some (.int .u64 (n : Int)) := by rw [row_cell hrow2, hcells_at72 _ _ _ (by rw [length_splice _ _ _ (by have := hZl.out; have := hm2.out; have := HO.out; omega)]; exact HO.out)]
        have f72 : w2.frozen? ⟨b, 72, none⟩ = false := row_free hrow2 72
        have Hrow2 := Lib.hid hrow2
        clear hrow2
        have hmY : (m : Int) ≤ (Y.length : Int) := by have := hm1.out; omega
        have hmY2 : m ≤ Y.length := hm1.out
        have hm64 : m ≤ 64 := by have := hm2.out; omega
        have eY := Lib.hid (extract_end Y m)
        have eS : Hid (S = (X ++ Z) ++ Y.drop m) := Lib.hid (by rw [HS.out, List.append_assoc, ← HZ.out, List.take_append_drop])
        have eN : Hid ((T ++ (X ++ Z)).length = n + m) := Lib.hid (by rw [← List.append_assoc, List.length_append, Hn.out, hZl.out])
        have hO2 : Hid ((splice O r Z).length = 64) := Lib.hid (by rw [length_splice _ _ _ (by have := hZl.out; have := hm2.out; have := HO.out; omega)]; exact HO.out)
        have Hrow3 : Hid ((w2.setCell ⟨b, 72, none⟩ (.int .u64 ((n : Int) + (m : Int)))).heap[b]? = some (.cells (hcells st (splice O r Z) (n + m)).toArray 97 (0, 0))) := Lib.hid (by
          rw [heap_setCell_same w2 b 72 _ 97 _ Hrow2.out, List.setIfInBounds_toArray, show ((n : Int) + (m : Int)) = ((n + m : Nat) : Int) from rfl, hcells_size _ _ _ _ hO2.out])
        have hbut3 := hbut2.setCell 72 (.int .u64 ((n : Int) + (m : Int)))
        have hm0 : Hid (0 < m) := Lib.hid (by have := hmx.out; omega)
        by_cases hfull : r + m < 64
        · have t1 : ((n : Int) + (m : Int)) % 64 = ((r + m : Nat) : Int) := by have := Hr.out; omega
          have t2 : (((r + m : Nat) : Int) == 0) = false := beq_eq_false_iff_ne.2 (by have := hm0.out; omega)
          have tk := take_in (T ++ X) O Z HO.out (by rw [Hn.out, Hr.out]; exact HOt.out) (by rw [Hn.out, Hr.out, hZl.out]; exact hfull)
          rw [List.append_assoc, eN.out, Hn.out, Hst.out, Hr.out] at tk
          have TK := Lib.hid tk
          clear tk
          go_wp2
          go_roundw
          case rel =>
            exact ⟨X ++ Z, Y.drop m, eS, congrArg Value.string eY.out, Lib.hid ⟨splice O r Z, hO2.out, by rw [eN.out]; exact TK.out.1, by rw [eN.out, TK.out.2.1]; exact Hrow3.out⟩, hbut3⟩
          case measure =>
            show ((⟨Y.toArray⟩ : ByteArray).extract m Y.length).size < Y.length
            rw [eY.out]
            show (Y.drop m).length < Y.length
            rw [List.length_drop]
            have := hm0.out
            omega
        · have t1 : ((n : Int) + (m : Int)) % 64 = 0 := by have := Hr.out; have := hm2.out; omega
          have hfl : r + m = 64 := by have := hm2.out; omega
          have tk := take_full (T ++ X) O Z HO.out (by rw [Hn.out, Hr.out]; exact HOt.out) (by rw [Hn.out, Hr.out, hZl.out]; exact hfl)
          rw [List.append_assoc, eN.out, Hn.out, Hst.out, Hr.out] at tk
          have TK := Lib.hid tk
          clear tk hfl
          go_wp2
          clear t1 c72 f72
          have hgb : Glob (w2.setCell ⟨b, 72, none⟩ (.int .u64 ((n : Int) + (m : Int)))) := hg.below (Nat.le_refl 2) (hbut3.below (by have := hg.size; omega) hb)
          generalize w2.setCell ⟨b, 72, none⟩ (.int .u64 ((n : Int) + (m : Int))) = w3 at *
          have hr0 : w3.drew.rangeAt b 0 (w8 st) := fun j v hj => by
            rw [World.cell?_drew, row_cell Hrow3.out, Nat.zero_add, hcells, List.getElem?_append_left (List.getElem?_eq_some_iff.1 hj).1]; exact hj
          have hr8 : w3.drew.rangeAt b 8 (cellsOf (splice O r Z)) := fun j v hj => by
            have hjl := (List.getElem?_eq_some_iff.1 hj).1
            rw [World.cell?_drew, row_cell Hrow3.out, hcells, List.getElem?_append_right (by rw [w8_length]; omega), w8_length, Nat.add_sub_cancel_left, List.getElem?_append_left hjl]; exact hj
          have hi43 : (Tryd.prog.info? 95).map (·.size) = some (cellsOf (splice O r Z)).length := by rw [cellsOf_length, hO2.out]; kernel_rfl
          refine wp_region_any (by kernel_rfl) ?_
          change wpAny _ _ _ _ _ _ _ (World.drew _)
          refine wpAny_take (i := 0) (oi := ⟨some 39, .move (.tmp 0), _, _, _, none⟩) (v := .pointer (some ⟨b, 0, none⟩)) rfl (by kernel_rfl) (by kernel_rfl) (by kernel_rfl) (fun _ _ _ h => h) (Or.inl ⟨by rfl, fun _ => rfl⟩) ?_
          simp only [Act.put, List.setIfInBounds_toArray, List.set_cons_succ, List.set_cons_zero]
          refine wpAny_take (i := 1) (oi := ⟨some 40, .move (.tmp 0), _, _, _, none⟩) (v := .pointer (some ⟨b, 0, none⟩)) rfl (by kernel_rfl) (by kernel_rfl) (by kernel_rfl) (fun _ _ _ h => h) (Or.inl ⟨by rfl, fun _ => rfl⟩) ?_
          simp only [Act.put, List.setIfInBounds_toArray, List.set_cons_succ, List.set_cons_zero]
          refine wpAny_take (i := 2) (oi := ⟨some 41, .nilCheck (.tmp 40), _, _, _, none⟩) (v := .pointer (some ⟨b, 0, none⟩)) rfl (by kernel_rfl) (by kernel_rfl) (by kernel_rfl) (fun _ _ _ h => h) (Or.inl ⟨by rfl, fun _ => rfl⟩) ?_
          simp only [Act.put, List.setIfInBounds_toArray, List.set_cons_succ, List.set_cons_zero]
          refine wpAny_take (i := 3) (oi := ⟨some 42, .fieldAddr 97 (.tmp 41) 0, _, _, _, none⟩) (v := .pointer (some ⟨b, 0, none⟩)) rfl (by kernel_rfl) (by kernel_rfl) (by kernel_rfl) (fun _ _ _ h => h) (Or.inl ⟨by rfl, fun _ => by kernel_rfl⟩) ?_
          simp only [Act.put, List.setIfInBounds_toArray, List.set_cons_succ, List.set_cons_zero]
          refine wpAny_take (i := 5) (oi := ⟨some 44, .move (.tmp 0), _, _, _, none⟩) (v := .pointer (some ⟨b, 0, none⟩)) rfl (by kernel_rfl) (by kernel_rfl) (by kernel_rfl) (fun _ _ _ h => h) (Or.inl ⟨by rfl, fun _ => rfl⟩) ?_
          simp only [Act.put, List.setIfInBounds_toArray, List.set_cons_succ, List.set_cons_zero]
          refine wpAny_take (i := 6) (oi := ⟨some 45, .nilCheck (.tmp 44), _, _, _, none⟩) (v := .pointer (some ⟨b, 0, none⟩)) rfl (by kernel_rfl) (by kernel_rfl) (by kernel_rfl) (fun _ _ _ h => h) (Or.inl ⟨by rfl, fun _ => rfl⟩) ?_
          simp only [Act.put, List.setIfInBounds_toArray, List.set_cons_succ, List.set_cons_zero]
          refine wpAny_take (i := 7) (oi := ⟨some 46, .fieldAddr 97 (.tmp 45) 1, _, _, _, none⟩) (v := .pointer (some ⟨b, 8, none⟩)) rfl (by kernel_rfl) (by kernel_rfl) (by kernel_rfl) (fun _ _ _ h => h) (Or.inl ⟨by rfl, fun _ => by kernel_rfl⟩) ?_
          simp only [Act.put, List.setIfInBounds_toArray, List.set_cons_succ, List.set_cons_zero]
          have hgd : Glob w3.drew := ⟨hgb.size, hgb.iv, hgb.k⟩
          refine wpAny_ready (rs := [4, 8]) (by kernel_rfl) (by simp) (AllReady.cons (o := ⟨some 43, .load 94 (.tmp 42), _, _, _, none⟩) rfl (fun K hK => ?_) (AllReady.cons (o := ⟨some 47, .load 95 (.tmp 46), _, _, _, none⟩) rfl (fun K hK => ?_) AllReady.nil))
          · rw [if_pos (by rfl)]
            refine wp_load_mid 94 (.tmp 42) rfl b 0 rfl (w8 st) _ hr0 Tryd.underlying94 rfl (by kernel_rfl) (hK _ _ ?_)
            clear hK K
            simp only [Act.put, List.setIfInBounds_toArray, List.set_cons_succ, List.set_cons_zero]
            refine wpAny_ready (rs := [8]) (by kernel_rfl) (by simp) (AllReady.cons (o := ⟨some 47, .load 95 (.tmp 46), _, _, _, none⟩) rfl (fun K hK => ?_) AllReady.nil)
            rw [if_pos (by rfl)]
            refine wp_load_mid 95 (.tmp 46) rfl b 8 rfl (cellsOf (splice O r Z)) _ hr8 Tryd.underlying95 rfl hi43 (hK _ _ ?_)
            clear hK K
            simp only [Act.put, List.setIfInBounds_toArray, List.set_cons_succ, List.set_cons_zero]
            refine wpAny_ready (rs := [9]) (by kernel_rfl) (by simp) (AllReady.cons (o := ⟨some 48, .call ⟨.value (.func 63), #[.tmp 43, .tmp 47], #[94, 95]⟩, _, _, _, none⟩) rfl (fun K hK => ?_) AllReady.nil)
            have HK := Lib.hid hK
            clear hK
            go_simp
            refine (with_any st (splice O r Z) hO2.out _ hgd).mono ?_
            rintro e w4 ⟨rfl, hb4⟩
            refine HK.out _ _ ?_
            clear HK K
            try simp only [Act.put, List.setIfInBounds_toArray, List.set_cons_succ, List.set_cons_zero]
            refine wpAny_take (i := 10) (oi := ⟨some 49, .nilCheck (.tmp 39), _, _, _, none⟩) (v := .pointer (some ⟨b, 0, none⟩)) rfl (by kernel_rfl) (by kernel_rfl) (by kernel_rfl) (fun _ _ _ h => h) (Or.inl ⟨by rfl, fun _ => rfl⟩) ?_
            simp only [Act.put, List.setIfInBounds_toArray, List.set_cons_succ, List.set_cons_zero]
            refine wpAny_take (i := 11) (oi := ⟨some 50, .fieldAddr 97 (.tmp 49) 0, _, _, _, none⟩) (v := .pointer (some ⟨b, 0, none⟩)) rfl (by kernel_rfl) (by kernel_rfl) (by kernel_rfl) (fun _ _ _ h => h) (Or.inl ⟨by rfl, fun _ => by kernel_rfl⟩) ?_
            simp only [Act.put, List.setIfInBounds_toArray, List.set_cons_succ, List.set_cons_zero]
            have hbs : b < w3.heap.size := by
              have := (Array.getElem?_eq_some_iff.1 Hrow3.out).1
              exact this
            have hrow4 : w4.heap[b]? = some (.cells (hcells st (splice O r Z) (n + m)).toArray 97 (0, 0)) := (hb4.block b hbs).trans Hrow3.out
            have hth : w4.there b 0 8 := fun j hj => ⟨by rw [row_cell hrow4]; exact isSome_getElem? _ _ (by rw [hcells_length _ _ _ hO2.out]; omega), row_free hrow4 _⟩
            refine wpAny_ready (rs := [12]) (by kernel_rfl) (by simp) (AllReady.cons (o := ⟨none, .store 94 (.tmp 50) (.tmp 48), _, _, _, none⟩) rfl (fun K hK => ?_) AllReady.nil)
            rw [if_pos (by rfl)]
            refine wp_store_mid 94 (.tmp 50) (.tmp 48) rfl b 0 (w8 (comp st (splice O r Z))).toArray rfl rfl hth (by kernel_rfl) (w8_one _) (hK _ _ ?_)
            clear hK K
            refine wpAny_done (by kernel_rfl) ?_ _
            have hrow5 := heap_setCells_row (w8 (comp st (splice O r Z))) 0 _ w4 hrow4 (by rw [hcells_length _ _ _ hO2.out, w8_length]; omega)
            rw [hcells_words] at hrow5
            have Hrow5 := Lib.hid hrow5
            have hbut5 : But b w (w4.setCells b 0 (w8 (comp st (splice O r Z)))) := (hbut3.drew.trans (But.of_below hb4)).setCells 0 _
            clear hrow4 hrow5 hth hb4
            simp only [Act.put]
            generalize w4.setCells b 0 (w8 (comp st (splice O r Z))) = w5 at *
            go_wp2
            go_roundw
            case rel =>
              exact ⟨X ++ Z, Y.drop m, eS, congrArg Value.string eY.out, Lib.hid ⟨splice O r Z, hO2.out, by rw [eN.out, TK.out.1, TK.out.2.1]; rfl, by rw [eN.out, TK.out.2.2]; exact Hrow5.out⟩, hbut5⟩
            case measure =>
              show ((⟨Y.toArray⟩ : ByteArray).extract m Y.length).size < Y.length
              rw [eY.out]
              show (Y.drop m).length < Y.length
              rw [List.length_drop]
              have := hm0.out
              omega
          · rw [if_pos (by rfl)]
            refine wp_load_mid 95 (.tmp 46) rfl b 8 rfl (cellsOf (splice O r Z)) _ hr8 Tryd.underlying95 rfl hi43 (hK _ _ ?_)
            clear hK K
            simp only [Act.put, List.setIfInBounds_toArray, List.set_cons_succ, List.set_cons_zero]
            refine wpAny_ready (rs := [4]) (by kernel_rfl) (by simp) (AllReady.cons (o := ⟨some 43, .load 94 (.tmp 42), _, _, _, none⟩) rfl (fun K hK => ?_) AllReady.nil)
            rw [if_pos (by rfl)]
            refine wp_load_mid 94 (.tmp 42) rfl b 0 rfl (w8 st) _ hr0 Tryd.underlying94 rfl (by kernel_rfl) (hK _ _ ?_)
            clear hK K
            simp only [Act.put, List.setIfInBounds_toArray, List.set_cons_succ, List.set_cons_zero]
            refine wpAny_ready (rs := [9]) (by kernel_rfl) (by simp) (AllReady.cons (o := ⟨some 48, .call ⟨.value (.func 63), #[.tmp 43, .tmp 47], #[94, 95]⟩, _, _, _, none⟩) rfl (fun K hK => ?_) AllReady.nil)
            have HK := Lib.hid hK
            clear hK
            go_simp
            refine (with_any st (splice O r Z) hO2.out _ hgd).mono ?_
            rintro e w4 ⟨rfl, hb4⟩
            refine HK.out _ _ ?_
            clear HK K
            try simp only [Act.put, List.setIfInBounds_toArray, List.set_cons_succ, List.set_cons_zero]
            refine wpAny_take (i := 10) (oi := ⟨some 49, .nilCheck (.tmp 39), _, _, _, none⟩) (v := .pointer (some ⟨b, 0, none⟩)) rfl (by kernel_rfl) (by kernel_rfl) (by kernel_rfl) (fun _ _ _ h => h) (Or.inl ⟨by rfl, fun _ => rfl⟩) ?_
            simp only [Act.put, List.setIfInBounds_toArray, List.set_cons_succ, List.set_cons_zero]
            refine wpAny_take (i := 11) (oi := ⟨some 50, .fieldAddr 97 (.tmp 49) 0, _, _, _, none⟩) (v := .pointer (some ⟨b, 0, none⟩)) rfl (by kernel_rfl) (by kernel_rfl) (by kernel_rfl) (fun _ _ _ h => h) (Or.inl ⟨by rfl, fun _ => by kernel_rfl⟩) ?_
            simp only [Act.put, List.setIfInBounds_toArray, List.set_cons_succ, List.set_cons_zero]
            have hbs : b < w3.heap.size := by
              have := (Array.getElem?_eq_some_iff.1 Hrow3.out).1
              exact this
            have hrow4 : w4.heap[b]? = some (.cells (hcells st (splice O r Z) (n + m)).toArray 97 (0, 0)) := (hb4.block b hbs).trans Hrow3.out
            have hth : w4.there b 0 8 := fun j hj => ⟨by rw [row_cell hrow4]; exact isSome_getElem? _ _ (by rw [hcells_length _ _ _ hO2.out]; omega), row_free hrow4 _⟩
            refine wpAny_ready (rs := [12]) (by kernel_rfl) (by simp) (AllReady.cons (o := ⟨none, .store 94 (.tmp 50) (.tmp 48), _, _, _, none⟩) rfl (fun K hK => ?_) AllReady.nil)
            rw [if_pos (by rfl)]
            refine wp_store_mid 94 (.tmp 50) (.tmp 48) rfl b 0 (w8 (comp st (splice O r Z))).toArray rfl rfl hth (by kernel_rfl) (w8_one _) (hK _ _ ?_)
            clear hK K
            refine wpAny_done (by kernel_rfl) ?_ _
            have hrow5 := heap_setCells_row (w8 (comp st (splice O r Z))) 0 _ w4 hrow4 (by rw [hcells_length _ _ _ hO2.out, w8_length]; omega)
            rw [hcells_words] at hrow5
            have Hrow5 := Lib.hid hrow5
            have hbut5 : But b w (w4.setCells b 0 (w8 (comp st (splice O r Z)))) := (hbut3.drew.trans (But.of_below hb4)).setCells 0 _
            clear hrow4 hrow5 hth hb4
            simp only [Act.put]
            generalize w4.setCells b 0 (w8 (comp st (splice O r Z))) = w5 at *
            go_wp2
            go_roundw
            case rel =>
              exact ⟨X ++ Z, Y.drop m, eS, congrArg Value.string eY.out, Lib.hid ⟨splice O r Z, hO2.out, by rw [eN.out, TK.out.1, TK.out.2.1]; rfl, by rw [eN.out, TK.out.2.2]; exact Hrow5.out⟩, hbut5⟩
            case measure =>
              show ((⟨Y.toArray⟩ : ByteArray).extract m Y.length).size < Y.length
              rw [eY.out]
              show (Y.drop m).length < Y.length
              rw [List.length_drop]
              have := hm0.out
              omega
end Go.Proofs.YtpbbpkflljcklaaDoor
/- New has read nothing; Sum answers the sum of what was read and changes nothing that was there. -/
namespace Go.Proofs.YtpbbpkflljcklaaDoor
open Go.RowKit

/-- a hasher's cells, all nought -/
def Z45 : Array Value := (hcells ⟨0, 0, 0, 0, 0, 0, 0, 0⟩ (List.replicate 64 0) 0).toArray
theorem zero45 (w : World) : (zeroValue 97).run Tryd.prog w = .ok (.agg Z45) w := by kernel_rfl
theorem size45 : Z45.size = 73 := by kernel_rfl
theorem fill45 : ((((((((Z45.setIfInBounds 0 (Value.int IntKind.u32 (tn (IV.at 0)))).setIfInBounds 1 (Value.int IntKind.u32 (tn (IV.at 1)))).setIfInBounds 2 (Value.int IntKind.u32 (tn (IV.at 2)))).setIfInBounds 3 (Value.int IntKind.u32 (tn (IV.at 3)))).setIfInBounds 4 (Value.int IntKind.u32 (tn (IV.at 4)))).setIfInBounds 5 (Value.int IntKind.u32 (tn (IV.at 5)))).setIfInBounds 6 (Value.int IntKind.u32 (tn (IV.at 6)))).setIfInBounds 7 (Value.int IntKind.u32 (tn (IV.at 7)))) = (hcells IV (List.replicate 64 0) 0).toArray := by kernel_rfl

set_option maxRecDepth 100000 in
set_option maxHeartbeats 1000000 in
theorem new_any (w : World) (hg : Glob w) :
    Calls Tryd.prog 54 #[] w fun e w' => e = .returned (.pointer (some ⟨w.heap.size, 0, none⟩)) ∧ Has w.heap.size [] w' ∧ Below w.heap.size w w' := by
  have v0 := hg.iv 0 (by omega)
  have v1 := hg.iv 1 (by omega)
  have v2 := hg.iv 2 (by omega)
  have v3 := hg.iv 3 (by omega)
  have v4 := hg.iv 4 (by omega)
  have v5 := hg.iv 5 (by omega)
  have v6 := hg.iv 6 (by omega)
  have v7 := hg.iv 7 (by omega)
  have hz := zero45
  have hs := size45
  go_enter Tryd.func54, Tryd.ntmps54
  go_wp2
  go_ret
  refine ⟨rfl, ⟨List.replicate 64 0, by simp, by simp, ?_⟩, (Below.refl _ _).alloc (Nat.le_refl _) _⟩
  rw [heap_alloc_new, fill45]
  rfl

theorem hcells_one (s : St) (O : List UInt8) (n : Nat) : (hcells s O n).toArray.all (·.oneCell') = true := by
  apply all_oneCell_toArray
  intro v hv
  simp only [hcells, w8, cellsOf, List.mem_append, List.mem_map, List.mem_cons, List.not_mem_nil, or_false] at hv
  rcases hv with h | ⟨x, _, rfl⟩ | rfl
  · rcases h with rfl | rfl | rfl | rfl | rfl | rfl | rfl | rfl <;> rfl
  · rfl
  · rfl
theorem szof45 : (Tryd.prog.info? 97).map (·.size) = some 73 := by kernel_rfl

/-- the sum of a text -/
def shaL (T : List UInt8) : List UInt8 := digestTo (hw (T ++ padL T.length) ((T ++ padL T.length).length / 64)).at 8

theorem Has.below {b B : Nat} {T : List UInt8} {w w' : World} (h : Has b T w) (hb : b < B) (hB : Below B w w') : Has b T w' := by
  obtain ⟨O, h1, h2, h3⟩ := h
  exact ⟨O, h1, h2, (hB.block b hb).trans h3⟩
theorem Has.lt {b : Nat} {T : List UInt8} {w : World} (h : Has b T w) : b < w.heap.size := by
  obtain ⟨O, _, _, h3⟩ := h
  exact (Array.getElem?_eq_some_iff.1 h3).1
theorem Has.words {b : Nat} {T : List UInt8} {w : World} (h : Has b T w) : w.rangeAt b 0 (w8 (hw T (T.length / 64))) := by
  obtain ⟨O, _, _, h3⟩ := h
  intro j v hj
  rw [row_cell h3, Nat.zero_add, hcells, List.getElem?_append_left (List.getElem?_eq_some_iff.1 hj).1]; exact hj
theorem Has.sized {b : Nat} {T : List UInt8} {w : World} (h : Has b T w) : w.cell? ⟨b, 72, none⟩ = some (.int .u64 (T.length : Int)) := by
  obtain ⟨O, hO, _, h3⟩ := h
  rw [row_cell h3, hcells_at72 _ _ _ hO]
theorem padL_length (n : Nat) : (padL n).length < 100 := by
  have : noughts n < 64 := by unfold noughts; omega
  simp [padL, be64To]
  omega

/-- a copy of a hasher -/
theorem copied {T O : List UInt8} {w : World} (hO : O.length = 64) (hOt : O.take (T.length % 64) = T.drop (64 * (T.length / 64))) :
    Has w.heap.size T ((w.alloc (.cells Z45 97)).setCells w.heap.size 0 (hcells (hw T (T.length / 64)) O T.length)) := by
  refine ⟨O, hO, hOt, ?_⟩
  have h := heap_setCells_row (hcells (hw T (T.length / 64)) O T.length) 0 (hcells ⟨0, 0, 0, 0, 0, 0, 0, 0⟩ (List.replicate 64 0) 0) (w.alloc (.cells Z45 97)) (heap_alloc_new w _) (by rw [hcells_length _ _ _ hO, hcells_length _ _ _ (by simp)]; omega)
  rw [h]
  congr 3
  unfold splice
  rw [List.take_zero, List.nil_append, List.drop_of_length_le (by rw [hcells_length _ _ _ hO, hcells_length _ _ _ (by simp)]; omega), List.append_nil]

set_option maxRecDepth 100000 in
set_option maxHeartbeats 1000000 in
theorem sum_any (b : Nat) (T : List UInt8) (w : World) (hH : Has b T w) (hg : Glob w) (hlen : T.length < 100000000000) :
    Calls Tryd.prog 56 #[.pointer (some ⟨b, 0, none⟩)] w fun e w' => e = .returned (.string ⟨(shaL T).toArray⟩) ∧ Below w.heap.size w w' := by
  have hlt := hH.lt
  obtain ⟨O, hO, hOt, hrow⟩ := id hH
  obtain ⟨w1, hw1⟩ : ∃ w1, (w.alloc (.cells Z45 97)).setCells w.heap.size 0 (hcells (hw T (T.length / 64)) O T.length) = w1 := ⟨_, rfl⟩
  have hH1 : Has w.heap.size T w1 := hw1 ▸ copied hO hOt
  have hB1 : Below w.heap.size w w1 := hw1 ▸ Below_setCells ((Below.refl _ _).alloc (Nat.le_refl _) _) (Nat.le_refl _) 0 _
  have hc1 : w1.cell? ⟨b, 72, none⟩ = some (.int .u64 (T.length : Int)) := (hB1.cell (p := ⟨b, 72, none⟩) hlt).trans hH.sized
  have Hw1 := Lib.hid hw1
  obtain ⟨L, hL⟩ : ∃ L, hcells (hw T (T.length / 64)) O T.length = L := ⟨_, rfl⟩
  have hLl : L.length = 73 := by rw [← hL]; exact hcells_length _ _ _ hO
  have hL1 : Hid (L.toArray.all (·.oneCell') = true) := Lib.hid (by rw [← hL]; exact hcells_one _ _ _)
  rw [hL] at hrow hw1
  have Hrow := Lib.hid hrow
  have HW1 := Lib.hid hw1
  have Hi := Lib.hid (show (Tryd.prog.info? 97).map (·.size) = some L.toArray.size by rw [show L.toArray.size = 73 by rw [List.size_toArray, hLl]]; exact szof45)
  have Hth := Lib.hid (show (w.alloc (.cells Z45 97)).there w.heap.size 0 L.toArray.size by
    rw [show L.toArray.size = 73 by rw [List.size_toArray, hLl]]
    exact fun j hj => ⟨by rw [cell_of_row _ _ _ _ 97 _ (heap_alloc_new w _)]; simp [size45]; omega, frozen_of_row _ _ _ _ 97 (heap_alloc_new w _)⟩)
  have HH := Lib.hid hH
  have HH1 := Lib.hid hH1
  have hz := zero45
  have hg2 := hg.size
  clear hrow hw1 hL hLl hH hH1 hO hOt Hw1
  go_enter Tryd.func56, Tryd.ntmps56
  go_wp2_with (first
    | (refine wpList_load_row rfl 97 _ rfl _ rfl 97 _ (0, 0) _ Hrow.out Tryd.underlying97 rfl Hi.out ?_)
    | (refine wpList_store_mid rfl 97 (.tmp 3) (.tmp 8) rfl w.heap.size 0 L.toArray rfl rfl Hth.out Hi.out hL1.out ?_; rw [List.toList_toArray, HW1.out]))
  refine (padding_any T.length w1 (by omega)).mono ?_
  rintro e w2 ⟨rfl, hB2⟩
  have hH2 : Has w.heap.size T w2 := HH1.out.below HH1.out.lt hB2
  have hG2 : Glob w2 := hg.below (by omega) (hB1.trans (hB2.mono hB1.size))
  go_wp2_with fail
  refine (write_any w.heap.size T (padL T.length) w2 hH2 hG2 (by omega) (by have := padL_length T.length; omega)).mono ?_
  rintro e w3 ⟨rfl, hH3, hB3⟩
  obtain ⟨st, hst⟩ : ∃ st, hw (T ++ padL T.length) ((T ++ padL T.length).length / 64) = st := ⟨_, rfl⟩
  have Hr3 := Lib.hid hH3.words
  rw [hst] at Hr3
  have Hst := Lib.hid hst
  clear hst
  go_wp2_with (refine wpList_load_mid rfl 94 (.tmp 15) rfl w.heap.size 0 rfl (w8 st) _ Hr3.out Tryd.underlying94 rfl (by kernel_rfl) ?_)
  refine (digest_any (w8 st).toArray st.at w3 rfl (w8_at st)).mono ?_
  rintro e w4 ⟨rfl, hB4⟩
  go_wp2
  go_ret
  exact ⟨by rw [shaL, Hst.out]; rfl, ((hB1.trans (hB2.mono hB1.size)).trans (hB3.below (by have := hB1.size; have := hB2.size; omega) (Nat.le_refl _))).trans (hB4.mono (by have := hB1.size; have := hB2.size; have := hB3.size; omega))⟩
end Go.Proofs.YtpbbpkflljcklaaDoor
/- The sum at once. -/
namespace Go.Proofs.YtpbbpkflljcklaaDoor
open Go.RowKit

set_option maxHeartbeats 400000 in
theorem shaSum_any (S : List UInt8) (w : World) (hg : Glob w) (hlen : S.length < 100000000000) :
    Calls Tryd.prog 39 #[.string ⟨S.toArray⟩] w fun e w' => e = .returned (.string ⟨(shaL S).toArray⟩) ∧ Below w.heap.size w w' := by
  have hsz := hg.size
  go_enter Tryd.func39, Tryd.ntmps39
  go_wp2_with fail
  refine (new_any w hg).mono ?_
  rintro e w1 ⟨rfl, hH1, hB1⟩
  have hG1 : Glob w1 := hg.below (by omega) hB1
  go_wp2_with fail
  refine (write_any w.heap.size [] S w1 hH1 hG1 (by omega) (by simp; omega)).mono ?_
  rintro e w2 ⟨rfl, hH2, hB2⟩
  rw [List.nil_append] at hH2
  have hB12 : Below w.heap.size w w2 := hB1.trans (hB2.below hB1.size (Nat.le_refl _))
  have hG2 : Glob w2 := hg.below (by omega) hB12
  go_wp2_with fail
  refine (sum_any w.heap.size S w2 hH2 hG2 (by omega)).mono ?_
  rintro e w3 ⟨rfl, hB3⟩
  go_wp2
  go_ret
  exact ⟨rfl, hB12.trans (hB3.mono (by have := hB12.size; omega))⟩
end Go.Proofs.YtpbbpkflljcklaaDoor
/- Append within the capacity, as one step of a region that draws; cuts of a text; the length of a sum. -/
namespace Go.Proofs.YtpbbpkflljcklaaDoor
open Go.RowKit

/-- append within the capacity, as one step of a region that draws -/
theorem step_append_fits {P : Program} {w : World} {ops : Array Oper} {o : Oper} {a : Act} {K : Act → World → Prop} {Q : Exit → Act → World → Prop} {E : Prop}
    (hg : o.guard = none) (s x : Operand) (t : TypeId) (hop : o.op = Op.call { callee := Callee.builtin Builtin.append, args := #[s, x], argTypes := #[t, t] })
    (base : Nat) (e : TypeId) (i : TypeInfo) (size : Nat) (h1 : P.underlying t = some (.slice e)) (h2 : P.info? e = some i) (h4 : i.size = size)
    (g k cap : Nat) (xs : List Value) (hs : a.eval s = .slice (some ⟨g, 0, none⟩) k cap) (hown : w.ownsRow base e size (.slice (some ⟨g, 0, none⟩) k cap) k xs) (ad : Addr) (m c : Nat) (news : List Value) (hx : a.eval x = .slice (some ad) m c) (hn : news.length = m * size)
    (hc : ∀ j u, news[j]? = some u → w.cell? (ad.add j) = some u) (h1c : ∀ u ∈ news, u.oneCell' = true) (b1 : k + m ≤ cap)
    (hK : ∀ w', w'.ownsRow base e size (.slice (some ⟨g, 0, none⟩) (k + m) cap) (k + m) (xs ++ news) → w.grownBy w' (some g) → K (a.put o.dst (.slice (some ⟨g, 0, none⟩) (k + m) cap)) w') :
    if Region.wanted o (yielded ops a.tmps) = true then Oper.wp P o a w K Q else E := by
  have hw : Region.wanted o (yielded ops a.tmps) = true := by simp [Region.wanted, hg]
  rw [if_pos hw]
  obtain ⟨w', hrun, r1, r2⟩ := run_append_fits (P := P) w base t o.type e i size h1 h2 h4 g k cap xs hown ad m c news hn hc h1c b1
  unfold Oper.wp
  simp [execOp, hop, resolve, invoke, builtin, hs, hx, hrun, Result.andThen]
  exact hK w' r1 r2

theorem cut_str (S : List UInt8) (j N : Nat) (h : j ≤ N) : ∃ T : List UInt8, (⟨S.toArray⟩ : ByteArray).extract 0 j = ⟨T.toArray⟩ ∧ T.length ≤ N :=
  ⟨S.take j, by rw [extract_list, List.drop_zero], by rw [List.length_take]; omega⟩

theorem shaL_length (T : List UInt8) : (shaL T).length = 32 := digestTo_length _ 8
end Go.Proofs.YtpbbpkflljcklaaDoor
/- A frame of a tag that is none; all frames; and the hashes of frames, by the program. -/
namespace Go.Proofs.YtpbbpkflljcklaaDoor
open Go.RowKit

set_option maxHeartbeats 400000 in
theorem frame_bad (tag : List UInt8) (v : Value) (w : World) (h : tag.length < 1 ∨ 16 < tag.length) (hm : tag.length ≤ maxLen) :
    Calls Tryd.prog 38 #[.string ⟨tag.toArray⟩, v] w fun e w' => e = .returned (.string ⟨#[]⟩) ∧ w = w' := by
  unfold maxLen at hm
  rcases h with h | h
  · go_enter Tryd.func38, Tryd.ntmps38
    go_wp2
    go_ret
    exact ⟨rfl, rfl⟩
  · have h1 : ¬ tag.length < 1 := by omega
    go_enter Tryd.func38, Tryd.ntmps38
    go_wp2
    go_ret
    exact ⟨rfl, rfl⟩
/-- a tag that is one -/
def Tag (tag : List UInt8) : Prop := 1 ≤ tag.length ∧ tag.length ≤ 16
instance (tag : List UInt8) : Decidable (Tag tag) := by unfold Tag; infer_instance
/-- the frame, and nothing for a tag that is none -/
def frameL (tag : List UInt8) (ps : List (List UInt8)) : List UInt8 := if Tag tag then framed tag ps else []
def hashL (tag : List UInt8) (ps : List (List UInt8)) : List UInt8 := if Tag tag then shaL (framed tag ps) else []

theorem frameAll (tag : List UInt8) (ao : Option Addr) (cap : Nat) (L : List (List UInt8)) (w : World) (hs : Strs ao L w) (hm : tag.length ≤ maxLen) (hlen : (framed tag L).length < 100000000000) :
    Calls Tryd.prog 38 #[.string ⟨tag.toArray⟩, .slice ao L.length cap] w fun e w' => e = .returned (.string ⟨(frameL tag L).toArray⟩) ∧ Below w.heap.size w w' := by
  by_cases h : Tag tag
  · rw [frameL, if_pos h]; exact frame_any tag ao cap L w hs h.1 h.2 hlen
  · rw [frameL, if_neg h]
    exact (frame_bad tag _ w (by unfold Tag at h; omega) hm).mono fun e w' ⟨he, hw⟩ => ⟨he, hw ▸ Below.refl _ _⟩
theorem not_empty (l : List UInt8) (h : l ≠ []) : l.isEmpty = false := by
  cases l <;> simp_all

set_option maxHeartbeats 1000000 in
theorem hash_any (tag : List UInt8) (ao : Option Addr) (cap : Nat) (L : List (List UInt8)) (w : World) (hg : Glob w) (hs : Strs ao L w) (hm : tag.length ≤ maxLen) (hlen : (framed tag L).length < 100000000000) :
    Calls Tryd.prog 21 #[.string ⟨tag.toArray⟩, .slice ao L.length cap] w fun e w' => e = .returned (.string ⟨(hashL tag L).toArray⟩) ∧ Below w.heap.size w w' := by
  have hsz := hg.size
  by_cases h : Tag tag
  · rw [hashL, if_pos h]
    have hf := frameAll tag ao cap L w hs hm hlen
    rw [frameL, if_pos h] at hf
    obtain ⟨F, hF⟩ : ∃ F, framed tag L = F := ⟨_, rfl⟩
    have hne := not_empty F (by rw [← hF]; exact List.cons_ne_nil _ _)
    rw [hF] at hlen hf ⊢
    clear hF
    go_enter Tryd.func21, Tryd.ntmps21
    go_wp2_with fail
    refine hf.mono ?_
    rintro e w1 ⟨rfl, hb1⟩
    clear hf
    have hG1 : Glob w1 := hg.below (by omega) hb1
    go_wp2_with fail
    refine (shaSum_any F w1 hG1 hlen).mono ?_
    rintro e w2 ⟨rfl, hb2⟩
    go_wp2
    go_ret
    exact ⟨rfl, hb1.trans (hb2.mono hb1.size)⟩
  · rw [hashL, if_neg h]
    have hf := frameAll tag ao cap L w hs hm hlen
    rw [frameL, if_neg h] at hf
    go_enter Tryd.func21, Tryd.ntmps21
    go_wp2_with fail
    refine hf.mono ?_
    rintro e w1 ⟨rfl, hb1⟩
    clear hf
    go_wp2
    go_ret
    exact ⟨rfl, hb1⟩

/-- a row of texts that was just made -/
theorem strs_new (w : World) (L : List (List UInt8)) (C : Array Value) (hC : C = (L.map fun x => Value.string ⟨x.toArray⟩).toArray) : Strs (some ⟨w.heap.size, 0, none⟩) L (w.alloc (.cells C 9)) := by
  refine .inr ⟨_, _, rfl, by simp, fun i hi => ?_⟩
  rw [Nat.zero_add, cell_of_row _ _ _ _ 9 _ (heap_alloc_new w _), hC]
  simp [hi]
end Go.Proofs.YtpbbpkflljcklaaDoor
