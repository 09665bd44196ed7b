/- What every stage's texts share: a block whose cells are written out; a world behind draws; texts. -/
import Derived.Test.YtlhmmplkdjibkaaGreatDoorProg
import Derived.WalkKit
import Derived.Laws.IdiomStrings
import Derived.Lib.Hide
import Derived.IntWalk
import Derived.Deep.MidRow
import Derived.Laws.Rows
import Derived.BigQuiet
namespace Go.Proofs.YtlhmmplkdjibkaaGreatDoor
open Go.RowKit

theorem lit_cell {w : World} {b : Nat} {cs : Array Value} {t : TypeId} (h : w.heap[b]? = some (.cells cs t (0, 0))) (i : Nat) : w.cell? ⟨b, i, none⟩ = cs[i]? := by
  simp [World.cell?, h]
theorem lit_free {w : World} {b : Nat} {cs : Array Value} {t : TypeId} (h : w.heap[b]? = some (.cells cs t (0, 0))) (i : Nat) : w.frozen? ⟨b, i, none⟩ = false := by
  simp [World.frozen?, h]
theorem lit_lt {w : World} {b : Nat} {o : Obj} (h : w.heap[b]? = some o) : b < w.heap.size := (Array.getElem?_eq_some_iff.1 h).1
theorem lit_set {w : World} {b k : Nat} {cs : Array Value} {t : TypeId} (v : Value) (h : w.heap[b]? = some (.cells cs t (0, 0))) : (w.setCell ⟨b, k, none⟩ v).heap[b]? = some (.cells (cs.setIfInBounds k v) t (0, 0)) := by
  show (w.heap.modify b _)[b]? = _
  rw [Array.getElem?_modify, if_pos rfl, h]
  rfl
theorem lit_far {w : World} {b k : Nat} {c : Nat} (v : Value) (h : c ≠ b) : (w.setCell ⟨b, k, none⟩ v).heap[c]? = w.heap[c]? := by
  show (w.heap.modify b _)[c]? = _
  rw [Array.getElem?_modify, if_neg (by omega)]
theorem lit_old {w : World} (o : Obj) {b : Nat} {x : Obj} (h : w.heap[b]? = some x) : (w.alloc o).heap[b]? = some x := (heap_alloc_old w o (lit_lt h)).trans h
theorem by0 (w : World) (o : Obj) : Below w.heap.size w (w.alloc o) := (Below.refl _ _).alloc (Nat.le_refl _) _
theorem by0q (w : World) : ∀ n, Below w.heap.size w (w.drewN n)
  | 0 => Below.refl _ _
  | n + 1 => (by0q w n).drew
theorem Below_drewN' {B : Nat} {a w : World} (h : Below B a w) (n : Nat) : Below B a (w.drewN n) := ⟨h.os, h.tape, h.output, h.size, h.block⟩
theorem byte_mod (q : Nat) : (q : Int) % (256 : Int) = ((UInt8.ofNat q).toNat : Int) := by rw [UInt8.toNat_ofNat']; omega
theorem str_eta (s : ByteArray) : (⟨s.data.toList.toArray⟩ : ByteArray) = s := by
  cases s; simp

theorem strAdd (A B : List UInt8) : (⟨A.toArray⟩ : ByteArray) ++ ⟨B.toArray⟩ = ⟨(A ++ B).toArray⟩ := by
  apply ByteArray.ext
  simp
theorem oneByte (w : World) (y : Int) (x : UInt8) (hy : y = (x.toNat : Int)) : ∀ j (hj : j < [x].length), (w.alloc (.cells #[.int .u8 y] 5)).cell? ((⟨w.heap.size, 0, none⟩ : Addr).add j) = some (.int .u8 ([x][j].toNat : Int)) := by
  intro j hj
  obtain rfl : j = 0 := by simpa using hj
  rw [Addr.add_mid, World.cell?_alloc_at (hn := rfl), hy]
  rfl
theorem run_cat (A B : List UInt8) (h : A.length + B.length < 4611686018427387904) (w : World) : (Op.stringOp .add ⟨A.toArray⟩ ⟨B.toArray⟩).run Tryz.prog w = .ok (.string ⟨(A ++ B).toArray⟩) w := by
  have hs : ((((⟨A.toArray⟩ : ByteArray).size + (⟨B.toArray⟩ : ByteArray).size : Nat) : Int) > IntKind.i64.max) = False := by
    have e : IntKind.i64.max = 9223372036854775807 := by decide
    have e1 : (⟨A.toArray⟩ : ByteArray).size = A.length := rfl
    have e2 : (⟨B.toArray⟩ : ByteArray).size = B.length := rfl
    rw [e, e1, e2]
    simp only [gt_iff_lt, eq_iff_iff, iff_false]
    omega
  simp only [Op.stringOp, hs, if_false, strAdd]
  rfl
theorem extract_list (Y : List UInt8) (i j : Nat) : (⟨Y.toArray⟩ : ByteArray).extract i j = ⟨((Y.take j).drop i).toArray⟩ := by
  apply ByteArray.ext
  rw [ByteArray.data_extract]
  simp [List.drop_take]

/-- a number in k bytes, the highest first -/
def be (n : Nat) : Nat → List UInt8
  | 0 => []
  | k + 1 => UInt8.ofNat (n / 256 ^ k) :: be n k
theorem be_length (n : Nat) : ∀ k, (be n k).length = k
  | 0 => rfl
  | k + 1 => by rw [be, List.length_cons, be_length n k]
end Go.Proofs.YtlhmmplkdjibkaaGreatDoor
/- The document's rows: what a thing is laid as. -/
namespace Go.Proofs.YtlhmmplkdjibkaaGreatDoor
open Go.RowKit

/-- a number's bytes -/
def numP (n : Nat) : List UInt8 :=
  if n < 128 then [UInt8.ofNat n] else if n < 256 then 204 :: be n 1 else if n < 65536 then 205 :: be n 2 else if n < 4294967296 then 206 :: be n 4 else 207 :: be n 8
/-- the beginning of a thing of a sort that has n bytes, things, or pairs -/
def headP (s : Int) (n : Nat) : List UInt8 :=
  if s = 1 then (if n < 256 then 196 :: be n 1 else 197 :: be n 2)
  else if s = 2 then (if n < 32 then [UInt8.ofNat (160 + n)] else if n < 256 then 217 :: be n 1 else 218 :: be n 2)
  else if s = 3 then (if n < 16 then [UInt8.ofNat (144 + n)] else 220 :: be n 2)
  else (if n < 16 then [UInt8.ofNat (128 + n)] else 222 :: be n 2)
theorem numP_len (n : Nat) : (numP n).length ≤ 9 := by
  unfold numP
  repeat' split
  all_goals simp [be_length]
theorem headP_len (s : Int) (n : Nat) : (headP s n).length ≤ 3 := by
  unfold headP
  repeat' split
  all_goals simp [be_length]

/-- a thing of a sort, a number, a text: by hand -/
def laidQ (s n : Nat) (T : List UInt8) : List UInt8 := if s = 0 then numP n else if s = 1 ∨ s = 2 then headP (s : Int) n ++ T else headP (s : Int) n
end Go.Proofs.YtlhmmplkdjibkaaGreatDoor
/- The document's row of a first byte. -/
namespace Go.Proofs.YtlhmmplkdjibkaaGreatDoor
open Go.RowKit

/-- of a sort, by a first byte: how many bytes of a number follow (-1: it is no such thing), the number itself, if none, the least one of the row -/
def rowU (s c : Nat) : Int × Nat × Nat :=
  if s = 0 then (if c < 128 then (0, c, 0) else if c = 204 then (1, 0, 128) else if c = 205 then (2, 0, 256) else if c = 206 then (4, 0, 65536) else if c = 207 then (8, 0, 4294967296) else (-1, 0, 0))
  else if s = 1 then (if c = 196 then (1, 0, 0) else if c = 197 then (2, 0, 256) else (-1, 0, 0))
  else if s = 2 then (if 160 ≤ c ∧ c < 192 then (0, c - 160, 0) else if c = 217 then (1, 0, 32) else if c = 218 then (2, 0, 256) else (-1, 0, 0))
  else if s = 3 then (if 144 ≤ c ∧ c < 160 then (0, c - 144, 0) else if c = 220 then (2, 0, 16) else (-1, 0, 0))
  else (if 128 ≤ c ∧ c < 144 then (0, c - 128, 0) else if c = 222 then (2, 0, 16) else (-1, 0, 0))

set_option maxRecDepth 100000 in
set_option maxHeartbeats 4000000 in
theorem row_any (s c : Nat) (w : World) (hs : s ≤ 4) (hc : c < 256) :
    Calls Tryz.prog 165 #[.int .i64 (s : Int), .int .i64 (c : Int)] w fun e w' => e = .returned (.tuple #[.int .i64 (rowU s c).1, .int .u64 ((rowU s c).2.1 : Int), .int .u64 ((rowU s c).2.2 : Int)]) ∧ w' = w := by
  obtain rfl | rfl | rfl | rfl | rfl : s = 0 ∨ s = 1 ∨ s = 2 ∨ s = 3 ∨ s = 4 := by omega
  · clear hs
    by_cases h0 : c < 128
    · have b0 : decide ((c : Int) < 128) = true := decide_eq_true (by omega)
      have HE := Lib.hid (show rowU 0 c = (0, c, 0) by simp [rowU, h0])
      rw [HE.out]
      go_enter Tryz.func165, Tryz.ntmps165
      go_wp2
      all_goals refine bodyPost_ret (v := .tuple #[.int .i64 0, .int .u64 ((c : Nat) : Int), .int .u64 0]) (by simp [results, Tryz.results165, go_sem, *]) rfl ⟨rfl, rfl⟩
    · have b0 : decide ((c : Int) < 128) = false := decide_eq_false (by omega)
      by_cases h1 : c = 204
      · subst h1
        have HE := Lib.hid (show rowU 0 204 = (1, 0, 128) by rfl)
        rw [HE.out]
        go_enter Tryz.func165, Tryz.ntmps165
        go_wp2
        all_goals refine bodyPost_ret (v := .tuple #[.int .i64 1, .int .u64 0, .int .u64 128]) (by simp [results, Tryz.results165, go_sem, *]) rfl ⟨rfl, rfl⟩
      · have b1 : ((c : Int) == 204) = false := by rw [beq_eq_false_iff_ne]; omega
        by_cases h2 : c = 205
        · subst h2
          have HE := Lib.hid (show rowU 0 205 = (2, 0, 256) by rfl)
          rw [HE.out]
          go_enter Tryz.func165, Tryz.ntmps165
          go_wp2
          all_goals refine bodyPost_ret (v := .tuple #[.int .i64 2, .int .u64 0, .int .u64 256]) (by simp [results, Tryz.results165, go_sem, *]) rfl ⟨rfl, rfl⟩
        · have b2 : ((c : Int) == 205) = false := by rw [beq_eq_false_iff_ne]; omega
          by_cases h3 : c = 206
          · subst h3
            have HE := Lib.hid (show rowU 0 206 = (4, 0, 65536) by rfl)
            rw [HE.out]
            go_enter Tryz.func165, Tryz.ntmps165
            go_wp2
            all_goals refine bodyPost_ret (v := .tuple #[.int .i64 4, .int .u64 0, .int .u64 65536]) (by simp [results, Tryz.results165, go_sem, *]) rfl ⟨rfl, rfl⟩
          · have b3 : ((c : Int) == 206) = false := by rw [beq_eq_false_iff_ne]; omega
            by_cases h4 : c = 207
            · subst h4
              have HE := Lib.hid (show rowU 0 207 = (8, 0, 4294967296) by rfl)
              rw [HE.out]
              go_enter Tryz.func165, Tryz.ntmps165
              go_wp2
              all_goals refine bodyPost_ret (v := .tuple #[.int .i64 8, .int .u64 0, .int .u64 4294967296]) (by simp [results, Tryz.results165, go_sem, *]) rfl ⟨rfl, rfl⟩
            · have b4 : ((c : Int) == 207) = false := by rw [beq_eq_false_iff_ne]; omega
              have HE := Lib.hid (show rowU 0 c = (-1, 0, 0) by simp [rowU, h0, h1, h2, h3, h4])
              rw [HE.out]
              go_enter Tryz.func165, Tryz.ntmps165
              go_wp2
              all_goals refine bodyPost_ret (v := .tuple #[.int .i64 (-1), .int .u64 0, .int .u64 0]) (by simp [results, Tryz.results165, go_sem, *]) rfl ⟨rfl, rfl⟩
  · clear hs
    by_cases h0 : c = 196
    · subst h0
      have HE := Lib.hid (show rowU 1 196 = (1, 0, 0) by rfl)
      rw [HE.out]
      go_enter Tryz.func165, Tryz.ntmps165
      go_wp2
      all_goals refine bodyPost_ret (v := .tuple #[.int .i64 1, .int .u64 0, .int .u64 0]) (by simp [results, Tryz.results165, go_sem, *]) rfl ⟨rfl, rfl⟩
    · have b0 : ((c : Int) == 196) = false := by rw [beq_eq_false_iff_ne]; omega
      by_cases h1 : c = 197
      · subst h1
        have HE := Lib.hid (show rowU 1 197 = (2, 0, 256) by rfl)
        rw [HE.out]
        go_enter Tryz.func165, Tryz.ntmps165
        go_wp2
        all_goals refine bodyPost_ret (v := .tuple #[.int .i64 2, .int .u64 0, .int .u64 256]) (by simp [results, Tryz.results165, go_sem, *]) rfl ⟨rfl, rfl⟩
      · have b1 : ((c : Int) == 197) = false := by rw [beq_eq_false_iff_ne]; omega
        have HE := Lib.hid (show rowU 1 c = (-1, 0, 0) by simp [rowU, h0, h1])
        rw [HE.out]
        go_enter Tryz.func165, Tryz.ntmps165
        go_wp2
        all_goals refine bodyPost_ret (v := .tuple #[.int .i64 (-1), .int .u64 0, .int .u64 0]) (by simp [results, Tryz.results165, go_sem, *]) rfl ⟨rfl, rfl⟩
  · clear hs
    by_cases h0 : 160 ≤ c ∧ c < 192
    · have b0 : decide ((c : Int) ≥ 160) = true := decide_eq_true (by omega)
      have d0 : decide ((c : Int) < 192) = true := decide_eq_true (by omega)
      have e0 : (c : Int) - 160 = ((c - 160 : Nat) : Int) := by omega
      have HE := Lib.hid (show rowU 2 c = (0, c - 160, 0) by simp [rowU, h0])
      rw [HE.out]
      go_enter Tryz.func165, Tryz.ntmps165
      go_wp2
      all_goals refine bodyPost_ret (v := .tuple #[.int .i64 0, .int .u64 ((c - 160 : Nat) : Int), .int .u64 0]) (by simp [results, Tryz.results165, go_sem, *]) rfl ⟨rfl, rfl⟩
    · have b0 : (decide ((c : Int) ≥ 160) && decide ((c : Int) < 192)) = false := by rw [← Bool.not_eq_true]; simp; omega
      by_cases h1 : c = 217
      · subst h1
        have HE := Lib.hid (show rowU 2 217 = (1, 0, 32) by rfl)
        rw [HE.out]
        go_enter Tryz.func165, Tryz.ntmps165
        go_wp2
        all_goals refine bodyPost_ret (v := .tuple #[.int .i64 1, .int .u64 0, .int .u64 32]) (by simp [results, Tryz.results165, go_sem, *]) rfl ⟨rfl, rfl⟩
      · have b1 : ((c : Int) == 217) = false := by rw [beq_eq_false_iff_ne]; omega
        by_cases h2 : c = 218
        · subst h2
          have HE := Lib.hid (show rowU 2 218 = (2, 0, 256) by rfl)
          rw [HE.out]
          go_enter Tryz.func165, Tryz.ntmps165
          go_wp2
          all_goals refine bodyPost_ret (v := .tuple #[.int .i64 2, .int .u64 0, .int .u64 256]) (by simp [results, Tryz.results165, go_sem, *]) rfl ⟨rfl, rfl⟩
        · have b2 : ((c : Int) == 218) = false := by rw [beq_eq_false_iff_ne]; omega
          have HE := Lib.hid (show rowU 2 c = (-1, 0, 0) by simp [rowU, h0, h1, h2])
          rw [HE.out]
          go_enter Tryz.func165, Tryz.ntmps165
          go_wp2
          all_goals refine bodyPost_ret (v := .tuple #[.int .i64 (-1), .int .u64 0, .int .u64 0]) (by simp [results, Tryz.results165, go_sem, *]) rfl ⟨rfl, rfl⟩
  · clear hs
    by_cases h0 : 144 ≤ c ∧ c < 160
    · have b0 : decide ((c : Int) ≥ 144) = true := decide_eq_true (by omega)
      have d0 : decide ((c : Int) < 160) = true := decide_eq_true (by omega)
      have e0 : (c : Int) - 144 = ((c - 144 : Nat) : Int) := by omega
      have HE := Lib.hid (show rowU 3 c = (0, c - 144, 0) by simp [rowU, h0])
      rw [HE.out]
      go_enter Tryz.func165, Tryz.ntmps165
      go_wp2
      all_goals refine bodyPost_ret (v := .tuple #[.int .i64 0, .int .u64 ((c - 144 : Nat) : Int), .int .u64 0]) (by simp [results, Tryz.results165, go_sem, *]) rfl ⟨rfl, rfl⟩
    · have b0 : (decide ((c : Int) ≥ 144) && decide ((c : Int) < 160)) = false := by rw [← Bool.not_eq_true]; simp; omega
      by_cases h1 : c = 220
      · subst h1
        have HE := Lib.hid (show rowU 3 220 = (2, 0, 16) by rfl)
        rw [HE.out]
        go_enter Tryz.func165, Tryz.ntmps165
        go_wp2
        all_goals refine bodyPost_ret (v := .tuple #[.int .i64 2, .int .u64 0, .int .u64 16]) (by simp [results, Tryz.results165, go_sem, *]) rfl ⟨rfl, rfl⟩
      · have b1 : ((c : Int) == 220) = false := by rw [beq_eq_false_iff_ne]; omega
        have HE := Lib.hid (show rowU 3 c = (-1, 0, 0) by simp [rowU, h0, h1])
        rw [HE.out]
        go_enter Tryz.func165, Tryz.ntmps165
        go_wp2
        all_goals refine bodyPost_ret (v := .tuple #[.int .i64 (-1), .int .u64 0, .int .u64 0]) (by simp [results, Tryz.results165, go_sem, *]) rfl ⟨rfl, rfl⟩
  · clear hs
    by_cases h0 : 128 ≤ c ∧ c < 144
    · have b0 : decide ((c : Int) ≥ 128) = true := decide_eq_true (by omega)
      have d0 : decide ((c : Int) < 144) = true := decide_eq_true (by omega)
      have e0 : (c : Int) - 128 = ((c - 128 : Nat) : Int) := by omega
      have HE := Lib.hid (show rowU 4 c = (0, c - 128, 0) by simp [rowU, h0])
      rw [HE.out]
      go_enter Tryz.func165, Tryz.ntmps165
      go_wp2
      all_goals refine bodyPost_ret (v := .tuple #[.int .i64 0, .int .u64 ((c - 128 : Nat) : Int), .int .u64 0]) (by simp [results, Tryz.results165, go_sem, *]) rfl ⟨rfl, rfl⟩
    · have b0 : (decide ((c : Int) ≥ 128) && decide ((c : Int) < 144)) = false := by rw [← Bool.not_eq_true]; simp; omega
      by_cases h1 : c = 222
      · subst h1
        have HE := Lib.hid (show rowU 4 222 = (2, 0, 16) by rfl)
        rw [HE.out]
        go_enter Tryz.func165, Tryz.ntmps165
        go_wp2
        all_goals refine bodyPost_ret (v := .tuple #[.int .i64 2, .int .u64 0, .int .u64 16]) (by simp [results, Tryz.results165, go_sem, *]) rfl ⟨rfl, rfl⟩
      · have b1 : ((c : Int) == 222) = false := by rw [beq_eq_false_iff_ne]; omega
        have HE := Lib.hid (show rowU 4 c = (-1, 0, 0) by simp [rowU, h0, h1])
        rw [HE.out]
        go_enter Tryz.func165, Tryz.ntmps165
        go_wp2
        all_goals refine bodyPost_ret (v := .tuple #[.int .i64 (-1), .int .u64 0, .int .u64 0]) (by simp [results, Tryz.results165, go_sem, *]) rfl ⟨rfl, rfl⟩
end Go.Proofs.YtlhmmplkdjibkaaGreatDoor
