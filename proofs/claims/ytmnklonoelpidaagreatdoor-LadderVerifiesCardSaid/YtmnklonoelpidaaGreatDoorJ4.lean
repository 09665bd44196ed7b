/- The padding is one byte 128, the noughts and the eight bytes of the count, for sizes below ten to the twelfth. -/
import Derived.Test.YtmnklonoelpidaaGreatDoorJ2
import Derived.StillTailTactics
import Derived.Laws.CopyOwn
import Derived.Lib.LazyBuf
import Derived.Test.YtmnklonoelpidaaGreatDoorJ3
namespace Go.Proofs.YtmnklonoelpidaaGreatDoor
open Go.RowKit

theorem Tryz.info5 : (Tryz.prog.info? 5).map (fun i => (i.zero, i.size, i.bytes)) = some (some (.int .u8 0), 1, 1) := by kernel_rfl

/-- bytes as cells -/
def cellsOf (l : List UInt8) : List Value := l.map fun b => .int .u8 (b.toNat : Int)
theorem cellsOf_length (l : List UInt8) : (cellsOf l).length = l.length := by simp [cellsOf]
theorem cellsOf_append (a b : List UInt8) : cellsOf (a ++ b) = cellsOf a ++ cellsOf b := by simp [cellsOf]
theorem cellsOf_get (l : List UInt8) (j : Nat) (h : j < l.length) : (cellsOf l)[j]? = some (.int .u8 (l[j].toNat : Int)) := by simp [cellsOf, h]
/-- how many noughts -/
def noughts (n : Nat) : Nat := (119 - n % 64) % 64
/-- the last k of a number's eight bytes that come first -/
def be64To (v k : Nat) : List UInt8 := (List.range k).map fun j => UInt8.ofNat (v / 2 ^ (56 - 8 * j))
def padL (n : Nat) : List UInt8 := 128 :: List.replicate (noughts n) 0 ++ be64To (8 * n) 8

/-- what stands behind, as far as it is laid -/
def padTo (n m k : Nat) : List UInt8 := 128 :: List.replicate m 0 ++ be64To (8 * n) k

theorem be64To_succ (v k : Nat) : be64To v (k + 1) = be64To v k ++ [UInt8.ofNat (v / 2 ^ (56 - 8 * k))] := by
  simp [be64To, List.range_succ]

theorem made_pad (w : World) (m : Nat) (C : Array Value) (hmx : m + 9 ≤ maxLen) (hC : C = madeCells #[.int .u8 0] (m + 9)) : (w.alloc (.cells (C.setIfInBounds 0 (.int .u8 128)) 5)).ownsRow w.heap.size 5 1 (.slice (some ⟨w.heap.size, 0, none⟩) (m + 1) (m + 9)) (m + 1) (cellsOf (128 :: List.replicate m 0)) := by
  subst hC
  refine ⟨by simp [cellsOf], .inr ⟨_, _, _, rfl, Nat.le_refl _, heap_alloc_new w _, by omega, hmx, by simp [size_madeCells], ?_⟩⟩
  rw [Array.toList_setIfInBounds, toList_madeCells_one, show m + 9 = (m + 8) + 1 by omega, List.replicate_succ, List.set_cons_zero, Nat.mul_one, List.take_succ_cons, List.take_replicate, Nat.min_eq_left (by omega)]
  simp [cellsOf]

theorem byte_eq (n k : Nat) : ((n : Int) * (8 : Int) / (2 : Int) ^ (56 - 8 * k) % (256 : Int)) = ((UInt8.ofNat (8 * n / 2 ^ (56 - 8 * k))).toNat : Int) := by
  have e : (2 : Int) ^ (56 - 8 * k) = ((2 ^ (56 - 8 * k) : Nat) : Int) := by rw [Int.natCast_pow]; rfl
  rw [e, UInt8.toNat_ofNat', Nat.mul_comm 8 n]
  generalize 2 ^ (56 - 8 * k) = p
  show _ = ((n * 8 / p % 256 : Nat) : Int)
  rw [Int.natCast_emod, Int.natCast_ediv, Int.natCast_mul]
  rfl

theorem padTo_succ (n m k : Nat) : cellsOf (padTo n m k) ++ [.int .u8 ((n : Int) * (8 : Int) / (2 : Int) ^ (56 - 8 * k) % (256 : Int))] = cellsOf (padTo n m (k + 1)) := by
  rw [byte_eq, padTo, padTo, be64To_succ, ← List.append_assoc, cellsOf_append (128 :: List.replicate m 0 ++ be64To (8 * n) k)]; rfl

theorem owned_bytes {w : World} {base g n cap : Nat} {l l' : List UInt8} (h : w.ownsRow base 5 1 (.slice (some ⟨g, 0, none⟩) n cap) n (cellsOf l')) (e : l' = l) :
    ∀ j (hj : j < l.length), w.cell? ((⟨g, 0, none⟩ : Addr).add j) = some (.int .u8 (l[j].toNat : Int)) := by
  subst e
  intro j hj
  have hn := h.1
  rw [cellsOf_length] at hn
  have := h.cellAt j (by omega)
  rw [Addr.add_mid, Nat.zero_add, this, cellsOf_get]

set_option maxRecDepth 100000 in
set_option maxHeartbeats 1000000 in
theorem padding_any (n : Nat) (w : World) (hn : n < 1000000000000) :
    Calls Tryz.prog 140 #[.int .u64 (n : Int)] w fun e w' => e = .returned (.string ⟨(padL n).toArray⟩) ∧ Below w.heap.size w w' := by
  obtain ⟨i0, hi, hz0, hz1, hz2⟩ := info_parts Tryz.info5
  obtain ⟨m, hm, hm2⟩ : ∃ m : Nat, (119 - (n : Int) % 64) % 64 = (m : Int) ∧ noughts n = m := ⟨noughts n, by unfold noughts; omega, rfl⟩
  have hmb : m < 64 := by unfold noughts at hm2; omega
  obtain ⟨C, hC⟩ : ∃ C, C = madeCells #[.int .u8 0] (m + 9) := ⟨_, rfl⟩
  have hmk : ∀ w, (Instr.makeSlice 64 (.int .u64 (1 + (m:Int))) (.int .u64 (1 + (m:Int) + 8))).run Tryz.prog w = .ok (.slice (some ⟨w.heap.size, 0, none⟩) (m + 1) (m + 9)) (w.alloc (.cells C 5)) := by
    intro w
    have h := run_make (P := Tryz.prog) w 64 5 i0 (.int .u8 0) Tryz.underlying64 hi hz0 .u64 .u64 (1 + (m:Int)) (1 + (m:Int) + 8) (by omega) (by omega) (by rw [hz2]; omega) (by omega)
    rw [show (1 + (m:Int)).toNat = m + 1 by omega, show (1 + (m:Int) + 8).toNat = m + 9 by omega, hz1, Nat.mul_one] at h
    rw [hC]
    exact h
  have hC0 : C[0]? = some (.int .u8 0) := by rw [hC]; simp [madeCells]
  have Hm2 := Lib.hid hm2
  have HC := Lib.hid hC
  clear hm2 hC
  go_enter Tryz.func140, Tryz.ntmps140
  go_wp2
  clear hm
  generalize (119 - (n : Int) % 64) % 64 = q9
  generalize 119 - (n : Int) % 64 = q8
  go_loopw [4, 5] (fun v i wr => ∃ k : Nat, k ≤ 8 ∧ i = .int .i64 (56 - 8 * (k : Int)) ∧ v = .slice (some ⟨w.heap.size, 0, none⟩) (m + 1 + k) (m + 9) ∧
      wr.ownsRow w.heap.size 5 1 (.slice (some ⟨w.heap.size, 0, none⟩) (m + 1 + k) (m + 9)) (m + 1 + k) (cellsOf (padTo n m k)) ∧ Below w.heap.size w wr)
    (fun _ i _ => (8 + intOf i).toNat)
  case atStart =>
    exact ⟨0, by omega, by go_num, rfl, by simpa [padTo, be64To] using made_pad w m C (by unfold maxLen; omega) HC.out, (Below.refl _ _).alloc (Nat.le_refl _) _⟩
  case round =>
    obtain ⟨k, hk, rfl, rfl, hown, hbe⟩ := hrel
    by_cases hlt : k < 8
    · have hnb : (0:Int) ≤ n := by omega
      have hz := hbe.size
      have HO := Lib.hid (padTo_succ n m k)
      go_wp2_with (at_builtin; refine wpList_append_fits _ rfl (.tmp 22) (.tmp 28) 64 rfl w.heap.size 5 i0 1 Tryz.underlying64 hi hz1 w.heap.size (m + 1 + k) (m + 9) _ rfl (hown.alloc _) ⟨wr.heap.size, 0, none⟩ 1 1 [.int .u8 ((n : Int) * (8 : Int) / (2 : Int) ^ (56 - 8 * k) % (256 : Int))] rfl rfl (cell_one_new _ _ _) (by simp [Value.oneCell']) (by omega) ?_)
      intro w1 hown1 hgrow
      rw [HO.out] at hown1
      clear hown
      go_wp2
      go_roundw
      case rel => exact ⟨k + 1, by omega, by go_num, rfl, hown1, (hbe.alloc hz _).grown hgrow (by simp; omega) (fun k' e => by cases e; exact Nat.le_refl _)⟩
      case measure => simp [intOf]; omega
    · have ek : Hid (k = 8) := Lib.hid (by omega)
      have hpl : padTo n m k = padL n := by rw [ek.out, ← Hm2.out]; rfl
      have hcv : ∀ j (hj : j < (padL n).length), wr.cell? ((⟨w.heap.size, 0, none⟩ : Addr).add j) = some (.int .u8 ((padL n)[j].toNat : Int)) := owned_bytes hown hpl
      have hlen : Hid ((padL n).length = m + 1 + k) := Lib.hid (by have := hown.1; rw [hpl, cellsOf_length] at this; omega)
      clear hpl
      have hconv := run_convert_bytes_back wr 64 9 5 ⟨w.heap.size, 0, none⟩ (m + 9) (padL n) Tryz.underlying64 Tryz.underlying5 Tryz.underlying9 hcv
      rw [hlen.out] at hconv
      clear hcv
      go_wp2
      go_ret
      exact ⟨rfl, hbe⟩
end Go.Proofs.YtmnklonoelpidaaGreatDoor
/- The digest of eight words is their 32 bytes, the highest first. -/
namespace Go.Proofs.YtmnklonoelpidaaGreatDoor
open Go.RowKit

/-- a word's four bytes, the highest first -/
def word4 (x : BitVec 32) : List UInt8 := [UInt8.ofNat (x >>> 24).toNat, UInt8.ofNat (x >>> 16).toNat, UInt8.ofNat (x >>> 8).toNat, UInt8.ofNat x.toNat]
def digestTo (v : Nat → BitVec 32) (k : Nat) : List UInt8 := (List.range k).flatMap fun i => word4 (v i)
theorem digestTo_succ (v : Nat → BitVec 32) (k : Nat) : digestTo v (k + 1) = digestTo v k ++ word4 (v k) := by
  simp [digestTo, List.range_succ]
theorem digestTo_length (v : Nat → BitVec 32) : ∀ k, (digestTo v k).length = 4 * k
  | 0 => rfl
  | k + 1 => by rw [digestTo_succ, List.length_append, digestTo_length v k]; rfl

theorem run_index42 (R : Array Value) (k : Nat) (v : Value) (hk : k < 8) (h : R[k]? = some v) (w : World) : (Instr.index 182 (.agg R) (.int .i64 (k : Int))).run Tryz.prog w = .ok v w := by
  have h1 : (0 : Int) ≤ (k : Int) ∧ (k : Int) < ((8 : Nat) : Int) := by omega
  have h2 : (sizeOf 178).run Tryz.prog w = .ok 1 w := by kernel_rfl
  simp [Instr.index, asIntOf, run_underlying Tryz.underlying182, h1, part, h2, h]
  intro h4
  omega

theorem tn_u8 (x : BitVec 32) : tn x % (256 : Int) = ((UInt8.ofNat x.toNat).toNat : Int) := by
  rw [UInt8.toNat_ofNat', tn]
  omega

theorem word4_cells (x : BitVec 32) : [Value.int .u8 (tn x / (16777216 : Int) % (256 : Int)), .int .u8 (tn x / (65536 : Int) % (256 : Int)), .int .u8 (tn x / (256 : Int) % (256 : Int)), .int .u8 (tn x % (256 : Int))] = cellsOf (word4 x) := by
  have e24 : tn x / (16777216 : Int) = tn (x >>> 24) := shr_u32 x 24
  have e16 : tn x / (65536 : Int) = tn (x >>> 16) := shr_u32 x 16
  have e8 : tn x / (256 : Int) = tn (x >>> 8) := shr_u32 x 8
  rw [e24, e16, e8, tn_u8, tn_u8, tn_u8, tn_u8]
  rfl

theorem news_new (w : World) (l : List Value) (t : TypeId) : ∀ j u, l[j]? = some u → (w.alloc (.cells l.toArray t)).cell? ((⟨w.heap.size, 0, none⟩ : Addr).add j) = some u := by
  intro j u h
  rw [Addr.add_mid, Nat.zero_add, World.cell?_alloc_at (hn := rfl)]
  simpa using h

theorem made_dig (w : World) (b : Nat) (hb : b ≤ w.heap.size) (C : Array Value) (hC : C.size = 32) : (w.alloc (.cells C 5)).ownsRow b 5 1 (.slice (some ⟨w.heap.size, 0, none⟩) 0 32) 0 [] :=
  ⟨rfl, .inr ⟨_, _, _, rfl, hb, heap_alloc_new w _, by omega, by unfold maxLen; omega, by rw [hC], by simp⟩⟩

set_option maxRecDepth 100000 in
set_option maxHeartbeats 1000000 in
theorem digest_any (V : Array Value) (v : Nat → BitVec 32) (w : World) (hV : V.size = 8) (hv : ∀ i < 8, V[i]? = some (.int .u32 (tn (v i)))) :
    Calls Tryz.prog 141 #[.agg V] w fun e w' => e = .returned (.string ⟨(digestTo v 8).toArray⟩) ∧ Below w.heap.size w w' := by
  obtain ⟨i0, hi, hz0, hz1, hz2⟩ := info_parts Tryz.info5
  obtain ⟨C, hC⟩ : ∃ C, C = madeCells #[.int .u8 0] 32 := ⟨_, rfl⟩
  have hmk : ∀ w, (Instr.makeSlice 64 (.int .i64 0) (.int .i64 32)).run Tryz.prog w = .ok (.slice (some ⟨w.heap.size, 0, none⟩) 0 32) (w.alloc (.cells C 5)) := by
    intro w
    have h := run_make (P := Tryz.prog) w 64 5 i0 (.int .u8 0) Tryz.underlying64 hi hz0 .i64 .i64 0 32 (by omega) (by omega) (by rw [hz2]; omega) (by omega)
    rw [show (0:Int).toNat = 0 by omega, show (32:Int).toNat = 32 by omega, hz1, Nat.mul_one] at h
    rw [hC]
    exact h
  have hCs := Lib.hid (show C.size = 32 by rw [hC]; exact size_madeCells _ _)
  have HV := Lib.hid hv
  have hi42 := Lib.hid (show (Tryz.prog.info? 182).map (·.size) = some V.size by rw [hV]; kernel_rfl)
  clear hC hv hV
  go_enter Tryz.func141, Tryz.ntmps141
  go_wp2_with (refine wpList_load_row rfl 182 _ rfl _ rfl 182 V (0, 0) _ (heap_alloc2_old w _ _) Tryz.underlying182 rfl hi42.out ?_)
  go_loopw [3, 5, 8] (fun v' _ i wr => ∃ k : Nat, k ≤ 8 ∧ i = .int .i64 (k : Int) ∧ v' = .slice (some ⟨w.heap.size + 1, 0, none⟩) (4 * k) 32 ∧
      wr.ownsRow (w.heap.size + 1) 5 1 (.slice (some ⟨w.heap.size + 1, 0, none⟩) (4 * k) 32) (4 * k) (cellsOf (digestTo v k)) ∧ w.heap.size + 1 < wr.heap.size ∧ Below w.heap.size w wr)
    (fun _ _ i _ => 8 - (intOf i).toNat)
  case atStart =>
    exact ⟨0, by omega, rfl, rfl, by have := made_dig (w.alloc (.cells V 182)) (w.heap.size + 1) (by simp) C hCs.out; rwa [World.size_alloc] at this, by simp, ((Below.refl _ _).alloc (Nat.le_refl _) _).alloc (by simp) _⟩
  case round =>
    obtain ⟨k, hk, rfl, rfl, hown, hz, hbe⟩ := hrel
    by_cases hlt : k < 8
    · have hx := run_index42 V k _ hlt (HV.out k hlt)
      have HO := Lib.hid (show cellsOf (digestTo v k) ++ [Value.int .u8 (tn (v k) / (16777216 : Int) % (256 : Int)), .int .u8 (tn (v k) / (65536 : Int) % (256 : Int)), .int .u8 (tn (v k) / (256 : Int) % (256 : Int)), .int .u8 (tn (v k) % (256 : Int))] = cellsOf (digestTo v (k + 1)) by rw [word4_cells, digestTo_succ, cellsOf_append])
      go_wp2_with (at_builtin; refine wpList_append_fits _ rfl (.tmp 11) (.tmp 23) 64 rfl (w.heap.size + 1) 5 i0 1 Tryz.underlying64 hi hz1 (w.heap.size + 1) (4 * k) 32 _ rfl (hown.alloc _) ⟨wr.heap.size, 0, none⟩ 4 4 [Value.int .u8 (tn (v k) / (16777216 : Int) % (256 : Int)), .int .u8 (tn (v k) / (65536 : Int) % (256 : Int)), .int .u8 (tn (v k) / (256 : Int) % (256 : Int)), .int .u8 (tn (v k) % (256 : Int))] rfl rfl (news_new _ _ _) (by simp [Value.oneCell']) (by omega) ?_)
      intro w1 hown1 hgrow
      rw [HO.out] at hown1
      clear hown
      go_wp2
      go_roundw
      case rel => exact ⟨k + 1, by omega, by go_num, rfl, hown1, by have := hgrow.size; simp at this; omega, (hbe.alloc (by omega) _).grown hgrow (by simp; omega) (fun k' e => by cases e; omega)⟩
      case measure => simp [intOf]; omega
    · have ek : k = 8 := by omega
      subst ek
      have hconv := run_convert_bytes_back wr 64 9 5 ⟨w.heap.size + 1, 0, none⟩ 32 (digestTo v 8) Tryz.underlying64 Tryz.underlying5 Tryz.underlying9 (owned_bytes hown rfl)
      rw [digestTo_length] at hconv
      go_wp2
      go_ret
      exact ⟨rfl, hbe⟩
end Go.Proofs.YtmnklonoelpidaaGreatDoor
/- The text model of the sum, and what a hasher holds of the text that it has read. -/
namespace Go.Proofs.YtmnklonoelpidaaGreatDoor
open Go.RowKit

/-- all but block b is as it was -/
structure But (b : Nat) (w w' : World) : Prop where
  os : w'.os = w.os
  tape : w'.tape = w.tape
  output : w'.output = w.output
  size : w.heap.size ≤ w'.heap.size
  block : ∀ k, k < w.heap.size → k ≠ b → w'.heap[k]? = w.heap[k]?

theorem But.refl (b : Nat) (w : World) : But b w w := ⟨rfl, rfl, rfl, Nat.le_refl _, fun _ _ _ => rfl⟩
theorem But.trans {b : Nat} {w w1 w2 : World} (h : But b w w1) (k : But b w1 w2) : But b w w2 :=
  ⟨k.os.trans h.os, k.tape.trans h.tape, k.output.trans h.output, Nat.le_trans h.size k.size, fun i hi hne => (k.block i (Nat.lt_of_lt_of_le hi h.size) hne).trans (h.block i hi hne)⟩
theorem But.drew {b : Nat} {a w : World} (h : But b a w) : But b a w.drew := ⟨h.os, h.tape, h.output, h.size, h.block⟩
theorem But.of_below {b : Nat} {w w' : World} (h : Below w.heap.size w w') : But b w w' := ⟨h.os, h.tape, h.output, h.size, fun k hk _ => h.block k hk⟩
theorem But.setCells {b : Nat} {a w : World} (h : But b a w) (o : Nat) (vs : List Value) : But b a (w.setCells b o vs) :=
  have q := rest_setCells b vs o w
  h.trans ⟨q.1, q.2.1, q.2.2, Nat.le_of_eq (size_setCells b vs o w).symm, fun k _ hne => heap_setCells_ne b k hne vs o w⟩
theorem But.setCell {b : Nat} {a w : World} (h : But b a w) (o : Nat) (v : Value) : But b a (w.setCell ⟨b, o, none⟩ v) := h.setCells o [v]
theorem But.below {b B : Nat} {w w' : World} (h : But b w w') (hB : B ≤ w.heap.size) (hb : B ≤ b) : Below B w w' := ⟨h.os, h.tape, h.output, h.size, fun k hk => h.block k (by omega) (by omega)⟩

theorem splice_nil {α : Type} (L : List α) (o : Nat) : splice L o [] = L := by simp [splice]
theorem splice_cons {α : Type} (L : List α) (o : Nat) (v : α) (r : List α) (h : o < L.length) : splice (L.set o v) (o + 1) r = splice L o (v :: r) := by
  have h1 : (L.set o v).take (o + 1) = L.take o ++ [v] := by
    rw [List.take_succ_eq_append_getElem (by simpa using h), List.take_set_of_le (Nat.le_refl _)]
    simp
  have h2 : (L.set o v).drop (o + 1 + r.length) = L.drop (o + (v :: r).length) := by
    rw [List.drop_set_of_lt (by omega), List.length_cons]
    congr 1
    omega
  unfold splice
  rw [h1, h2]
  simp

theorem heap_setCells_row {b : Nat} {t : TypeId} : ∀ (vs : List Value) (o : Nat) (L : List Value) (w : World), w.heap[b]? = some (.cells L.toArray t (0, 0)) → o + vs.length ≤ L.length →
    (w.setCells b o vs).heap[b]? = some (.cells (splice L o vs).toArray t (0, 0))
  | [], o, L, w, h, _ => by rw [splice_nil]; exact h
  | v :: r, o, L, w, h, hl => by
    have h1 : (w.setCell ⟨b, o, none⟩ v).heap[b]? = some (.cells (L.set o v).toArray t (0, 0)) := by
      rw [heap_setCell_same w b o _ t v h]; simp
    rw [World.setCells, heap_setCells_row r (o + 1) (L.set o v) _ h1 (by simp at hl ⊢; omega), splice_cons L o v r (by simp at hl; omega)]

/-- the program's constants -/
def KL : List Nat := [0x428a2f98, 0x71374491, 0xb5c0fbcf, 0xe9b5dba5, 0x3956c25b, 0x59f111f1, 0x923f82a4, 0xab1c5ed5, 0xd807aa98, 0x12835b01, 0x243185be, 0x550c7dc3, 0x72be5d74, 0x80deb1fe, 0x9bdc06a7, 0xc19bf174, 0xe49b69c1, 0xefbe4786, 0x0fc19dc6, 0x240ca1cc, 0x2de92c6f, 0x4a7484aa, 0x5cb0a9dc, 0x76f988da, 0x983e5152, 0xa831c66d, 0xb00327c8, 0xbf597fc7, 0xc6e00bf3, 0xd5a79147, 0x06ca6351, 0x14292967, 0x27b70a85, 0x2e1b2138, 0x4d2c6dfc, 0x53380d13, 0x650a7354, 0x766a0abb, 0x81c2c92e, 0x92722c85, 0xa2bfe8a1, 0xa81a664b, 0xc24b8b70, 0xc76c51a3, 0xd192e819, 0xd6990624, 0xf40e3585, 0x106aa070, 0x19a4c116, 0x1e376c08, 0x2748774c, 0x34b0bcb5, 0x391c0cb3, 0x4ed8aa4a, 0x5b9cca4f, 0x682e6ff3, 0x748f82ee, 0x78a5636f, 0x84c87814, 0x8cc70208, 0x90befffa, 0xa4506ceb, 0xbef9a3f7, 0xc67178f2]
def KF (i : Nat) : BitVec 32 := BitVec.ofNat 32 (KL.getD i 0)
def IV : St := ⟨0x6a09e667, 0xbb67ae85, 0x3c6ef372, 0xa54ff53a, 0x510e527f, 0x9b05688c, 0x1f83d9ab, 0x5be0cd19⟩
def St.at (s : St) : Nat → BitVec 32
  | 0 => s.a | 1 => s.b | 2 => s.c | 3 => s.d | 4 => s.e | 5 => s.f | 6 => s.g | _ => s.h
/-- a block's bytes, as the rounds take them -/
def cOf (l : List UInt8) (i : Nat) : BitVec 32 := BitVec.ofNat 32 (l.getD i 0).toNat
def plus (s r : St) : St := ⟨s.a + r.a, s.b + r.b, s.c + r.c, s.d + r.d, s.e + r.e, s.f + r.f, s.g + r.g, s.h + r.h⟩
/-- the words behind a block -/
def comp (s : St) (l : List UInt8) : St := plus s (rounds KF (sched (cOf l)) s 64)
/-- the words behind the first n blocks of a text -/
def hw (T : List UInt8) : Nat → St
  | 0 => IV
  | n + 1 => comp (hw T n) ((T.drop (64 * n)).take 64)
def w8 (s : St) : List Value := [.int .u32 (tn s.a), .int .u32 (tn s.b), .int .u32 (tn s.c), .int .u32 (tn s.d), .int .u32 (tn s.e), .int .u32 (tn s.f), .int .u32 (tn s.g), .int .u32 (tn s.h)]

theorem hw_append (T X : List UInt8) : ∀ n, 64 * n ≤ T.length → hw (T ++ X) n = hw T n
  | 0, _ => rfl
  | n + 1, h => by
    rw [hw, hw, hw_append T X n (by omega), List.drop_append_of_le_length (by omega), List.take_append_of_le_length (by rw [List.length_drop]; omega)]

theorem w8_length (s : St) : (w8 s).length = 8 := rfl
theorem w8_at (s : St) : ∀ i < 8, (w8 s).toArray[i]? = some (.int .u32 (tn (s.at i))) := by
  intro i hi
  match i, hi with
  | 0, _ => rfl
  | 1, _ => rfl
  | 2, _ => rfl
  | 3, _ => rfl
  | 4, _ => rfl
  | 5, _ => rfl
  | 6, _ => rfl
  | 7, _ => rfl
theorem tn_byte (x : UInt8) : tn (BitVec.ofNat 32 x.toNat) = (x.toNat : Int) := by
  have := x.toNat_lt
  rw [tn, BitVec.toNat_ofNat]
  omega
theorem cells_at (O : List UInt8) (hO : O.length = 64) : ∀ i < 64, (cellsOf O).toArray[i]? = some (.int .u8 (tn (cOf O i))) := by
  intro i hi
  rw [cOf, tn_byte, List.getElem?_toArray, cellsOf_get O i (by omega), List.getD_eq_getElem?_getD, List.getElem?_eq_getElem (by omega)]
  rfl

/-- a hasher's cells -/
def hcells (s : St) (O : List UInt8) (n : Nat) : List Value := w8 s ++ (cellsOf O ++ [Value.int .u64 (n : Int)])
/-- the hasher in block b has read T: its cells are its words, its open bytes (those that count are T's last ones), and its size -/
def Has (b : Nat) (T : List UInt8) (w : World) : Prop :=
  ∃ O : List UInt8, O.length = 64 ∧ O.take (T.length % 64) = T.drop (64 * (T.length / 64)) ∧
    w.heap[b]? = some (.cells (hcells (hw T (T.length / 64)) O T.length).toArray 185 (0, 0))

theorem hcells_length (s : St) (O : List UInt8) (n : Nat) (hO : O.length = 64) : (hcells s O n).length = 73 := by simp [hcells, w8_length, cellsOf_length, hO]
theorem hcells_open (s : St) (O : List UInt8) (n r : Nat) (X : List UInt8) (hO : O.length = 64) (hr : r + X.length ≤ 64) :
    splice (hcells s O n) (8 + r) (cellsOf X) = hcells s (splice O r X) n := by
  have hl := cellsOf_length O
  have hx := cellsOf_length X
  unfold splice hcells
  rw [List.take_append, List.drop_append, w8_length, List.take_of_length_le (by rw [w8_length]; omega), List.drop_of_length_le (by rw [w8_length]; omega)]
  rw [show 8 + r - 8 = r by omega, show 8 + r + (cellsOf X).length - 8 = r + X.length by omega, List.take_append_of_le_length (by omega), List.drop_append_of_le_length (by omega)]
  simp [cellsOf]
theorem hcells_size (s : St) (O : List UInt8) (n m : Nat) (hO : O.length = 64) : (hcells s O n).set 72 (.int .u64 (m : Int)) = hcells s O m := by
  have hl := cellsOf_length O
  unfold hcells
  rw [List.set_append_right _ _ (by rw [w8_length]; omega), List.set_append_right _ _ (by rw [w8_length]; omega), w8_length, hl, hO]
  rfl
theorem hcells_words (s s' : St) (O : List UInt8) (n : Nat) : splice (hcells s O n) 0 (w8 s') = hcells s' O n := by
  unfold splice hcells
  rw [List.take_zero, List.nil_append, w8_length, List.drop_append_of_le_length (by rw [w8_length]; omega), List.drop_of_length_le (by rw [w8_length]; omega), List.nil_append]
theorem hcells_at72 (s : St) (O : List UInt8) (n : Nat) (hO : O.length = 64) : (hcells s O n)[72]? = some (.int .u64 (n : Int)) := by
  have hl := cellsOf_length O
  unfold hcells
  rw [List.getElem?_append_right (by rw [w8_length]; omega), List.getElem?_append_right (by rw [w8_length]; omega), w8_length, hl, hO]
  rfl

theorem take_splice (O X : List UInt8) (r : Nat) (hr : r ≤ O.length) : (splice O r X).take (r + X.length) = O.take r ++ X := by
  unfold splice
  rw [List.take_append, List.take_append, List.length_take, Nat.min_eq_left hr, show r + X.length - r = X.length by omega, List.take_of_length_le (by rw [List.length_take]; omega), List.take_of_length_le (Nat.le_refl _)]
  simp

/-- a part of a text is taken in, and the block is not yet full -/
theorem take_in (T O X : List UInt8) (hO : O.length = 64) (hT : O.take (T.length % 64) = T.drop (64 * (T.length / 64))) (hx : T.length % 64 + X.length < 64) :
    (splice O (T.length % 64) X).take ((T ++ X).length % 64) = (T ++ X).drop (64 * ((T ++ X).length / 64)) ∧ hw (T ++ X) ((T ++ X).length / 64) = hw T (T.length / 64) ∧ (T ++ X).length % 64 = T.length % 64 + X.length := by
  have e1 : (T ++ X).length = T.length + X.length := List.length_append
  have e2 : (T ++ X).length % 64 = T.length % 64 + X.length := by rw [e1]; omega
  have e3 : (T ++ X).length / 64 = T.length / 64 := by rw [e1]; omega
  refine ⟨?_, ?_, e2⟩
  · rw [e2, e3, take_splice O X _ (by omega), hT, List.drop_append_of_le_length (by omega)]
  · rw [e3, hw_append T X _ (by omega)]
/-- .. and the block is full -/
theorem take_full (T O X : List UInt8) (hO : O.length = 64) (hT : O.take (T.length % 64) = T.drop (64 * (T.length / 64))) (hx : T.length % 64 + X.length = 64) :
    (T ++ X).length % 64 = 0 ∧ (T ++ X).drop (64 * ((T ++ X).length / 64)) = [] ∧ hw (T ++ X) ((T ++ X).length / 64) = comp (hw T (T.length / 64)) (splice O (T.length % 64) X) := by
  have e1 : (T ++ X).length = T.length + X.length := List.length_append
  have e3 : (T ++ X).length / 64 = T.length / 64 + 1 := by rw [e1]; omega
  have hs : splice O (T.length % 64) X = T.drop (64 * (T.length / 64)) ++ X := by
    have h := take_splice O X (T.length % 64) (by omega)
    rw [hT, hx] at h
    rw [← h, List.take_of_length_le]
    rw [length_splice O _ X (by omega)]
    omega
  refine ⟨by rw [e1]; omega, ?_, ?_⟩
  · rw [List.drop_eq_nil_iff, e3, e1]; omega
  · rw [e3, hw, hw_append T X _ (by omega), hs, List.drop_append_of_le_length (by omega), List.take_of_length_le]
    rw [List.length_append, List.length_drop]
    omega

end Go.Proofs.YtmnklonoelpidaaGreatDoor
/- A copy from a string, a load in a region, and the compression by a hasher of its open block. -/
namespace Go.Proofs.YtmnklonoelpidaaGreatDoor
open Go.RowKit

theorem run_copy_str {P : Program} (w : World) (dT sT ty elem : TypeId) (b o dLen dCap : Nat) (t : ByteArray) (n : Nat)
    (hu : P.underlying dT = some (.slice elem)) (hz : ∀ w, (Go.sizeOf elem).run P w = .ok 1 w) (hn : Nat.min t.size dLen = n)
    (hc : ∀ j, j < n → (w.cell? ⟨b, o + j, none⟩).isSome = true) (hf : ∀ j, j < n → w.frozen? ⟨b, o + j, none⟩ = false) :
    (Builtin.copy_ #[dT, sT] ty #[.slice (some ⟨b, o, none⟩) dLen dCap, .string t]).run P w = .ok (goInt n) (w.setCells b o (cellsOf (t.data.toList.take n))) := by
  have hn2 : n ≤ t.data.toList.length := by rw [← hn]; exact Nat.min_le_left _ _
  have hl : (cellsOf (t.data.toList.take n)).length = n := by rw [cellsOf_length, List.length_take]; omega
  have hst := run_storeCells_cells (P := P) b o (cellsOf (t.data.toList.take n)) 0 w (by rw [hl]; simpa using hc) (by rw [hl]; simpa using hf) (by
    intro v hv
    obtain ⟨x, _, rfl⟩ := List.mem_map.1 hv
    rfl)
  have htk : List.take n (List.map (fun b : UInt8 => Value.int IntKind.u8 (b.toNat : Int)) t.data.toList) = cellsOf (t.data.toList.take n) := by rw [← List.map_take]; rfl
  simp [Builtin.copy_, run_underlying hu, Builtin.lenOf, Builtin.firstCells, hz, hn]
  rw [htk, hst]
  rfl

theorem wpList_copy_str {P : Program} {w : World} {ops : Array Oper} {rest : List Oper} {o : Oper} {a : Act} {Q : Exit → Act → World → Prop} (hgd : o.guard = none) (d x : Operand) (dT sT : TypeId)
    (ho : o.op = .call { callee := .builtin .copy, args := #[d, x], argTypes := #[dT, sT] }) (elem : TypeId) (hu : P.underlying dT = some (.slice elem)) (hz : ∀ w, (Go.sizeOf elem).run P w = .ok 1 w)
    (b off dLen dCap : Nat) (hd : a.eval d = .slice (some ⟨b, off, none⟩) dLen dCap) (t : ByteArray) (hx : a.eval x = .string t) (n : Nat) (hn : Nat.min t.size dLen = n)
    (hc : ∀ j, j < n → (w.cell? ⟨b, off + j, none⟩).isSome = true) (hf : ∀ j, j < n → w.frozen? ⟨b, off + j, none⟩ = false)
    (h : wpList P ops Q rest (a.put o.dst (goInt n)) (w.setCells b off (cellsOf (t.data.toList.take n)))) : wpList P ops Q (o :: rest) a w := by
  refine wpList_plain hgd fun K hK => ?_
  have hrun := run_copy_str (P := P) w dT sT o.type elem b off dLen dCap t n hu hz hn hc hf
  unfold Oper.wp
  simp [execOp, ho, resolve, invoke, builtin, hd, hx, hrun, Result.andThen]
  exact hK _ _ h

theorem wpStill_load_mid {P : Program} {ops : Array Oper} {w : World} {Q : Act → Prop} {a : Act} {op : Oper} {rest : List Oper} (hgd : op.guard = none) (ty : TypeId) (x : Operand) (ho : op.op = .load ty x)
    (b o : Nat) (hx : a.eval x = .pointer (some ⟨b, o, none⟩)) (cs : List Value) (d : TypeDesc) (hc : w.rangeAt b o cs)
    (hu : P.underlying ty = some d) (hd : d.isRow = true) (hi : (P.info? ty).map (·.size) = some cs.length)
    (h : wpStill P ops w Q rest (a.put op.dst (.agg cs.toArray))) : wpStill P ops w Q (op :: rest) a := by
  have hw : Region.wanted op (yielded ops a.tmps) = true := by simp [Region.wanted, hgd]
  unfold wpStill
  rw [if_pos hw]
  unfold Oper.still execOp
  simp only [ho, hx, Instr.loadAt, Instr.sureAddr, Sem.run_bind, Sem.run_pure, Result.andThen_ok, run_loadVar_mid w b o ty cs d hc hu hd hi]
  exact ⟨rfl, h⟩

/-- the package's variables -/
structure Glob (w : World) : Prop where
  size : 1 < w.heap.size
  iv : ∀ i < 8, w.cell? ⟨0, i, none⟩ = some (.int .u32 (tn (IV.at i)))
  k : ∀ i < 64, w.cell? ⟨1, i, none⟩ = some (.int .u32 (tn (KF i)))
theorem Glob.below {B : Nat} {w w' : World} (h : Glob w) (hB : 2 ≤ B) (hb : Below B w w') : Glob w' :=
  ⟨by have := hb.size; have := h.size; omega, fun i hi => (hb.cell (p := ⟨0, i, none⟩) (by show 0 < B; omega)).trans (h.iv i hi), fun i hi => (hb.cell (p := ⟨1, i, none⟩) (by show 1 < B; omega)).trans (h.k i hi)⟩

/-- the compression of a hasher's words, by its open block -/
theorem with_any (s : St) (O : List UInt8) (hO : O.length = 64) (w : World) (hg : Glob w) :
    Calls Tryz.prog 139 #[.agg (w8 s).toArray, .agg (cellsOf O).toArray] w fun e w' => e = .returned (.agg (w8 (comp s O)).toArray) ∧ Below w.heap.size w w' :=
  with_fn (w8 s).toArray (cellsOf O).toArray s.at (cOf O) KF w (cells_at O hO) (w8_at s) hg.k hg.size

end Go.Proofs.YtmnklonoelpidaaGreatDoor
