/- A number's eight bytes, by the program; and the number that bytes say. -/
import Derived.Test.YtmnklonoelpidaaGreatDoorJ1
import Derived.Test.YtmnklonoelpidaaGreatDoorJ4
import Derived.Shelf.Strings.Builder1
import Derived.Shelf.Strings.Builder2
import Derived.Test.YtmnklonoelpidaaGreatDoorProg
import Derived.Deep.RegionLaw
namespace Go.Proofs.YtmnklonoelpidaaGreatDoor
open Go.RowKit

/-- a number's eight bytes, the highest first -/
def numL (n : Nat) : List UInt8 := be64To n 8
theorem numL_length (n : Nat) : (numL n).length = 8 := by simp [numL, be64To]
theorem numL_get (n j : Nat) (h : j < 8) : (numL n)[j]? = some (UInt8.ofNat (n / 2 ^ (56 - 8 * j))) := by simp [numL, be64To, h]

theorem shr_byte (n k : Nat) : ((n : Int) / (2 : Int) ^ (8 * k) % (256 : Int)) = ((UInt8.ofNat (n / 2 ^ (8 * k))).toNat : Int) := by
  have e : (2 : Int) ^ (8 * k) = ((2 ^ (8 * k) : Nat) : Int) := by rw [Int.natCast_pow]; rfl
  rw [e, UInt8.toNat_ofNat']
  generalize 2 ^ (8 * k) = p
  show _ = ((n / p % 256 : Nat) : Int)
  rw [Int.natCast_emod, Int.natCast_ediv]
  rfl

/-- the array of eight, from its end on -/
def Laid8 (n k : Nat) (R : Array Value) : Prop := ∀ j, 8 - k ≤ j → j < 8 → R[j]? = some (.int .u8 ((UInt8.ofNat (n / 2 ^ (56 - 8 * j))).toNat : Int))
theorem Laid8.next {n k : Nat} {R : Array Value} (h : Laid8 n k R) (hR : R.size = 8) (hk : k < 8) : Laid8 n (k + 1) (R.setIfInBounds (7 - k) (.int .u8 ((n : Int) / (2 : Int) ^ (8 * k) % (256 : Int)))) := by
  intro j h1 h2
  by_cases e : j = 7 - k
  · subst e
    rw [Array.getElem?_setIfInBounds_self_of_lt (by omega), shr_byte, show 56 - 8 * (7 - k) = 8 * k by omega]
  · rw [Array.getElem?_setIfInBounds_ne (by omega)]
    exact h j (by omega) h2

set_option maxRecDepth 100000 in
set_option maxHeartbeats 1000000 in
theorem num_any (n : Nat) (w : World) :
    Calls Tryz.prog 26 #[.int .u64 (n : Int)] w fun e w' => e = .returned (.string ⟨(numL n).toArray⟩) ∧ Below w.heap.size w w' := by
  go_enter Tryz.func26, Tryz.ntmps26
  go_wp2
  go_loopw [4, 5] (fun _ i wr => ∃ k : Nat, ∃ R : Array Value, k ≤ 8 ∧ i = .int .i64 (k : Int) ∧ R.size = 8 ∧ Hid (Laid8 n k R) ∧ wr.heap[w.heap.size]? = some (.cells R 93 (0, 0)) ∧ Below w.heap.size w wr)
    (fun _ i _ => 8 - (intOf i).toNat)
  case atStart => exact ⟨0, _, by omega, rfl, rfl, Lib.hid (fun j h1 h2 => by omega), heap_alloc_new w _, (Below.refl _ _).alloc (Nat.le_refl _) _⟩
  case round =>
    obtain ⟨k, R, hk, rfl, hR, HR, hrow, hbe⟩ := hrel
    by_cases hlt : k < 8
    · obtain ⟨u, hu⟩ : ∃ u, R[7 - k]? = some u := ⟨R[7 - k], by simp⟩
      have r0 : wr.cell? ⟨w.heap.size, 7 - k, none⟩ = some u := by rw [cell_of_row _ _ _ _ 93 _ hrow]; exact hu
      have r1 : wr.frozen? ⟨w.heap.size, 7 - k, none⟩ = false := frozen_of_row _ _ _ _ 93 hrow
      clear hu
      obtain ⟨i0, j0, l0⟩ := idx (7 - (k:Int)) (7 - k) (by omega) (by omega)
      have m0 : 7 - (k:Int) < 8 := by omega
      go_wp2
      go_roundw
      case rel =>
        refine ⟨k + 1, R.setIfInBounds (7 - k) _, by omega, by go_num, by simpa using hR, Lib.hid (HR.out.next hR hlt), ?_, hbe.setCell (by show w.heap.size ≤ w.heap.size; omega) _⟩
        exact heap_setCell_same wr w.heap.size (7 - k) R 93 _ hrow
      case measure => simp [intOf]; omega
    · have ek : k = 8 := by omega
      have hcv : ∀ j (hj : j < (numL n).length), wr.cell? ((⟨w.heap.size, 0, none⟩ : Addr).add j) = some (.int .u8 ((numL n)[j].toNat : Int)) := by
        intro j hj
        rw [numL_length] at hj
        have h := HR.out j (by omega) hj
        have e := numL_get n j hj
        rw [List.getElem?_eq_getElem (by rw [numL_length]; exact hj), Option.some.injEq] at e
        rw [Addr.add_mid, Nat.zero_add, cell_of_row _ _ _ _ 93 _ hrow, h, e]
      have hconv := run_convert_bytes_back wr 64 9 5 ⟨w.heap.size, 0, none⟩ 8 (numL n) Tryz.underlying64 Tryz.underlying5 Tryz.underlying9 hcv
      rw [numL_length] at hconv
      clear hcv
      go_wp2
      go_ret
      exact ⟨rfl, hbe⟩

end Go.Proofs.YtmnklonoelpidaaGreatDoor
/- The contracts of strings.Builder at this program: WriteByte, WriteString, Grow of a new one, and String, each by one application of the shelf's theorem. -/
namespace Go.Proofs.YtmnklonoelpidaaGreatDoor
open Go.Shelf Go.RowKit
def ren165 : Go.Shelf.Ren := ⟨fun | 165 => 104 | 240 => 137 | 241 => 138 | 276 => 165 | 277 => 166 | n => n, fun | 0 => 0 | 3 => 3 | 4 => 4 | 9 => 9 | 20 => 20 | 37 => 64 | 70 => 142 | 72 => 144 | 164 => 208 | 5 => 5 | n => n, fun | n => n⟩
theorem lays165 : Go.Proofs.Lays.n165 Tryz.prog ren165 := {
  mixed := by kernel_rfl
  f165 := Tryz.func104.trans (congrArg some (by kernel_rfl))
  f240 := Tryz.func137.trans (congrArg some (by kernel_rfl))
  f241 := Tryz.func138.trans (congrArg some (by kernel_rfl))
  f276 := Tryz.func165.trans (congrArg some (by kernel_rfl))
  f277 := Tryz.func166.trans (congrArg some (by kernel_rfl))
  t0 := Tryz.underlying0
  a0 := Tryz.isAgg0
  z0 := Tryz.sizeOf0
  v0 := Tryz.zeroValue0
  t3 := Tryz.underlying3
  a3 := Tryz.isAgg3
  z3 := Tryz.sizeOf3
  v3 := Tryz.zeroValue3
  t4 := Tryz.underlying4
  a4 := Tryz.isAgg4
  z4 := Tryz.sizeOf4
  v4 := Tryz.zeroValue4
  t9 := Tryz.underlying9
  a9 := Tryz.isAgg9
  z9 := Tryz.sizeOf9
  v9 := Tryz.zeroValue9
  t20 := Tryz.underlying20
  a20 := Tryz.isAgg20
  z20 := Tryz.sizeOf20
  v20 := Tryz.zeroValue20
  t37 := Tryz.underlying64
  a37 := Tryz.isAgg64
  z37 := Tryz.sizeOf64
  v37 := Tryz.zeroValue64
  t70 := Tryz.underlying142
  a70 := Tryz.isAgg142
  z70 := Tryz.sizeOf142
  v70 := Tryz.zeroValue142
  t72 := Tryz.underlying144
  a72 := Tryz.isAgg144
  z72 := Tryz.sizeOf144
  v72 := Tryz.zeroValue144
  t164 := Tryz.underlying208
  a164 := Tryz.isAgg208
  z164 := Tryz.sizeOf208
  v164 := Tryz.zeroValue208 }
theorem extra165 : Builder.Extra Tryz.prog ren165 := {
  sizeBuilder := by kernel_rfl
  liesBuilder := by kernel_rfl
  t5 := Tryz.underlying5
  a5 := Tryz.isAgg5
  z5 := Tryz.sizeOf5
  v5 := Tryz.zeroValue5
  infoByte := by kernel_rfl
  cellsByte := by kernel_rfl
  sizeByte := by kernel_rfl
  neB5 := by decide }
def ren166 : Go.Shelf.Ren := ⟨fun | 166 => 107 | 240 => 137 | 276 => 165 | n => n, fun | 0 => 0 | 3 => 3 | 4 => 4 | 9 => 9 | 20 => 20 | 37 => 64 | 70 => 142 | 72 => 144 | 75 => 148 | 164 => 208 | 80 => 37 | 76 => 149 | 5 => 5 | n => n, fun | n => n⟩
theorem lays166 : Go.Proofs.Lays.n166 Tryz.prog ren166 := {
  mixed := by kernel_rfl
  f166 := Tryz.func107.trans (congrArg some (by kernel_rfl))
  f240 := Tryz.func137.trans (congrArg some (by kernel_rfl))
  f276 := Tryz.func165.trans (congrArg some (by kernel_rfl))
  t0 := Tryz.underlying0
  a0 := Tryz.isAgg0
  z0 := Tryz.sizeOf0
  v0 := Tryz.zeroValue0
  t3 := Tryz.underlying3
  a3 := Tryz.isAgg3
  z3 := Tryz.sizeOf3
  v3 := Tryz.zeroValue3
  t4 := Tryz.underlying4
  a4 := Tryz.isAgg4
  z4 := Tryz.sizeOf4
  v4 := Tryz.zeroValue4
  t9 := Tryz.underlying9
  a9 := Tryz.isAgg9
  z9 := Tryz.sizeOf9
  v9 := Tryz.zeroValue9
  t20 := Tryz.underlying20
  a20 := Tryz.isAgg20
  z20 := Tryz.sizeOf20
  v20 := Tryz.zeroValue20
  t37 := Tryz.underlying64
  a37 := Tryz.isAgg64
  z37 := Tryz.sizeOf64
  v37 := Tryz.zeroValue64
  t70 := Tryz.underlying142
  a70 := Tryz.isAgg142
  z70 := Tryz.sizeOf142
  v70 := Tryz.zeroValue142
  t72 := Tryz.underlying144
  a72 := Tryz.isAgg144
  z72 := Tryz.sizeOf144
  v72 := Tryz.zeroValue144
  t75 := Tryz.underlying148
  a75 := Tryz.isAgg148
  z75 := Tryz.sizeOf148
  v75 := Tryz.zeroValue148
  t164 := Tryz.underlying208
  a164 := Tryz.isAgg208
  z164 := Tryz.sizeOf208
  v164 := Tryz.zeroValue208 }
theorem extra166 : Builder.Extra Tryz.prog ren166 := {
  sizeBuilder := by kernel_rfl
  liesBuilder := by kernel_rfl
  t5 := Tryz.underlying5
  a5 := Tryz.isAgg5
  z5 := Tryz.sizeOf5
  v5 := Tryz.zeroValue5
  infoByte := by kernel_rfl
  cellsByte := by kernel_rfl
  sizeByte := by kernel_rfl
  neB5 := by decide }
def ren167 : Go.Shelf.Ren := ⟨fun | 167 => 108 | 240 => 137 | 276 => 165 | n => n, fun | 0 => 0 | 4 => 4 | 5 => 5 | 9 => 9 | 20 => 20 | 37 => 64 | 70 => 142 | 72 => 144 | 75 => 148 | 164 => 208 | 80 => 37 | n => n, fun | n => n⟩
theorem lays167 : Go.Proofs.Lays.n167 Tryz.prog ren167 := {
  mixed := by kernel_rfl
  f167 := Tryz.func108.trans (congrArg some (by kernel_rfl))
  f240 := Tryz.func137.trans (congrArg some (by kernel_rfl))
  f276 := Tryz.func165.trans (congrArg some (by kernel_rfl))
  t0 := Tryz.underlying0
  a0 := Tryz.isAgg0
  z0 := Tryz.sizeOf0
  v0 := Tryz.zeroValue0
  t4 := Tryz.underlying4
  a4 := Tryz.isAgg4
  z4 := Tryz.sizeOf4
  v4 := Tryz.zeroValue4
  t5 := Tryz.underlying5
  a5 := Tryz.isAgg5
  z5 := Tryz.sizeOf5
  v5 := Tryz.zeroValue5
  t9 := Tryz.underlying9
  a9 := Tryz.isAgg9
  z9 := Tryz.sizeOf9
  v9 := Tryz.zeroValue9
  t20 := Tryz.underlying20
  a20 := Tryz.isAgg20
  z20 := Tryz.sizeOf20
  v20 := Tryz.zeroValue20
  t37 := Tryz.underlying64
  a37 := Tryz.isAgg64
  z37 := Tryz.sizeOf64
  v37 := Tryz.zeroValue64
  t70 := Tryz.underlying142
  a70 := Tryz.isAgg142
  z70 := Tryz.sizeOf142
  v70 := Tryz.zeroValue142
  t72 := Tryz.underlying144
  a72 := Tryz.isAgg144
  z72 := Tryz.sizeOf144
  v72 := Tryz.zeroValue144
  t75 := Tryz.underlying148
  a75 := Tryz.isAgg148
  z75 := Tryz.sizeOf148
  v75 := Tryz.zeroValue148
  t164 := Tryz.underlying208
  a164 := Tryz.isAgg208
  z164 := Tryz.sizeOf208
  v164 := Tryz.zeroValue208 }
theorem extra167 : Builder.Extra Tryz.prog ren167 := {
  sizeBuilder := by kernel_rfl
  liesBuilder := by kernel_rfl
  t5 := Tryz.underlying5
  a5 := Tryz.isAgg5
  z5 := Tryz.sizeOf5
  v5 := Tryz.zeroValue5
  infoByte := by kernel_rfl
  cellsByte := by kernel_rfl
  sizeByte := by kernel_rfl
  neB5 := by decide }
def ren169 : Go.Shelf.Ren := ⟨fun | 169 => 109 | n => n, fun | 0 => 0 | 3 => 3 | 9 => 9 | 37 => 64 | 70 => 142 | 72 => 144 | 127 => 181 | 5 => 5 | n => n, fun | n => n⟩
theorem lays169 : Go.Proofs.Lays.n169 Tryz.prog ren169 := {
  mixed := by kernel_rfl
  f169 := Tryz.func109.trans (congrArg some (by kernel_rfl))
  t0 := Tryz.underlying0
  a0 := Tryz.isAgg0
  z0 := Tryz.sizeOf0
  v0 := Tryz.zeroValue0
  t3 := Tryz.underlying3
  a3 := Tryz.isAgg3
  z3 := Tryz.sizeOf3
  v3 := Tryz.zeroValue3
  t9 := Tryz.underlying9
  a9 := Tryz.isAgg9
  z9 := Tryz.sizeOf9
  v9 := Tryz.zeroValue9
  t37 := Tryz.underlying64
  a37 := Tryz.isAgg64
  z37 := Tryz.sizeOf64
  v37 := Tryz.zeroValue64
  t70 := Tryz.underlying142
  a70 := Tryz.isAgg142
  z70 := Tryz.sizeOf142
  v70 := Tryz.zeroValue142
  t72 := Tryz.underlying144
  a72 := Tryz.isAgg144
  z72 := Tryz.sizeOf144
  v72 := Tryz.zeroValue144
  t127 := Tryz.underlying181
  a127 := Tryz.isAgg181
  z127 := Tryz.sizeOf181
  v127 := Tryz.zeroValue181 }
theorem extra169 : Builder.Extra Tryz.prog ren169 := {
  sizeBuilder := by kernel_rfl
  liesBuilder := by kernel_rfl
  t5 := Tryz.underlying5
  a5 := Tryz.isAgg5
  z5 := Tryz.sizeOf5
  v5 := Tryz.zeroValue5
  infoByte := by kernel_rfl
  cellsByte := by kernel_rfl
  sizeByte := by kernel_rfl
  neB5 := by decide }
theorem grow_fresh (B b n : Nat) (w : World) (hB : B ≤ b) (hbk : w.heap[b]? = some (.cells #[.pointer none, .slice none 0 0] 144 (0, 0))) (hBw : B ≤ w.heap.size) (hn : n ≤ 281474976710656) :
    Calls Tryz.prog 104 #[.pointer (some ⟨b, 0, none⟩), .int .i64 n] w fun e w' => e = .returned (.tuple #[]) ∧ (Lib.BuilderAt 144 5 B b (.pointer (some ⟨b, 0, none⟩)) [] w' ∧ Below B w w') := Any.Builder_Grow_fresh lays165 extra165 B b n w hB hbk hBw hn
theorem writeString (B b : Nat) (bs : List Value) (s : ByteArray) (w : World) (h : Lib.IsBuilder 144 5 B b bs w) (hlen : bs.length + s.size ≤ 140737488355328) (hBw : B ≤ w.heap.size) :
    Calls Tryz.prog 107 #[.pointer (some ⟨b, 0, none⟩), .string s] w fun e w' => e = .returned (.tuple #[.int .i64 s.size, .nilIface]) ∧ (Lib.BuilderAt 144 5 B b (.pointer (some ⟨b, 0, none⟩)) (bs ++ Lib.strCells s) w' ∧ Below B w w') := Any.Builder_WriteString lays166 extra166 B b bs s w h hlen hBw
theorem writeByte (B b : Nat) (bs : List Value) (c : Int) (w : World) (h : Lib.IsBuilder 144 5 B b bs w) (hlen : bs.length + 1 ≤ 140737488355328) (hBw : B ≤ w.heap.size) :
    Calls Tryz.prog 108 #[.pointer (some ⟨b, 0, none⟩), .int .u8 c] w fun e w' => e = .returned .nilIface ∧ (Lib.BuilderAt 144 5 B b (.pointer (some ⟨b, 0, none⟩)) (bs ++ [.int .u8 c]) w' ∧ Below B w w') := Any.Builder_WriteByte lays167 extra167 B b bs c w h hlen hBw
theorem builderString (B b : Nat) (l : List UInt8) (w : World) (h : Lib.IsBuilder 144 5 B b (Lib.byteCells l) w) (hBw : B ≤ w.heap.size) :
    Calls Tryz.prog 109 #[.pointer (some ⟨b, 0, none⟩)] w fun e w' => e = .returned (.string ⟨l.toArray⟩) ∧ Below B w w' := Any.Builder_String_any lays169 extra169 B b l w h hBw
end Go.Proofs.YtmnklonoelpidaaGreatDoor
/- A list of texts in memory. -/
namespace Go.Proofs.YtmnklonoelpidaaGreatDoor
open Go.RowKit

/-- the slice at ao lays the texts L -/
def Strs (ao : Option Addr) (L : List (List UInt8)) (w : World) : Prop :=
  L = [] ∨ ∃ b off, ao = some ⟨b, off, none⟩ ∧ b < w.heap.size ∧ ∀ i (h : i < L.length), w.cell? ⟨b, off + i, none⟩ = some (.string ⟨L[i].toArray⟩)
theorem Strs.below {ao : Option Addr} {L : List (List UInt8)} {w w' : World} {B : Nat} (h : Strs ao L w) (hB : w.heap.size ≤ B) (hb : Below B w w') : Strs ao L w' := by
  rcases h with h | ⟨b, off, h1, h2, h3⟩
  · exact .inl h
  · exact .inr ⟨b, off, h1, by have := hb.size; omega, fun i hi => (hb.cell (p := ⟨b, off + i, none⟩) (by show b < B; omega)).trans (h3 i hi)⟩
theorem Strs.cell {ao : Option Addr} {L : List (List UInt8)} {w : World} (h : Strs ao L w) (k : Nat) (hk : k < L.length) : ∃ b off, ao = some ⟨b, off, none⟩ ∧ w.cell? ⟨b, off + k, none⟩ = some (.string ⟨L[k].toArray⟩) := by
  rcases h with h | ⟨b, off, h1, h2, h3⟩
  · subst h; simp at hk
  · exact ⟨b, off, h1, h3 k hk⟩
end Go.Proofs.YtmnklonoelpidaaGreatDoor
/- A frame: its size, its parts, and the frame itself, as the words say, by the program. -/
namespace Go.Proofs.YtmnklonoelpidaaGreatDoor
open Go.RowKit

/-- a part behind its eight bytes of size -/
def partL (p : List UInt8) : List UInt8 := numL p.length ++ p
/-- the frame of a tag and some parts -/
def framed (tag : List UInt8) (ps : List (List UInt8)) : List UInt8 := UInt8.ofNat tag.length :: (tag ++ ps.flatMap partL)
theorem partL_length (p : List UInt8) : (partL p).length = 8 + p.length := by rw [partL, List.length_append, numL_length]
theorem framed_nil (tag : List UInt8) : framed tag [] = UInt8.ofNat tag.length :: tag := by simp [framed]
theorem framed_snoc (tag : List UInt8) (L : List (List UInt8)) (k : Nat) (h : k < L.length) : framed tag (L.take (k + 1)) = framed tag (L.take k) ++ partL L[k] := by
  rw [framed, framed, List.take_succ_eq_append_getElem h, List.flatMap_append]; simp
theorem framed_len (tag : List UInt8) (L : List (List UInt8)) (k : Nat) (h : k < L.length) : (framed tag (L.take (k + 1))).length = (framed tag (L.take k)).length + (8 + L[k].length) := by
  rw [framed_snoc tag L k h, List.length_append, partL_length]
theorem framed_mono (tag : List UInt8) (L : List (List UInt8)) : ∀ k, (framed tag (L.take k)).length ≤ (framed tag L).length := by
  intro k
  have e : L = L.take k ++ L.drop k := (List.take_append_drop k L).symm
  have h : framed tag L = framed tag (L.take k) ++ (L.drop k).flatMap partL := by
    rw [framed, framed]
    conv => lhs; rw [e, List.flatMap_append]
    simp
  rw [h, List.length_append]; omega
theorem framed_count (tag : List UInt8) (L : List (List UInt8)) : ∀ k, k ≤ L.length → 8 * k + tag.length + 1 ≤ (framed tag (L.take k)).length
  | 0, _ => by rw [List.take_zero, framed_nil]; simp
  | k + 1, h => by
    rw [framed_len tag L k (by omega)]
    have := framed_count tag L k (by omega)
    omega

theorem isBuilder_below {T e : TypeId} {B b : Nat} {bs : List Value} {w w' : World} (h : Lib.IsBuilder T e B b bs w) (hb : Below w.heap.size w w') : Lib.IsBuilder T e B b bs w' := by
  have key : ∀ p, Lib.BuilderAt T e B b p bs w → Lib.BuilderAt T e B b p bs w' := by
    rintro p ⟨h1, v, h2, ⟨h3, h4⟩, h5⟩
    refine ⟨h1, v, (hb.block b (Array.getElem?_eq_some_iff.1 h2).1).trans h2, ⟨h3, ?_⟩, h5⟩
    rcases h4 with h4 | ⟨g, cap, cur, e1, e2, e3, e4⟩
    · exact .inl h4
    · exact .inr ⟨g, cap, cur, e1, e2, (hb.block g (Array.getElem?_eq_some_iff.1 e3).1).trans e3, e4⟩
  exact h.elim (fun x => .inl (key _ x)) (fun x => .inr (key _ x))

set_option maxRecDepth 100000 in
set_option maxHeartbeats 1000000 in
theorem frameSize_any (tag : List UInt8) (ao : Option Addr) (cap : Nat) (L : List (List UInt8)) (w : World) (hs : Strs ao L w) (hlen : (framed tag L).length < 100000000000) :
    Calls Tryz.prog 105 #[.string ⟨tag.toArray⟩, .slice ao L.length cap] w fun e w' => e = .returned (.int .i64 ((framed tag L).length : Int)) ∧ w = w' := by
  have HS := Lib.hid hs
  clear hs
  have hc := framed_count tag L L.length (Nat.le_refl _)
  rw [List.take_length] at hc
  go_enter Tryz.func105, Tryz.ntmps105
  go_wp2
  go_loop [5, 7, 13] (fun v _ i => ∃ k m : Nat, k ≤ L.length ∧ i = .int .i64 (k : Int) ∧ v = .int .i64 (m : Int) ∧ Hid ((framed tag (L.take k)).length = m)) (fun _ _ i => L.length - (intOf i).toNat)
  case atStart => exact ⟨0, 1 + tag.length, by omega, rfl, by go_num, Lib.hid (by rw [List.take_zero, framed_nil]; simp; omega)⟩
  case round =>
    obtain ⟨k, m, hk, rfl, rfl, HM⟩ := hrel
    have hm1 := framed_mono tag L k
    rw [HM.out] at hm1
    by_cases hlt : k < L.length
    · obtain ⟨b, off, rfl, hcell⟩ := HS.out.cell k hlt
      have hm2 := framed_mono tag L (k + 1)
      rw [framed_len tag L k hlt, HM.out] at hm2
      have HM2 := Lib.hid (framed_len tag L k hlt)
      obtain ⟨X, hX⟩ : ∃ X, L[k] = X := ⟨_, rfl⟩
      rw [hX] at hcell hm2 HM2
      clear hX
      have k0 : (0 : Int) ≤ (k : Int) := by omega
      have k1 : (k : Int) < (L.length : Int) := by omega
      go_wp2
      go_round
      case rel => exact ⟨k + 1, m + (8 + X.length), by omega, by go_num, by go_num, Lib.hid (by rw [HM2.out, HM.out])⟩
      case measure => simp [intOf]; omega
    · have ek : k = L.length := by omega
      subst ek
      have HE := Lib.hid (show (framed tag L).length = m by rw [← HM.out, List.take_length])
      clear HM
      go_wp2
      go_ret
      exact ⟨by rw [HE.out]; rfl, rfl⟩

theorem bytes_snoc (l : List UInt8) (X : List UInt8) : Lib.byteCells l ++ Lib.strCells ⟨X.toArray⟩ = Lib.byteCells (l ++ X) := by rw [Lib.byteCells_append]; rfl

set_option maxRecDepth 100000 in
set_option maxHeartbeats 1000000 in
theorem lay_any (B b : Nat) (l X : List UInt8) (w : World) (h : Lib.IsBuilder 144 5 B b (Lib.byteCells l) w) (hB : B ≤ w.heap.size) (hlen : l.length + X.length < 200000000000) :
    Calls Tryz.prog 106 #[.string ⟨X.toArray⟩, .pointer (some ⟨b, 0, none⟩)] w fun e w' => e = .returned (.tuple #[]) ∧ Lib.IsBuilder 144 5 B b (Lib.byteCells (l ++ partL X)) w' ∧ Below B w w' := by
  have hl1 := Lib.byteCells_length l
  go_enter Tryz.func106, Tryz.ntmps106
  go_wp2_with fail
  refine (num_any X.length w).mono ?_
  rintro e w1 ⟨rfl, hB1⟩
  have h1 := isBuilder_below h hB1
  have hn8 : (numL X.length).length = 8 := numL_length _
  have hb1 : Below B w w1 := hB1.mono hB
  have s1 := hb1.size
  go_wp2_with fail
  refine (writeString B b _ ⟨(numL X.length).toArray⟩ w1 h1 (by show (Lib.byteCells l).length + (numL X.length).length ≤ _; omega) (by omega)).mono ?_
  rintro e w2 ⟨rfl, h2, hb2⟩
  rw [bytes_snoc] at h2
  have hl2 := Lib.byteCells_length (l ++ numL X.length)
  rw [List.length_append] at hl2
  have s2 := hb2.size
  go_wp2_with fail
  refine (writeString B b _ ⟨X.toArray⟩ w2 (.inr h2) (by show (Lib.byteCells (l ++ numL X.length)).length + X.length ≤ _; omega) (by omega)).mono ?_
  rintro e w3 ⟨rfl, h3, hb3⟩
  rw [bytes_snoc, List.append_assoc] at h3
  go_wp2
  refine bodyPost_end (results_none rfl _ _ _) rfl ?_
  exact ⟨rfl, .inr h3, (hb1.trans hb2).trans hb3⟩

set_option maxRecDepth 100000 in
set_option maxHeartbeats 1000000 in
theorem frame_any (tag : List UInt8) (ao : Option Addr) (cap : Nat) (L : List (List UInt8)) (w : World) (hs : Strs ao L w) (h1 : 1 ≤ tag.length) (h16 : tag.length ≤ 16) (hlen : (framed tag L).length < 100000000000) :
    Calls Tryz.prog 77 #[.string ⟨tag.toArray⟩, .slice ao L.length cap] w fun e w' => e = .returned (.string ⟨(framed tag L).toArray⟩) ∧ Below w.heap.size w w' := by
  have hc := framed_count tag L L.length (Nat.le_refl _)
  rw [List.take_length] at hc
  have HS := Lib.hid hs
  clear hs
  go_enter Tryz.func77, Tryz.ntmps77
  go_wp2_with fail
  obtain ⟨w0, hw0⟩ : ∃ w0, w.alloc (.cells #[.pointer none, .slice none 0 0] 144) = w0 := ⟨_, rfl⟩
  have hrow0 : w0.heap[w.heap.size]? = some (.cells #[.pointer none, .slice none 0 0] 144 (0, 0)) := by rw [← hw0]; exact heap_alloc_new w _
  have hb0 : Below w.heap.size w w0 := by rw [← hw0]; exact (Below.refl _ _).alloc (Nat.le_refl _) _
  rw [hw0]
  clear hw0
  have z0 := hb0.size
  refine (frameSize_any tag ao cap L w0 (HS.out.below (Nat.le_refl _) hb0) hlen).mono ?_
  rintro e wx ⟨rfl, rfl⟩
  go_wp2_with fail
  refine (grow_fresh w.heap.size w.heap.size (framed tag L).length w0 (Nat.le_refl _) hrow0 z0 (by omega)).mono ?_
  rintro e w1 ⟨rfl, hI1, hb1⟩
  clear hrow0
  have z1 := hb1.size
  go_wp2_with fail
  refine (writeByte w.heap.size w.heap.size [] (tag.length : Int) w1 (.inr hI1) (by simp) (by omega)).mono ?_
  rintro e w2 ⟨rfl, hI2, hb2⟩
  have e2 : ([] : List Value) ++ [.int .u8 (tag.length : Int)] = Lib.byteCells [UInt8.ofNat tag.length] := by
    have : (tag.length : Int) = ((UInt8.ofNat tag.length).toNat : Int) := by rw [UInt8.toNat_ofNat']; omega
    rw [this]; rfl
  rw [e2] at hI2
  clear e2
  have z2 := hb2.size
  go_wp2_with fail
  refine (writeString w.heap.size w.heap.size (Lib.byteCells [UInt8.ofNat tag.length]) ⟨tag.toArray⟩ w2 (.inr hI2) (by show 1 + tag.length ≤ _; omega) (by omega)).mono ?_
  rintro e w3 ⟨rfl, hI3, hb3⟩
  rw [bytes_snoc, List.singleton_append, ← framed_nil] at hI3
  have hb03 : Below w.heap.size w w3 := ((hb0.trans hb1).trans hb2).trans hb3
  clear hI1 hI2 hb0 hb1 hb2 hb3 z0 z1 z2
  go_wp2
  go_loopw [8, 30] (fun _ i wr => ∃ k : Nat, ∃ T : List UInt8, k ≤ L.length ∧ i = .int .i64 (k : Int) ∧ Hid (T = framed tag (L.take k)) ∧ Lib.IsBuilder 144 5 w.heap.size w.heap.size (Lib.byteCells T) wr ∧ Below w.heap.size w wr)
    (fun _ i _ => L.length - (intOf i).toNat)
  case atStart => exact ⟨0, _, by omega, rfl, Lib.hid (by rw [List.take_zero]), .inr hI3, hb03⟩
  case round =>
    clear hI3 hb03
    obtain ⟨k, T, hk, rfl, HT, hI, hb⟩ := hrel
    have hm1 := framed_mono tag L k
    rw [← HT.out] at hm1
    have z := hb.size
    by_cases hlt : k < L.length
    · obtain ⟨b, off, rfl, hcell⟩ := (HS.out.below (Nat.le_refl _) hb).cell k hlt
      have hm2 := framed_mono tag L (k + 1)
      rw [framed_len tag L k hlt, ← HT.out] at hm2
      have HT2 := Lib.hid (framed_snoc tag L k hlt)
      obtain ⟨X, hX⟩ : ∃ X, L[k] = X := ⟨_, rfl⟩
      rw [hX] at hcell hm2 HT2
      clear hX
      have k0 : (0 : Int) ≤ (k : Int) := by omega
      have k1 : (k : Int) < (L.length : Int) := by omega
      go_wp2_with fail
      refine (lay_any w.heap.size w.heap.size T X wr hI z (by omega)).mono ?_
      rintro e w4 ⟨rfl, hI4, hb4⟩
      go_wp2
      go_roundw
      case rel => exact ⟨k + 1, T ++ partL X, by omega, by go_num, Lib.hid (by rw [HT2.out, HT.out]), hI4, hb.trans hb4⟩
      case measure => simp [intOf]; omega
    · have ek : k = L.length := by omega
      subst ek
      have HE := Lib.hid (show T = framed tag L by rw [HT.out, List.take_length])
      clear HT
      go_wp2_with fail
      refine (builderString w.heap.size w.heap.size T wr hI z).mono ?_
      rintro e w4 ⟨rfl, hb4⟩
      go_wp2
      go_ret
      exact ⟨by rw [HE.out]; rfl, hb.trans hb4⟩
end Go.Proofs.YtmnklonoelpidaaGreatDoor
/- Write takes the text in: behind it the hasher has read the old text and the new one, for lengths below ten to the twelfth. -/
namespace Go.Proofs.YtmnklonoelpidaaGreatDoor
open Go.RowKit

theorem row_cell {w : World} {b : Nat} {L : List Value} {t : TypeId} (h : w.heap[b]? = some (.cells L.toArray t (0, 0))) (i : Nat) : w.cell? ⟨b, i, none⟩ = L[i]? := by
  rw [cell_of_row w b i _ t _ h, List.getElem?_toArray]
theorem row_free {w : World} {b : Nat} {L : List Value} {t : TypeId} (h : w.heap[b]? = some (.cells L.toArray t (0, 0))) (i : Nat) : w.frozen? ⟨b, i, none⟩ = false := frozen_of_row w b i _ t h

theorem isSome_getElem? (L : List Value) (i : Nat) (h : i < L.length) : (L[i]?).isSome = true := by rw [List.getElem?_eq_getElem h]; rfl
theorem min_of (a b : Nat) : ∃ m, Nat.min a b = m ∧ m ≤ a ∧ m ≤ b ∧ (m = a ∨ m = b) :=
  ⟨_, rfl, Nat.min_le_left a b, Nat.min_le_right a b, (Nat.le_total a b).elim (fun h => .inl (Nat.min_eq_left h)) (fun h => .inr (Nat.min_eq_right h))⟩
theorem extract_end (Y : List UInt8) (m : Nat) : (⟨Y.toArray⟩ : ByteArray).extract m Y.length = ⟨(Y.drop m).toArray⟩ := by
  apply ByteArray.ext
  rw [ByteArray.data_extract]
  simp [List.take_of_length_le]
theorem w8_one (s : St) : (w8 s).toArray.all (·.oneCell') = true := by simp [w8, Value.oneCell']
/-- how many bytes a string has -/
def strLen : Value → Nat | .string s => s.size | _ => 0
theorem szof5 (w : World) : (Go.sizeOf 5).run Tryz.prog w = .ok 1 w := by kernel_rfl

set_option maxRecDepth 100000 in
set_option maxHeartbeats 1000000 in
theorem write_any (b : Nat) (T S : List UInt8) (w : World) (hH : Has b T w) (hg : Glob w) (hb : 2 ≤ b) (hlen : T.length + S.length < 1000000000000) :
    Calls Tryz.prog 111 #[.pointer (some ⟨b, 0, none⟩), .string ⟨S.toArray⟩] w fun e w' => e = .returned (.tuple #[]) ∧ Has b (T ++ S) w' ∧ But b w w' := by
  have HH := Lib.hid hH
  clear hH
  go_enter Tryz.func111, Tryz.ntmps111
  go_wp2
  go_loopw [1, 4] (fun s _ wr => ∃ X Y : List UInt8, Hid (S = X ++ Y) ∧ s = .string ⟨Y.toArray⟩ ∧ Hid (Has b (T ++ X) wr) ∧ But b w wr) (fun s _ _ => strLen s)
  case atStart => exact ⟨[], S, Lib.hid rfl, rfl, by simpa using HH, But.refl _ _⟩
  case round =>
    obtain ⟨X, Y, HS, rfl, HX, hbut⟩ := hrel
    by_cases hy : Y = []
    · subst hy
      have hsx := HS.out
      rw [List.append_nil] at hsx
      go_wp2
      go_end0
      exact ⟨rfl, by rw [hsx]; exact HX.out, hbut⟩
    · have hy0 : 0 < Y.length := List.length_pos_iff.2 hy
      clear hy
      obtain ⟨O, hO, hOt, hrow⟩ := HX.out
      obtain ⟨n, hn⟩ : ∃ n, (T ++ X).length = n := ⟨_, rfl⟩
      obtain ⟨st, hst⟩ : ∃ st, hw (T ++ X) (n / 64) = st := ⟨_, rfl⟩
      obtain ⟨r, hr⟩ : ∃ r, n % 64 = r := ⟨_, rfl⟩
      obtain ⟨m, hm, hm1', hm2', hmx'⟩ := min_of Y.length (64 - r)
      have hm1 := Lib.hid hm1'
      have hm2 := Lib.hid hm2'
      have hmx := Lib.hid hmx'
      clear hm1' hm2' hmx'
      have hr64 : r < 64 := by omega
      have hnm : n + Y.length < 1000000000000 := by have h1 := congrArg List.length HS.out; rw [List.length_append] at hn h1; omega
      rw [hn, hst] at hrow
      rw [hn, hr] at hOt
      have c72 : wr.cell? ⟨b, 72, none⟩ = some (.int .u64 (n : Int)) := by rw [row_cell hrow, hcells_at72 _ _ _ hO]
      have e1 : (n : Int).tmod 64 = (r : Int) := by rw [Int.tmod_eq_emod_of_nonneg (by omega)]; omega
      have e2 : (0 : Int) ≤ (r : Int) := by omega
      have e3 : (r : Int) ≤ 64 := by omega
      have e4 : (r : Int) < 64 := by omega
      have e5 : (r : Nat) ≤ 64 := by omega
      have HO := Lib.hid hO
      have HOt := Lib.hid hOt
      have Hrow := Lib.hid hrow
      have Hn := Lib.hid hn
      have Hst := Lib.hid hst
      have Hr := Lib.hid hr
      have Hm := Lib.hid hm
      clear hO hOt hrow hn hst hr hm
      go_wp2
      go_still_tail 10, (by kernel_rfl)
      change wpList _ _ _ _ _ wr.drew
      have Hmin : Nat.min (⟨Y.toArray⟩ : ByteArray).size (64 - r) = m := Hm.out
      refine wpList_copy_str rfl (.tmp 18) (.tmp 19) 64 9 rfl 5 Tryz.underlying64 szof5 b (8 + r) (64 - r) (64 - r) ?hd ⟨Y.toArray⟩ ?hx m Hmin ?hc ?hf ?hnext
      case hd => simp [Act.eval]; omega
      case hx => rfl
      case hc =>
        intro j hj
        have := hm2.out
        rw [World.cell?_drew, row_cell Hrow.out]
        exact isSome_getElem? _ _ (by rw [hcells_length _ _ _ HO.out]; omega)
      case hf => intro j _; rw [World.frozen?_drew]; exact row_free Hrow.out _
      case hnext =>
        obtain ⟨Z, hZ⟩ : ∃ Z, Y.take m = Z := ⟨_, rfl⟩
        have hZl : Hid (Z.length = m) := Lib.hid (by rw [← hZ, List.length_take]; have := hm1.out; omega)
        have hrow2 : (wr.drew.setCells b (8 + r) (cellsOf Z)).heap[b]? = some (.cells (hcells st (splice O r Z) n).toArray 185 (0, 0)) := by
          rw [← hcells_open st O n r Z HO.out (by have := hZl.out; have := hm2.out; omega)]
          exact heap_setCells_row _ _ _ _ Hrow.out (by rw [hcells_length _ _ _ HO.out, cellsOf_length]; have := hZl.out; have := hm2.out; omega)
        have hbut2 := hbut.drew.setCells (8 + r) (cellsOf Z)
        have eW : wr.drew.setCells b (8 + r) (cellsOf ((⟨Y.toArray⟩ : ByteArray).data.toList.take m)) = wr.drew.setCells b (8 + r) (cellsOf Z) := by rw [← hZ]
        rw [eW]
        clear eW
        generalize wr.drew.setCells b (8 + r) (cellsOf Z) = w2 at *
        have HZ := Lib.hid hZ
        clear hZ c72 e1 hbut Hmin
        have c72 : w2.cell? ⟨b, 72, none⟩ = some (.int .u64 (n : Int)) := by rw [row_cell hrow2, hcells_at72 _ _ _ (by rw [length_splice _ _ _ (by have := hZl.out; have := hm2.out; have := HO.out; omega)]; exact HO.out)]
        have f72 : w2.frozen? ⟨b, 72, none⟩ = false := row_free hrow2 72
        have Hrow2 := Lib.hid hrow2
        clear hrow2
        have hmY : (m : Int) ≤ (Y.length : Int) := by have := hm1.out; omega
        have hmY2 : m ≤ Y.length := hm1.out
        have hm64 : m ≤ 64 := by have := hm2.out; omega
        have eY := Lib.hid (extract_end Y m)
        have eS : Hid (S = (X ++ Z) ++ Y.drop m) := Lib.hid (by rw [HS.out, List.append_assoc, ← HZ.out, List.take_append_drop])
        have eN : Hid ((T ++ (X ++ Z)).length = n + m) := Lib.hid (by rw [← List.append_assoc, List.length_append, Hn.out, hZl.out])
        have hO2 : Hid ((splice O r Z).length = 64) := Lib.hid (by rw [length_splice _ _ _ (by have := hZl.out; have := hm2.out; have := HO.out; omega)]; exact HO.out)
        have Hrow3 : Hid ((w2.setCell ⟨b, 72, none⟩ (.int .u64 ((n : Int) + (m : Int)))).heap[b]? = some (.cells (hcells st (splice O r Z) (n + m)).toArray 185 (0, 0))) := Lib.hid (by
          rw [heap_setCell_same w2 b 72 _ 185 _ Hrow2.out, List.setIfInBounds_toArray, show ((n : Int) + (m : Int)) = ((n + m : Nat) : Int) from rfl, hcells_size _ _ _ _ hO2.out])
        have hbut3 := hbut2.setCell 72 (.int .u64 ((n : Int) + (m : Int)))
        have hm0 : Hid (0 < m) := Lib.hid (by have := hmx.out; omega)
        by_cases hfull : r + m < 64
        · have t1 : ((n : Int) + (m : Int)) % 64 = ((r + m : Nat) : Int) := by have := Hr.out; omega
          have t2 : (((r + m : Nat) : Int) == 0) = false := beq_eq_false_iff_ne.2 (by have := hm0.out; omega)
          have tk := take_in (T ++ X) O Z HO.out (by rw [Hn.out, Hr.out]; exact HOt.out) (by rw [Hn.out, Hr.out, hZl.out]; exact hfull)
          rw [List.append_assoc, eN.out, Hn.out, Hst.out, Hr.out] at tk
          have TK := Lib.hid tk
          clear tk
          go_wp2
          go_roundw
          case rel =>
            exact ⟨X ++ Z, Y.drop m, eS, congrArg Value.string eY.out, Lib.hid ⟨splice O r Z, hO2.out, by rw [eN.out]; exact TK.out.1, by rw [eN.out, TK.out.2.1]; exact Hrow3.out⟩, hbut3⟩
          case measure =>
            show ((⟨Y.toArray⟩ : ByteArray).extract m Y.length).size < Y.length
            rw [eY.out]
            show (Y.drop m).length < Y.length
            rw [List.length_drop]
            have := hm0.out
            omega
        · have t1 : ((n : Int) + (m : Int)) % 64 = 0 := by have := Hr.out; have := hm2.out; omega
          have hfl : r + m = 64 := by have := hm2.out; omega
          have tk := take_full (T ++ X) O Z HO.out (by rw [Hn.out, Hr.out]; exact HOt.out) (by rw [Hn.out, Hr.out, hZl.out]; exact hfl)
          rw [List.append_assoc, eN.out, Hn.out, Hst.out, Hr.out] at tk
          have TK := Lib.hid tk
          clear tk hfl
          go_wp2
          clear t1 c72 f72
          have hgb : Glob (w2.setCell ⟨b, 72, none⟩ (.int .u64 ((n : Int) + (m : Int)))) := hg.below (Nat.le_refl 2) (hbut3.below (by have := hg.size; omega) hb)
          generalize w2.setCell ⟨b, 72, none⟩ (.int .u64 ((n : Int) + (m : Int))) = w3 at *
          have hr0 : w3.drew.rangeAt b 0 (w8 st) := fun j v hj => by
            rw [World.cell?_drew, row_cell Hrow3.out, Nat.zero_add, hcells, List.getElem?_append_left (List.getElem?_eq_some_iff.1 hj).1]; exact hj
          have hr8 : w3.drew.rangeAt b 8 (cellsOf (splice O r Z)) := fun j v hj => by
            have hjl := (List.getElem?_eq_some_iff.1 hj).1
            rw [World.cell?_drew, row_cell Hrow3.out, hcells, List.getElem?_append_right (by rw [w8_length]; omega), w8_length, Nat.add_sub_cancel_left, List.getElem?_append_left hjl]; exact hj
          have hi43 : (Tryz.prog.info? 183).map (·.size) = some (cellsOf (splice O r Z)).length := by rw [cellsOf_length, hO2.out]; kernel_rfl
          refine wp_region_any (by kernel_rfl) ?_
          change wpAny _ _ _ _ _ _ _ (World.drew _)
          refine wpAny_take (i := 0) (oi := ⟨some 39, .move (.tmp 0), _, _, _, none⟩) (v := .pointer (some ⟨b, 0, none⟩)) rfl (by kernel_rfl) (by kernel_rfl) (by kernel_rfl) (fun _ _ _ h => h) (Or.inl ⟨by rfl, fun _ => rfl⟩) ?_
          simp only [Act.put, List.setIfInBounds_toArray, List.set_cons_succ, List.set_cons_zero]
          refine wpAny_take (i := 1) (oi := ⟨some 40, .move (.tmp 0), _, _, _, none⟩) (v := .pointer (some ⟨b, 0, none⟩)) rfl (by kernel_rfl) (by kernel_rfl) (by kernel_rfl) (fun _ _ _ h => h) (Or.inl ⟨by rfl, fun _ => rfl⟩) ?_
          simp only [Act.put, List.setIfInBounds_toArray, List.set_cons_succ, List.set_cons_zero]
          refine wpAny_take (i := 2) (oi := ⟨some 41, .nilCheck (.tmp 40), _, _, _, none⟩) (v := .pointer (some ⟨b, 0, none⟩)) rfl (by kernel_rfl) (by kernel_rfl) (by kernel_rfl) (fun _ _ _ h => h) (Or.inl ⟨by rfl, fun _ => rfl⟩) ?_
          simp only [Act.put, List.setIfInBounds_toArray, List.set_cons_succ, List.set_cons_zero]
          refine wpAny_take (i := 3) (oi := ⟨some 42, .fieldAddr 185 (.tmp 41) 0, _, _, _, none⟩) (v := .pointer (some ⟨b, 0, none⟩)) rfl (by kernel_rfl) (by kernel_rfl) (by kernel_rfl) (fun _ _ _ h => h) (Or.inl ⟨by rfl, fun _ => by kernel_rfl⟩) ?_
          simp only [Act.put, List.setIfInBounds_toArray, List.set_cons_succ, List.set_cons_zero]
          refine wpAny_take (i := 5) (oi := ⟨some 44, .move (.tmp 0), _, _, _, none⟩) (v := .pointer (some ⟨b, 0, none⟩)) rfl (by kernel_rfl) (by kernel_rfl) (by kernel_rfl) (fun _ _ _ h => h) (Or.inl ⟨by rfl, fun _ => rfl⟩) ?_
          simp only [Act.put, List.setIfInBounds_toArray, List.set_cons_succ, List.set_cons_zero]
          refine wpAny_take (i := 6) (oi := ⟨some 45, .nilCheck (.tmp 44), _, _, _, none⟩) (v := .pointer (some ⟨b, 0, none⟩)) rfl (by kernel_rfl) (by kernel_rfl) (by kernel_rfl) (fun _ _ _ h => h) (Or.inl ⟨by rfl, fun _ => rfl⟩) ?_
          simp only [Act.put, List.setIfInBounds_toArray, List.set_cons_succ, List.set_cons_zero]
          refine wpAny_take (i := 7) (oi := ⟨some 46, .fieldAddr 185 (.tmp 45) 1, _, _, _, none⟩) (v := .pointer (some ⟨b, 8, none⟩)) rfl (by kernel_rfl) (by kernel_rfl) (by kernel_rfl) (fun _ _ _ h => h) (Or.inl ⟨by rfl, fun _ => by kernel_rfl⟩) ?_
          simp only [Act.put, List.setIfInBounds_toArray, List.set_cons_succ, List.set_cons_zero]
          have hgd : Glob w3.drew := ⟨hgb.size, hgb.iv, hgb.k⟩
          refine wpAny_ready (rs := [4, 8]) (by kernel_rfl) (by simp) (AllReady.cons (o := ⟨some 43, .load 182 (.tmp 42), _, _, _, none⟩) rfl (fun K hK => ?_) (AllReady.cons (o := ⟨some 47, .load 183 (.tmp 46), _, _, _, none⟩) rfl (fun K hK => ?_) AllReady.nil))
          · rw [if_pos (by rfl)]
            refine wp_load_mid 182 (.tmp 42) rfl b 0 rfl (w8 st) _ hr0 Tryz.underlying182 rfl (by kernel_rfl) (hK _ _ ?_)
            clear hK K
            simp only [Act.put, List.setIfInBounds_toArray, List.set_cons_succ, List.set_cons_zero]
            refine wpAny_ready (rs := [8]) (by kernel_rfl) (by simp) (AllReady.cons (o := ⟨some 47, .load 183 (.tmp 46), _, _, _, none⟩) rfl (fun K hK => ?_) AllReady.nil)
            rw [if_pos (by rfl)]
            refine wp_load_mid 183 (.tmp 46) rfl b 8 rfl (cellsOf (splice O r Z)) _ hr8 Tryz.underlying183 rfl hi43 (hK _ _ ?_)
            clear hK K
            simp only [Act.put, List.setIfInBounds_toArray, List.set_cons_succ, List.set_cons_zero]
            refine wpAny_ready (rs := [9]) (by kernel_rfl) (by simp) (AllReady.cons (o := ⟨some 48, .call ⟨.value (.func 139), #[.tmp 43, .tmp 47], #[182, 183]⟩, _, _, _, none⟩) rfl (fun K hK => ?_) AllReady.nil)
            have HK := Lib.hid hK
            clear hK
            go_simp
            refine (with_any st (splice O r Z) hO2.out _ hgd).mono ?_
            rintro e w4 ⟨rfl, hb4⟩
            refine HK.out _ _ ?_
            clear HK K
            try simp only [Act.put, List.setIfInBounds_toArray, List.set_cons_succ, List.set_cons_zero]
            refine wpAny_take (i := 10) (oi := ⟨some 49, .nilCheck (.tmp 39), _, _, _, none⟩) (v := .pointer (some ⟨b, 0, none⟩)) rfl (by kernel_rfl) (by kernel_rfl) (by kernel_rfl) (fun _ _ _ h => h) (Or.inl ⟨by rfl, fun _ => rfl⟩) ?_
            simp only [Act.put, List.setIfInBounds_toArray, List.set_cons_succ, List.set_cons_zero]
            refine wpAny_take (i := 11) (oi := ⟨some 50, .fieldAddr 185 (.tmp 49) 0, _, _, _, none⟩) (v := .pointer (some ⟨b, 0, none⟩)) rfl (by kernel_rfl) (by kernel_rfl) (by kernel_rfl) (fun _ _ _ h => h) (Or.inl ⟨by rfl, fun _ => by kernel_rfl⟩) ?_
            simp only [Act.put, List.setIfInBounds_toArray, List.set_cons_succ, List.set_cons_zero]
            have hbs : b < w3.heap.size := by
              have := (Array.getElem?_eq_some_iff.1 Hrow3.out).1
              exact this
            have hrow4 : w4.heap[b]? = some (.cells (hcells st (splice O r Z) (n + m)).toArray 185 (0, 0)) := (hb4.block b hbs).trans Hrow3.out
            have hth : w4.there b 0 8 := fun j hj => ⟨by rw [row_cell hrow4]; exact isSome_getElem? _ _ (by rw [hcells_length _ _ _ hO2.out]; omega), row_free hrow4 _⟩
            refine wpAny_ready (rs := [12]) (by kernel_rfl) (by simp) (AllReady.cons (o := ⟨none, .store 182 (.tmp 50) (.tmp 48), _, _, _, none⟩) rfl (fun K hK => ?_) AllReady.nil)
            rw [if_pos (by rfl)]
            refine wp_store_mid 182 (.tmp 50) (.tmp 48) rfl b 0 (w8 (comp st (splice O r Z))).toArray rfl rfl hth (by kernel_rfl) (w8_one _) (hK _ _ ?_)
            clear hK K
            refine wpAny_done (by kernel_rfl) ?_ _
            have hrow5 := heap_setCells_row (w8 (comp st (splice O r Z))) 0 _ w4 hrow4 (by rw [hcells_length _ _ _ hO2.out, w8_length]; omega)
            rw [hcells_words] at hrow5
            have Hrow5 := Lib.hid hrow5
            have hbut5 : But b w (w4.setCells b 0 (w8 (comp st (splice O r Z)))) := (hbut3.drew.trans (But.of_below hb4)).setCells 0 _
            clear hrow4 hrow5 hth hb4
            simp only [Act.put]
            generalize w4.setCells b 0 (w8 (comp st (splice O r Z))) = w5 at *
            go_wp2
            go_roundw
            case rel =>
              exact ⟨X ++ Z, Y.drop m, eS, congrArg Value.string eY.out, Lib.hid ⟨splice O r Z, hO2.out, by rw [eN.out, TK.out.1, TK.out.2.1]; rfl, by rw [eN.out, TK.out.2.2]; exact Hrow5.out⟩, hbut5⟩
            case measure =>
              show ((⟨Y.toArray⟩ : ByteArray).extract m Y.length).size < Y.length
              rw [eY.out]
              show (Y.drop m).length < Y.length
              rw [List.length_drop]
              have := hm0.out
              omega
          · rw [if_pos (by rfl)]
            refine wp_load_mid 183 (.tmp 46) rfl b 8 rfl (cellsOf (splice O r Z)) _ hr8 Tryz.underlying183 rfl hi43 (hK _ _ ?_)
            clear hK K
            simp only [Act.put, List.setIfInBounds_toArray, List.set_cons_succ, List.set_cons_zero]
            refine wpAny_ready (rs := [4]) (by kernel_rfl) (by simp) (AllReady.cons (o := ⟨some 43, .load 182 (.tmp 42), _, _, _, none⟩) rfl (fun K hK => ?_) AllReady.nil)
            rw [if_pos (by rfl)]
            refine wp_load_mid 182 (.tmp 42) rfl b 0 rfl (w8 st) _ hr0 Tryz.underlying182 rfl (by kernel_rfl) (hK _ _ ?_)
            clear hK K
            simp only [Act.put, List.setIfInBounds_toArray, List.set_cons_succ, List.set_cons_zero]
            refine wpAny_ready (rs := [9]) (by kernel_rfl) (by simp) (AllReady.cons (o := ⟨some 48, .call ⟨.value (.func 139), #[.tmp 43, .tmp 47], #[182, 183]⟩, _, _, _, none⟩) rfl (fun K hK => ?_) AllReady.nil)
            have HK := Lib.hid hK
            clear hK
            go_simp
            refine (with_any st (splice O r Z) hO2.out _ hgd).mono ?_
            rintro e w4 ⟨rfl, hb4⟩
            refine HK.out _ _ ?_
            clear HK K
            try simp only [Act.put, List.setIfInBounds_toArray, List.set_cons_succ, List.set_cons_zero]
            refine wpAny_take (i := 10) (oi := ⟨some 49, .nilCheck (.tmp 39), _, _, _, none⟩) (v := .pointer (some ⟨b, 0, none⟩)) rfl (by kernel_rfl) (by kernel_rfl) (by kernel_rfl) (fun _ _ _ h => h) (Or.inl ⟨by rfl, fun _ => rfl⟩) ?_
            simp only [Act.put, List.setIfInBounds_toArray, List.set_cons_succ, List.set_cons_zero]
            refine wpAny_take (i := 11) (oi := ⟨some 50, .fieldAddr 185 (.tmp 49) 0, _, _, _, none⟩) (v := .pointer (some ⟨b, 0, none⟩)) rfl (by kernel_rfl) (by kernel_rfl) (by kernel_rfl) (fun _ _ _ h => h) (Or.inl ⟨by rfl, fun _ => by kernel_rfl⟩) ?_
            simp only [Act.put, List.setIfInBounds_toArray, List.set_cons_succ, List.set_cons_zero]
            have hbs : b < w3.heap.size := by
              have := (Array.getElem?_eq_some_iff.1 Hrow3.out).1
              exact this
            have hrow4 : w4.heap[b]? = some (.cells (hcells st (splice O r Z) (n + m)).toArray 185 (0, 0)) := (hb4.block b hbs).trans Hrow3.out
            have hth : w4.there b 0 8 := fun j hj => ⟨by rw [row_cell hrow4]; exact isSome_getElem? _ _ (by rw [hcells_length _ _ _ hO2.out]; omega), row_free hrow4 _⟩
            refine wpAny_ready (rs := [12]) (by kernel_rfl) (by simp) (AllReady.cons (o := ⟨none, .store 182 (.tmp 50) (.tmp 48), _, _, _, none⟩) rfl (fun K hK => ?_) AllReady.nil)
            rw [if_pos (by rfl)]
            refine wp_store_mid 182 (.tmp 50) (.tmp 48) rfl b 0 (w8 (comp st (splice O r Z))).toArray rfl rfl hth (by kernel_rfl) (w8_one _) (hK _ _ ?_)
            clear hK K
            refine wpAny_done (by kernel_rfl) ?_ _
            have hrow5 := heap_setCells_row (w8 (comp st (splice O r Z))) 0 _ w4 hrow4 (by rw [hcells_length _ _ _ hO2.out, w8_length]; omega)
            rw [hcells_words] at hrow5
            have Hrow5 := Lib.hid hrow5
            have hbut5 : But b w (w4.setCells b 0 (w8 (comp st (splice O r Z)))) := (hbut3.drew.trans (But.of_below hb4)).setCells 0 _
            clear hrow4 hrow5 hth hb4
            simp only [Act.put]
            generalize w4.setCells b 0 (w8 (comp st (splice O r Z))) = w5 at *
            go_wp2
            go_roundw
            case rel =>
              exact ⟨X ++ Z, Y.drop m, eS, congrArg Value.string eY.out, Lib.hid ⟨splice O r Z, hO2.out, by rw [eN.out, TK.out.1, TK.out.2.1]; rfl, by rw [eN.out, TK.out.2.2]; exact Hrow5.out⟩, hbut5⟩
            case measure =>
              show ((⟨Y.toArray⟩ : ByteArray).extract m Y.length).size < Y.length
              rw [eY.out]
              show (Y.drop m).length < Y.length
              rw [List.length_drop]
              have := hm0.out
              omega
end Go.Proofs.YtmnklonoelpidaaGreatDoor
/- New has read nothing; Sum answers the sum of what was read and changes nothing that was there. -/
namespace Go.Proofs.YtmnklonoelpidaaGreatDoor
open Go.RowKit

/-- a hasher's cells, all nought -/
def Z45 : Array Value := (hcells ⟨0, 0, 0, 0, 0, 0, 0, 0⟩ (List.replicate 64 0) 0).toArray
theorem zero45 (w : World) : (zeroValue 185).run Tryz.prog w = .ok (.agg Z45) w := by kernel_rfl
theorem size45 : Z45.size = 73 := by kernel_rfl
theorem fill45 : ((((((((Z45.setIfInBounds 0 (Value.int IntKind.u32 (tn (IV.at 0)))).setIfInBounds 1 (Value.int IntKind.u32 (tn (IV.at 1)))).setIfInBounds 2 (Value.int IntKind.u32 (tn (IV.at 2)))).setIfInBounds 3 (Value.int IntKind.u32 (tn (IV.at 3)))).setIfInBounds 4 (Value.int IntKind.u32 (tn (IV.at 4)))).setIfInBounds 5 (Value.int IntKind.u32 (tn (IV.at 5)))).setIfInBounds 6 (Value.int IntKind.u32 (tn (IV.at 6)))).setIfInBounds 7 (Value.int IntKind.u32 (tn (IV.at 7)))) = (hcells IV (List.replicate 64 0) 0).toArray := by kernel_rfl

set_option maxRecDepth 100000 in
set_option maxHeartbeats 1000000 in
theorem new_any (w : World) (hg : Glob w) :
    Calls Tryz.prog 110 #[] w fun e w' => e = .returned (.pointer (some ⟨w.heap.size, 0, none⟩)) ∧ Has w.heap.size [] w' ∧ Below w.heap.size w w' := by
  have v0 := hg.iv 0 (by omega)
  have v1 := hg.iv 1 (by omega)
  have v2 := hg.iv 2 (by omega)
  have v3 := hg.iv 3 (by omega)
  have v4 := hg.iv 4 (by omega)
  have v5 := hg.iv 5 (by omega)
  have v6 := hg.iv 6 (by omega)
  have v7 := hg.iv 7 (by omega)
  have hz := zero45
  have hs := size45
  go_enter Tryz.func110, Tryz.ntmps110
  go_wp2
  go_ret
  refine ⟨rfl, ⟨List.replicate 64 0, by simp, by simp, ?_⟩, (Below.refl _ _).alloc (Nat.le_refl _) _⟩
  rw [heap_alloc_new, fill45]
  rfl

theorem hcells_one (s : St) (O : List UInt8) (n : Nat) : (hcells s O n).toArray.all (·.oneCell') = true := by
  apply all_oneCell_toArray
  intro v hv
  simp only [hcells, w8, cellsOf, List.mem_append, List.mem_map, List.mem_cons, List.not_mem_nil, or_false] at hv
  rcases hv with h | ⟨x, _, rfl⟩ | rfl
  · rcases h with rfl | rfl | rfl | rfl | rfl | rfl | rfl | rfl <;> rfl
  · rfl
  · rfl
theorem szof45 : (Tryz.prog.info? 185).map (·.size) = some 73 := by kernel_rfl

/-- the sum of a text -/
def shaL (T : List UInt8) : List UInt8 := digestTo (hw (T ++ padL T.length) ((T ++ padL T.length).length / 64)).at 8

theorem Has.below {b B : Nat} {T : List UInt8} {w w' : World} (h : Has b T w) (hb : b < B) (hB : Below B w w') : Has b T w' := by
  obtain ⟨O, h1, h2, h3⟩ := h
  exact ⟨O, h1, h2, (hB.block b hb).trans h3⟩
theorem Has.lt {b : Nat} {T : List UInt8} {w : World} (h : Has b T w) : b < w.heap.size := by
  obtain ⟨O, _, _, h3⟩ := h
  exact (Array.getElem?_eq_some_iff.1 h3).1
theorem Has.words {b : Nat} {T : List UInt8} {w : World} (h : Has b T w) : w.rangeAt b 0 (w8 (hw T (T.length / 64))) := by
  obtain ⟨O, _, _, h3⟩ := h
  intro j v hj
  rw [row_cell h3, Nat.zero_add, hcells, List.getElem?_append_left (List.getElem?_eq_some_iff.1 hj).1]; exact hj
theorem Has.sized {b : Nat} {T : List UInt8} {w : World} (h : Has b T w) : w.cell? ⟨b, 72, none⟩ = some (.int .u64 (T.length : Int)) := by
  obtain ⟨O, hO, _, h3⟩ := h
  rw [row_cell h3, hcells_at72 _ _ _ hO]
theorem padL_length (n : Nat) : (padL n).length < 100 := by
  have : noughts n < 64 := by unfold noughts; omega
  simp [padL, be64To]
  omega

/-- a copy of a hasher -/
theorem copied {T O : List UInt8} {w : World} (hO : O.length = 64) (hOt : O.take (T.length % 64) = T.drop (64 * (T.length / 64))) :
    Has w.heap.size T ((w.alloc (.cells Z45 185)).setCells w.heap.size 0 (hcells (hw T (T.length / 64)) O T.length)) := by
  refine ⟨O, hO, hOt, ?_⟩
  have h := heap_setCells_row (hcells (hw T (T.length / 64)) O T.length) 0 (hcells ⟨0, 0, 0, 0, 0, 0, 0, 0⟩ (List.replicate 64 0) 0) (w.alloc (.cells Z45 185)) (heap_alloc_new w _) (by rw [hcells_length _ _ _ hO, hcells_length _ _ _ (by simp)]; omega)
  rw [h]
  congr 3
  unfold splice
  rw [List.take_zero, List.nil_append, List.drop_of_length_le (by rw [hcells_length _ _ _ hO, hcells_length _ _ _ (by simp)]; omega), List.append_nil]

set_option maxRecDepth 100000 in
set_option maxHeartbeats 1000000 in
theorem sum_any (b : Nat) (T : List UInt8) (w : World) (hH : Has b T w) (hg : Glob w) (hlen : T.length < 100000000000) :
    Calls Tryz.prog 112 #[.pointer (some ⟨b, 0, none⟩)] w fun e w' => e = .returned (.string ⟨(shaL T).toArray⟩) ∧ Below w.heap.size w w' := by
  have hlt := hH.lt
  obtain ⟨O, hO, hOt, hrow⟩ := id hH
  obtain ⟨w1, hw1⟩ : ∃ w1, (w.alloc (.cells Z45 185)).setCells w.heap.size 0 (hcells (hw T (T.length / 64)) O T.length) = w1 := ⟨_, rfl⟩
  have hH1 : Has w.heap.size T w1 := hw1 ▸ copied hO hOt
  have hB1 : Below w.heap.size w w1 := hw1 ▸ Below_setCells ((Below.refl _ _).alloc (Nat.le_refl _) _) (Nat.le_refl _) 0 _
  have hc1 : w1.cell? ⟨b, 72, none⟩ = some (.int .u64 (T.length : Int)) := (hB1.cell (p := ⟨b, 72, none⟩) hlt).trans hH.sized
  have Hw1 := Lib.hid hw1
  obtain ⟨L, hL⟩ : ∃ L, hcells (hw T (T.length / 64)) O T.length = L := ⟨_, rfl⟩
  have hLl : L.length = 73 := by rw [← hL]; exact hcells_length _ _ _ hO
  have hL1 : Hid (L.toArray.all (·.oneCell') = true) := Lib.hid (by rw [← hL]; exact hcells_one _ _ _)
  rw [hL] at hrow hw1
  have Hrow := Lib.hid hrow
  have HW1 := Lib.hid hw1
  have Hi := Lib.hid (show (Tryz.prog.info? 185).map (·.size) = some L.toArray.size by rw [show L.toArray.size = 73 by rw [List.size_toArray, hLl]]; exact szof45)
  have Hth := Lib.hid (show (w.alloc (.cells Z45 185)).there w.heap.size 0 L.toArray.size by
    rw [show L.toArray.size = 73 by rw [List.size_toArray, hLl]]
    exact fun j hj => ⟨by rw [cell_of_row _ _ _ _ 185 _ (heap_alloc_new w _)]; simp [size45]; omega, frozen_of_row _ _ _ _ 185 (heap_alloc_new w _)⟩)
  have HH := Lib.hid hH
  have HH1 := Lib.hid hH1
  have hz := zero45
  have hg2 := hg.size
  clear hrow hw1 hL hLl hH hH1 hO hOt Hw1
  go_enter Tryz.func112, Tryz.ntmps112
  go_wp2_with (first
    | (refine wpList_load_row rfl 185 _ rfl _ rfl 185 _ (0, 0) _ Hrow.out Tryz.underlying185 rfl Hi.out ?_)
    | (refine wpList_store_mid rfl 185 (.tmp 3) (.tmp 8) rfl w.heap.size 0 L.toArray rfl rfl Hth.out Hi.out hL1.out ?_; rw [List.toList_toArray, HW1.out]))
  refine (padding_any T.length w1 (by omega)).mono ?_
  rintro e w2 ⟨rfl, hB2⟩
  have hH2 : Has w.heap.size T w2 := HH1.out.below HH1.out.lt hB2
  have hG2 : Glob w2 := hg.below (by omega) (hB1.trans (hB2.mono hB1.size))
  go_wp2_with fail
  refine (write_any w.heap.size T (padL T.length) w2 hH2 hG2 (by omega) (by have := padL_length T.length; omega)).mono ?_
  rintro e w3 ⟨rfl, hH3, hB3⟩
  obtain ⟨st, hst⟩ : ∃ st, hw (T ++ padL T.length) ((T ++ padL T.length).length / 64) = st := ⟨_, rfl⟩
  have Hr3 := Lib.hid hH3.words
  rw [hst] at Hr3
  have Hst := Lib.hid hst
  clear hst
  go_wp2_with (refine wpList_load_mid rfl 182 (.tmp 15) rfl w.heap.size 0 rfl (w8 st) _ Hr3.out Tryz.underlying182 rfl (by kernel_rfl) ?_)
  refine (digest_any (w8 st).toArray st.at w3 rfl (w8_at st)).mono ?_
  rintro e w4 ⟨rfl, hB4⟩
  go_wp2
  go_ret
  exact ⟨by rw [shaL, Hst.out]; rfl, ((hB1.trans (hB2.mono hB1.size)).trans (hB3.below (by have := hB1.size; have := hB2.size; omega) (Nat.le_refl _))).trans (hB4.mono (by have := hB1.size; have := hB2.size; have := hB3.size; omega))⟩
end Go.Proofs.YtmnklonoelpidaaGreatDoor
/- The sum at once. -/
namespace Go.Proofs.YtmnklonoelpidaaGreatDoor
open Go.RowKit

set_option maxHeartbeats 400000 in
theorem shaSum_any (S : List UInt8) (w : World) (hg : Glob w) (hlen : S.length < 100000000000) :
    Calls Tryz.prog 78 #[.string ⟨S.toArray⟩] w fun e w' => e = .returned (.string ⟨(shaL S).toArray⟩) ∧ Below w.heap.size w w' := by
  have hsz := hg.size
  go_enter Tryz.func78, Tryz.ntmps78
  go_wp2_with fail
  refine (new_any w hg).mono ?_
  rintro e w1 ⟨rfl, hH1, hB1⟩
  have hG1 : Glob w1 := hg.below (by omega) hB1
  go_wp2_with fail
  refine (write_any w.heap.size [] S w1 hH1 hG1 (by omega) (by simp; omega)).mono ?_
  rintro e w2 ⟨rfl, hH2, hB2⟩
  rw [List.nil_append] at hH2
  have hB12 : Below w.heap.size w w2 := hB1.trans (hB2.below hB1.size (Nat.le_refl _))
  have hG2 : Glob w2 := hg.below (by omega) hB12
  go_wp2_with fail
  refine (sum_any w.heap.size S w2 hH2 hG2 (by omega)).mono ?_
  rintro e w3 ⟨rfl, hB3⟩
  go_wp2
  go_ret
  exact ⟨rfl, hB12.trans (hB3.mono (by have := hB12.size; omega))⟩
end Go.Proofs.YtmnklonoelpidaaGreatDoor
/- Append within the capacity, as one step of a region that draws; cuts of a text; the length of a sum. -/
namespace Go.Proofs.YtmnklonoelpidaaGreatDoor
open Go.RowKit

/-- append within the capacity, as one step of a region that draws -/
theorem step_append_fits {P : Program} {w : World} {ops : Array Oper} {o : Oper} {a : Act} {K : Act → World → Prop} {Q : Exit → Act → World → Prop} {E : Prop}
    (hg : o.guard = none) (s x : Operand) (t : TypeId) (hop : o.op = Op.call { callee := Callee.builtin Builtin.append, args := #[s, x], argTypes := #[t, t] })
    (base : Nat) (e : TypeId) (i : TypeInfo) (size : Nat) (h1 : P.underlying t = some (.slice e)) (h2 : P.info? e = some i) (h4 : i.size = size)
    (g k cap : Nat) (xs : List Value) (hs : a.eval s = .slice (some ⟨g, 0, none⟩) k cap) (hown : w.ownsRow base e size (.slice (some ⟨g, 0, none⟩) k cap) k xs) (ad : Addr) (m c : Nat) (news : List Value) (hx : a.eval x = .slice (some ad) m c) (hn : news.length = m * size)
    (hc : ∀ j u, news[j]? = some u → w.cell? (ad.add j) = some u) (h1c : ∀ u ∈ news, u.oneCell' = true) (b1 : k + m ≤ cap)
    (hK : ∀ w', w'.ownsRow base e size (.slice (some ⟨g, 0, none⟩) (k + m) cap) (k + m) (xs ++ news) → w.grownBy w' (some g) → K (a.put o.dst (.slice (some ⟨g, 0, none⟩) (k + m) cap)) w') :
    if Region.wanted o (yielded ops a.tmps) = true then Oper.wp P o a w K Q else E := by
  have hw : Region.wanted o (yielded ops a.tmps) = true := by simp [Region.wanted, hg]
  rw [if_pos hw]
  obtain ⟨w', hrun, r1, r2⟩ := run_append_fits (P := P) w base t o.type e i size h1 h2 h4 g k cap xs hown ad m c news hn hc h1c b1
  unfold Oper.wp
  simp [execOp, hop, resolve, invoke, builtin, hs, hx, hrun, Result.andThen]
  exact hK w' r1 r2

theorem shaL_length (T : List UInt8) : (shaL T).length = 32 := digestTo_length _ 8
end Go.Proofs.YtmnklonoelpidaaGreatDoor
/- A frame of a tag that is none; all frames; and the hashes of frames, by the program. -/
namespace Go.Proofs.YtmnklonoelpidaaGreatDoor
open Go.RowKit

set_option maxHeartbeats 400000 in
theorem frame_bad (tag : List UInt8) (v : Value) (w : World) (h : tag.length < 1 ∨ 16 < tag.length) (hm : tag.length ≤ maxLen) :
    Calls Tryz.prog 77 #[.string ⟨tag.toArray⟩, v] w fun e w' => e = .returned (.string ⟨#[]⟩) ∧ w = w' := by
  unfold maxLen at hm
  rcases h with h | h
  · go_enter Tryz.func77, Tryz.ntmps77
    go_wp2
    go_ret
    exact ⟨rfl, rfl⟩
  · have h1 : ¬ tag.length < 1 := by omega
    go_enter Tryz.func77, Tryz.ntmps77
    go_wp2
    go_ret
    exact ⟨rfl, rfl⟩
/-- a tag that is one -/
def Tag (tag : List UInt8) : Prop := 1 ≤ tag.length ∧ tag.length ≤ 16
instance (tag : List UInt8) : Decidable (Tag tag) := by unfold Tag; infer_instance
/-- the frame, and nothing for a tag that is none -/
def frameL (tag : List UInt8) (ps : List (List UInt8)) : List UInt8 := if Tag tag then framed tag ps else []
def hashL (tag : List UInt8) (ps : List (List UInt8)) : List UInt8 := if Tag tag then shaL (framed tag ps) else []

theorem frameAll (tag : List UInt8) (ao : Option Addr) (cap : Nat) (L : List (List UInt8)) (w : World) (hs : Strs ao L w) (hm : tag.length ≤ maxLen) (hlen : (framed tag L).length < 100000000000) :
    Calls Tryz.prog 77 #[.string ⟨tag.toArray⟩, .slice ao L.length cap] w fun e w' => e = .returned (.string ⟨(frameL tag L).toArray⟩) ∧ Below w.heap.size w w' := by
  by_cases h : Tag tag
  · rw [frameL, if_pos h]; exact frame_any tag ao cap L w hs h.1 h.2 hlen
  · rw [frameL, if_neg h]
    exact (frame_bad tag _ w (by unfold Tag at h; omega) hm).mono fun e w' ⟨he, hw⟩ => ⟨he, hw ▸ Below.refl _ _⟩
theorem not_empty (l : List UInt8) (h : l ≠ []) : l.isEmpty = false := by
  cases l <;> simp_all

set_option maxHeartbeats 1000000 in
theorem hash_any (tag : List UInt8) (ao : Option Addr) (cap : Nat) (L : List (List UInt8)) (w : World) (hg : Glob w) (hs : Strs ao L w) (hm : tag.length ≤ maxLen) (hlen : (framed tag L).length < 100000000000) :
    Calls Tryz.prog 41 #[.string ⟨tag.toArray⟩, .slice ao L.length cap] w fun e w' => e = .returned (.string ⟨(hashL tag L).toArray⟩) ∧ Below w.heap.size w w' := by
  have hsz := hg.size
  by_cases h : Tag tag
  · rw [hashL, if_pos h]
    have hf := frameAll tag ao cap L w hs hm hlen
    rw [frameL, if_pos h] at hf
    obtain ⟨F, hF⟩ : ∃ F, framed tag L = F := ⟨_, rfl⟩
    have hne := not_empty F (by rw [← hF]; exact List.cons_ne_nil _ _)
    rw [hF] at hlen hf ⊢
    clear hF
    go_enter Tryz.func41, Tryz.ntmps41
    go_wp2_with fail
    refine hf.mono ?_
    rintro e w1 ⟨rfl, hb1⟩
    clear hf
    have hG1 : Glob w1 := hg.below (by omega) hb1
    go_wp2_with fail
    refine (shaSum_any F w1 hG1 hlen).mono ?_
    rintro e w2 ⟨rfl, hb2⟩
    go_wp2
    go_ret
    exact ⟨rfl, hb1.trans (hb2.mono hb1.size)⟩
  · rw [hashL, if_neg h]
    have hf := frameAll tag ao cap L w hs hm hlen
    rw [frameL, if_neg h] at hf
    go_enter Tryz.func41, Tryz.ntmps41
    go_wp2_with fail
    refine hf.mono ?_
    rintro e w1 ⟨rfl, hb1⟩
    clear hf
    go_wp2
    go_ret
    exact ⟨rfl, hb1⟩

/-- a row of texts that was just made -/
theorem strs_new (w : World) (L : List (List UInt8)) (C : Array Value) (hC : C = (L.map fun x => Value.string ⟨x.toArray⟩).toArray) : Strs (some ⟨w.heap.size, 0, none⟩) L (w.alloc (.cells C 9)) := by
  refine .inr ⟨_, _, rfl, by simp, fun i hi => ?_⟩
  rw [Nat.zero_add, cell_of_row _ _ _ _ 9 _ (heap_alloc_new w _), hC]
  simp [hi]
end Go.Proofs.YtmnklonoelpidaaGreatDoor
