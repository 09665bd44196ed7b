/-
  DERIVED: THE SHELF's CONTRACTS AT THIS DUMP, IN PLAIN WORDS (tools/lay-plain.mjs out of 'TryzShelf.lean', which tools/lay-shelf.mjs wrote): THE SAME DECLARATIONS UNDER THE SAME NAMES: 'import', 'namespace', 'open', 'def', 'theorem' AND NOTHING ELSE: no command of the shelf's: FOR A HAND-IN. Each laying: the table of numbers ('.._ren') and one theorem, a field a fact of the dump's own or the kernel's comparison; each contract: ONE APPLICATION.
-/
import Derived.Shelf.Strings.Builder1
import Derived.Shelf.Strings.Builder2
import Derived.Shelf.Strings.BuilderF
import Derived.Shelf.Strings.Prefix
import Derived.Shelf.Bits.Mul64
import Derived.Shelf.Strings.Repeat
import Derived.Test.YtbkiijndhjmkdaaGreatDoorProg
import Derived.Test.YtbkiijndhjmkdaaGreatDoorJ1
import Derived.Test.YtbkiijndhjmkdaaGreatDoorJ24
namespace Go.Proofs
open Go.Shelf
def Tryz.lays170_ren : Go.Shelf.Ren := ⟨fun | 170 => 126 | n => n, fun | 70 => 208 | 3 => 3 | 0 => 0 | 72 => 210 | 37 => 100 | 5 => 5 | n => n, fun | n => n⟩
theorem Tryz.lays170 : Go.Proofs.Lays.n170 Tryz.prog Tryz.lays170_ren := {
  mixed := by kernel_rfl
  f170 := Tryz.func126.trans (congrArg some (by kernel_rfl))
  t0 := Tryz.underlying0
  a0 := Tryz.isAgg0
  z0 := Tryz.sizeOf0
  v0 := Tryz.zeroValue0
  t3 := Tryz.underlying3
  a3 := Tryz.isAgg3
  z3 := Tryz.sizeOf3
  v3 := Tryz.zeroValue3
  t37 := Tryz.underlying100
  a37 := Tryz.isAgg100
  z37 := Tryz.sizeOf100
  v37 := Tryz.zeroValue100
  t70 := Tryz.underlying208
  a70 := Tryz.isAgg208
  z70 := Tryz.sizeOf208
  v70 := Tryz.zeroValue208
  t72 := Tryz.underlying210
  a72 := Tryz.isAgg210
  z72 := Tryz.sizeOf210
  v72 := Tryz.zeroValue210 }
open Go.RowKit in
/-- (*strings.Builder).Len: "Len returns the number of accumulated bytes; b.Len() == len(b.String()).": the world is as it was. (LAID: no walk: one application.) -/
theorem Tryz.Builder_Len (B b : Nat) (bs : List Value) (w : World) (h : Lib.IsBuilder 210 5 B b bs w) :
    Calls Tryz.prog 126 #[.pointer (some ⟨b, 0, none⟩)] w fun e w' => e = .returned (.int .i64 bs.length) ∧ w' = w := Any.Builder_Len Tryz.lays170 B b bs w h
def Tryz.lays169_ren : Go.Shelf.Ren := ⟨fun | 169 => 127 | n => n, fun | 70 => 208 | 9 => 9 | 0 => 0 | 72 => 210 | 37 => 100 | 127 => 268 | 3 => 3 | 5 => 5 | n => n, fun | n => n⟩
theorem Tryz.lays169 : Go.Proofs.Lays.n169 Tryz.prog Tryz.lays169_ren := {
  mixed := by kernel_rfl
  f169 := Tryz.func127.trans (congrArg some (by kernel_rfl))
  t0 := Tryz.underlying0
  a0 := Tryz.isAgg0
  z0 := Tryz.sizeOf0
  v0 := Tryz.zeroValue0
  t3 := Tryz.underlying3
  a3 := Tryz.isAgg3
  z3 := Tryz.sizeOf3
  v3 := Tryz.zeroValue3
  t9 := Tryz.underlying9
  a9 := Tryz.isAgg9
  z9 := Tryz.sizeOf9
  v9 := Tryz.zeroValue9
  t37 := Tryz.underlying100
  a37 := Tryz.isAgg100
  z37 := Tryz.sizeOf100
  v37 := Tryz.zeroValue100
  t70 := Tryz.underlying208
  a70 := Tryz.isAgg208
  z70 := Tryz.sizeOf208
  v70 := Tryz.zeroValue208
  t72 := Tryz.underlying210
  a72 := Tryz.isAgg210
  z72 := Tryz.sizeOf210
  v72 := Tryz.zeroValue210
  t127 := Tryz.underlying268
  a127 := Tryz.isAgg268
  z127 := Tryz.sizeOf268
  v127 := Tryz.zeroValue268 }
theorem Tryz.Builder_Extra_169 : Builder.Extra Tryz.prog Tryz.lays169_ren := {
  sizeBuilder := by kernel_rfl
  liesBuilder := by kernel_rfl
  t5 := Tryz.underlying5
  a5 := Tryz.isAgg5
  z5 := Tryz.sizeOf5
  v5 := Tryz.zeroValue5
  infoByte := by kernel_rfl
  cellsByte := by kernel_rfl
  sizeByte := by kernel_rfl
  neB5 := by decide }
open Go.RowKit in
/-- (*strings.Builder).String: "String returns the accumulated string.": OF A BUILDER THAT HOLDS AT LEAST ONE BYTE. ✋ THE MODEL FREEZES THOSE BYTES IN THE BUFFER (unsafe.String): a later write INTO them ends the model's run without an answer; a later append BEHIND them goes on. The statement's order of evaluation is drawn: one draw. (LAID: no walk: one application.) -/
theorem Tryz.Builder_String (B b : Nat) (l : List UInt8) (w : World) (h : Lib.IsBuilder 210 5 B b (Lib.byteCells l) w) (h0 : l ≠ []) :
    Calls Tryz.prog 127 #[.pointer (some ⟨b, 0, none⟩)] w fun e w' => e = .returned (.string ⟨l.toArray⟩) ∧ Below B w w' := Any.Builder_String Tryz.lays169 Tryz.Builder_Extra_169 B b l w h h0
open Go.RowKit in
/-- (*strings.Builder).String OF A BUILDER THAT HOLDS NO BYTE: the empty string. (Its buffer is nil, or a row of which it has taken nothing yet; where that row has NO capacity the model lays one new block for unsafe.SliceData's 'some address'.) One draw. (LAID: no walk: one application.) -/
theorem Tryz.Builder_String_empty (B b : Nat) (w : World) (h : Lib.IsBuilder 210 5 B b [] w) (hBw : B ≤ w.heap.size) :
    Calls Tryz.prog 127 #[.pointer (some ⟨b, 0, none⟩)] w fun e w' => e = .returned (.string ⟨#[]⟩) ∧ Below B w w' := Any.Builder_String_empty Tryz.lays169 Tryz.Builder_Extra_169 B b w h hBw
open Go.RowKit in
/-- (*strings.Builder).String: "String returns the accumulated string.": WHATEVER THE BUILDER HOLDS. (LAID: no walk: one application.) -/
theorem Tryz.Builder_String_any (B b : Nat) (l : List UInt8) (w : World) (h : Lib.IsBuilder 210 5 B b (Lib.byteCells l) w) (hBw : B ≤ w.heap.size) :
    Calls Tryz.prog 127 #[.pointer (some ⟨b, 0, none⟩)] w fun e w' => e = .returned (.string ⟨l.toArray⟩) ∧ Below B w w' := Any.Builder_String_any Tryz.lays169 Tryz.Builder_Extra_169 B b l w h hBw
def Tryz.lays241_ren : Go.Shelf.Ren := ⟨fun | 241 => 179 | 277 => 204 | n => n, fun | 70 => 208 | 3 => 3 | 0 => 0 | 72 => 210 | 37 => 100 | 5 => 5 | n => n, fun | n => n⟩
theorem Tryz.lays241 : Go.Proofs.Lays.n241 Tryz.prog Tryz.lays241_ren := {
  mixed := by kernel_rfl
  f241 := Tryz.func179.trans (congrArg some (by kernel_rfl))
  f277 := Tryz.func204.trans (congrArg some (by kernel_rfl))
  t0 := Tryz.underlying0
  a0 := Tryz.isAgg0
  z0 := Tryz.sizeOf0
  v0 := Tryz.zeroValue0
  t3 := Tryz.underlying3
  a3 := Tryz.isAgg3
  z3 := Tryz.sizeOf3
  v3 := Tryz.zeroValue3
  t37 := Tryz.underlying100
  a37 := Tryz.isAgg100
  z37 := Tryz.sizeOf100
  v37 := Tryz.zeroValue100
  t70 := Tryz.underlying208
  a70 := Tryz.isAgg208
  z70 := Tryz.sizeOf208
  v70 := Tryz.zeroValue208
  t72 := Tryz.underlying210
  a72 := Tryz.isAgg210
  z72 := Tryz.sizeOf210
  v72 := Tryz.zeroValue210 }
theorem Tryz.Builder_Extra_241 : Builder.Extra Tryz.prog Tryz.lays241_ren := {
  sizeBuilder := by kernel_rfl
  liesBuilder := by kernel_rfl
  t5 := Tryz.underlying5
  a5 := Tryz.isAgg5
  z5 := Tryz.sizeOf5
  v5 := Tryz.zeroValue5
  infoByte := by kernel_rfl
  cellsByte := by kernel_rfl
  sizeByte := by kernel_rfl
  neB5 := by decide }
open Go.RowKit in
/-- (*strings.Builder).grow (no doc but "grow copies the buffer to a new, larger buffer so that there are at least n bytes of capacity beyond len(b.buf)."): AT A BUILDER WITHOUT A BUFFER: a new row of whatever bytes for its buffer, none of them its own yet. Three draws. (LAID: no walk: one application.) -/
theorem Tryz.Builder_grow_fresh (B b n : Nat) (w : World) (hB : B ≤ b) (hbk : w.heap[b]? = some (.cells #[.pointer (some ⟨b, 0, none⟩), .slice none 0 0] 210 (0, 0))) (hBw : B ≤ w.heap.size) (hn : n ≤ 281474976710656) :
    Calls Tryz.prog 179 #[.pointer (some ⟨b, 0, none⟩), .int .i64 n] w fun e w' => e = .returned (.tuple #[]) ∧ (Lib.BuilderAt 210 5 B b (.pointer (some ⟨b, 0, none⟩)) [] w' ∧ Below B w w') := Any.Builder_grow_fresh Tryz.lays241 Tryz.Builder_Extra_241 B b n w hB hbk hBw hn
def Tryz.lays165_ren : Go.Shelf.Ren := ⟨fun | 165 => 124 | 240 => 178 | 241 => 179 | 276 => 203 | 277 => 204 | n => n, fun | 70 => 208 | 3 => 3 | 0 => 0 | 4 => 4 | 9 => 9 | 20 => 20 | 72 => 210 | 37 => 100 | 164 => 170 | 5 => 5 | n => n, fun | n => n⟩
theorem Tryz.lays165 : Go.Proofs.Lays.n165 Tryz.prog Tryz.lays165_ren := {
  mixed := by kernel_rfl
  f165 := Tryz.func124.trans (congrArg some (by kernel_rfl))
  f240 := Tryz.func178.trans (congrArg some (by kernel_rfl))
  f241 := Tryz.func179.trans (congrArg some (by kernel_rfl))
  f276 := Tryz.func203.trans (congrArg some (by kernel_rfl))
  f277 := Tryz.func204.trans (congrArg some (by kernel_rfl))
  t0 := Tryz.underlying0
  a0 := Tryz.isAgg0
  z0 := Tryz.sizeOf0
  v0 := Tryz.zeroValue0
  t3 := Tryz.underlying3
  a3 := Tryz.isAgg3
  z3 := Tryz.sizeOf3
  v3 := Tryz.zeroValue3
  t4 := Tryz.underlying4
  a4 := Tryz.isAgg4
  z4 := Tryz.sizeOf4
  v4 := Tryz.zeroValue4
  t9 := Tryz.underlying9
  a9 := Tryz.isAgg9
  z9 := Tryz.sizeOf9
  v9 := Tryz.zeroValue9
  t20 := Tryz.underlying20
  a20 := Tryz.isAgg20
  z20 := Tryz.sizeOf20
  v20 := Tryz.zeroValue20
  t37 := Tryz.underlying100
  a37 := Tryz.isAgg100
  z37 := Tryz.sizeOf100
  v37 := Tryz.zeroValue100
  t70 := Tryz.underlying208
  a70 := Tryz.isAgg208
  z70 := Tryz.sizeOf208
  v70 := Tryz.zeroValue208
  t72 := Tryz.underlying210
  a72 := Tryz.isAgg210
  z72 := Tryz.sizeOf210
  v72 := Tryz.zeroValue210
  t164 := Tryz.underlying170
  a164 := Tryz.isAgg170
  z164 := Tryz.sizeOf170
  v164 := Tryz.zeroValue170 }
theorem Tryz.Builder_Extra_165 : Builder.Extra Tryz.prog Tryz.lays165_ren := {
  sizeBuilder := by kernel_rfl
  liesBuilder := by kernel_rfl
  t5 := Tryz.underlying5
  a5 := Tryz.isAgg5
  z5 := Tryz.sizeOf5
  v5 := Tryz.zeroValue5
  infoByte := by kernel_rfl
  cellsByte := by kernel_rfl
  sizeByte := by kernel_rfl
  neB5 := by decide }
open Go.RowKit in
/-- (*strings.Builder).Grow AT A BUILDER THAT HAS NOT BEEN WRITTEN ('var b strings.Builder; b.Grow(n)'): "Grow grows b's capacity, if necessary, to guarantee space for another n bytes.": it holds no byte behind it as before it. (LAID: no walk: one application.) -/
theorem Tryz.Builder_Grow_fresh (B b n : Nat) (w : World) (hB : B ≤ b) (hbk : w.heap[b]? = some (.cells #[.pointer none, .slice none 0 0] 210 (0, 0))) (hBw : B ≤ w.heap.size) (hn : n ≤ 281474976710656) :
    Calls Tryz.prog 124 #[.pointer (some ⟨b, 0, none⟩), .int .i64 n] w fun e w' => e = .returned (.tuple #[]) ∧ (Lib.BuilderAt 210 5 B b (.pointer (some ⟨b, 0, none⟩)) [] w' ∧ Below B w w') := Any.Builder_Grow_fresh Tryz.lays165 Tryz.Builder_Extra_165 B b n w hB hbk hBw hn
open Go.RowKit in
/-- (*strings.Builder).Len: "Len returns the number of accumulated bytes; b.Len() == len(b.String()).": the world is as it was. (THE FORM '_f': 'Lib.IsBuilderF'.) (LAID: no walk: one application.) -/
theorem Tryz.Builder_Len_f (B b : Nat) (bs : List Value) (w : World) (h : Lib.IsBuilderF 210 5 B b bs w) :
    Calls Tryz.prog 126 #[.pointer (some ⟨b, 0, none⟩)] w fun e w' => e = .returned (.int .i64 bs.length) ∧ w' = w := Any.Builder_Len_f Tryz.lays170 B b bs w h
open Go.RowKit in
/-- (*strings.Builder).String: "String returns the accumulated string.": OF A BUILDER THAT HOLDS AT LEAST ONE BYTE. ✋ THE MODEL FREEZES THOSE BYTES IN THE BUFFER (unsafe.String): a later write INTO them ends the model's run without an answer; a later append BEHIND them goes on. The statement's order of evaluation is drawn: one draw. THE FORM '_f': IT SAYS BESIDES THAT THE BUILDER IS A BUILDER STILL ('Lib.IsBuilderF', the same bytes): SO IT CAN BE WRITTEN ON: 'b.WriteString(b.String()[:k])'. (LAID: no walk: one application.) -/
theorem Tryz.Builder_String_f (B b : Nat) (l : List UInt8) (w : World) (h : Lib.IsBuilderF 210 5 B b (Lib.byteCells l) w) (h0 : l ≠ []) :
    Calls Tryz.prog 127 #[.pointer (some ⟨b, 0, none⟩)] w fun e w' => e = .returned (.string ⟨l.toArray⟩) ∧ (Lib.IsBuilderF 210 5 B b (Lib.byteCells l) w' ∧ Below B w w') := Any.Builder_String_f Tryz.lays169 Tryz.Builder_Extra_169 B b l w h h0
open Go.RowKit in
/-- (*strings.Builder).String OF A BUILDER THAT HOLDS NO BYTE: the empty string; THE FORM '_f': a builder still. (LAID: no walk: one application.) -/
theorem Tryz.Builder_String_empty_f (B b : Nat) (w : World) (h : Lib.IsBuilderF 210 5 B b [] w) (hBw : B ≤ w.heap.size) :
    Calls Tryz.prog 127 #[.pointer (some ⟨b, 0, none⟩)] w fun e w' => e = .returned (.string ⟨#[]⟩) ∧ (Lib.IsBuilderF 210 5 B b [] w' ∧ Below B w w') := Any.Builder_String_empty_f Tryz.lays169 Tryz.Builder_Extra_169 B b w h hBw
open Go.RowKit in
/-- (*strings.Builder).String: "String returns the accumulated string.": WHATEVER THE BUILDER HOLDS; THE FORM '_f': OF A BUILDER THAT MAY HAVE BEEN READ BEFORE; AND IT IS A BUILDER STILL, holding the same bytes: it can be written on. (LAID: no walk: one application.) -/
theorem Tryz.Builder_String_any_f (B b : Nat) (l : List UInt8) (w : World) (h : Lib.IsBuilderF 210 5 B b (Lib.byteCells l) w) (hBw : B ≤ w.heap.size) :
    Calls Tryz.prog 127 #[.pointer (some ⟨b, 0, none⟩)] w fun e w' => e = .returned (.string ⟨l.toArray⟩) ∧ (Lib.IsBuilderF 210 5 B b (Lib.byteCells l) w' ∧ Below B w w') := Any.Builder_String_any_f Tryz.lays169 Tryz.Builder_Extra_169 B b l w h hBw
def Tryz.lays206_ren : Go.Shelf.Ren := ⟨fun | 206 => 177 | n => n, fun | 9 => 9 | 4 => 4 | 3 => 3 | n => n, fun | n => n⟩
theorem Tryz.lays206 : Go.Proofs.Lays.n206 Tryz.prog Tryz.lays206_ren := {
  mixed := by kernel_rfl
  f206 := Tryz.func177.trans (congrArg some (by kernel_rfl))
  t3 := Tryz.underlying3
  a3 := Tryz.isAgg3
  z3 := Tryz.sizeOf3
  v3 := Tryz.zeroValue3
  t4 := Tryz.underlying4
  a4 := Tryz.isAgg4
  z4 := Tryz.sizeOf4
  v4 := Tryz.zeroValue4
  t9 := Tryz.underlying9
  a9 := Tryz.isAgg9
  z9 := Tryz.sizeOf9
  v9 := Tryz.zeroValue9 }
open Go.RowKit Go.Lib in
/-- internal/stringslite.HasPrefix (what strings.HasPrefix calls). (LAID: no walk: one application.) -/
theorem Tryz.stringslite_HasPrefix (s p : ByteArray) (w : World) :
    Calls Tryz.prog 177 #[.string s, .string p] w fun e w' => e = .returned (.bool (Lib.hasPrefix s.data.toList p.data.toList)) ∧ w' = w := Any.stringslite_HasPrefix Tryz.lays206 s p w
def Tryz.lays99_ren : Go.Shelf.Ren := ⟨fun | 99 => 123 | 206 => 177 | n => n, fun | 9 => 9 | 4 => 4 | 3 => 3 | n => n, fun | n => n⟩
theorem Tryz.lays99 : Go.Proofs.Lays.n99 Tryz.prog Tryz.lays99_ren := {
  mixed := by kernel_rfl
  f99 := Tryz.func123.trans (congrArg some (by kernel_rfl))
  f206 := Tryz.func177.trans (congrArg some (by kernel_rfl))
  t3 := Tryz.underlying3
  a3 := Tryz.isAgg3
  z3 := Tryz.sizeOf3
  v3 := Tryz.zeroValue3
  t4 := Tryz.underlying4
  a4 := Tryz.isAgg4
  z4 := Tryz.sizeOf4
  v4 := Tryz.zeroValue4
  t9 := Tryz.underlying9
  a9 := Tryz.isAgg9
  z9 := Tryz.sizeOf9
  v9 := Tryz.zeroValue9 }
open Go.RowKit Go.Lib in
/-- strings.HasPrefix: "HasPrefix reports whether the string s begins with prefix.": IT RETURNS 'Lib.hasPrefix s prefix'; the world is as it was. (LAID: no walk: one application.) -/
theorem Tryz.strings_HasPrefix (s p : ByteArray) (w : World) :
    Calls Tryz.prog 123 #[.string s, .string p] w fun e w' => e = .returned (.bool (Lib.hasPrefix s.data.toList p.data.toList)) ∧ w' = w := Any.strings_HasPrefix Tryz.lays99 s p w
def Tryz.lays264_ren : Go.Shelf.Ren := ⟨fun | 264 => 176 | n => n, fun | 53 => 22 | 46 => 204 | n => n, fun | n => n⟩
theorem Tryz.lays264 : Go.Proofs.Lays.n264 Tryz.prog Tryz.lays264_ren := {
  mixed := by kernel_rfl
  f264 := Tryz.func176.trans (congrArg some (by kernel_rfl))
  t46 := Tryz.underlying204
  a46 := Tryz.isAgg204
  z46 := Tryz.sizeOf204
  v46 := Tryz.zeroValue204
  t53 := Tryz.underlying22
  a53 := Tryz.isAgg22
  z53 := Tryz.sizeOf22
  v53 := Tryz.zeroValue22 }
open Go.RowKit Go.Lib in
theorem Tryz.bits_Mul64 (x y : Nat) (hx : x < 18446744073709551616) (hy : y < 18446744073709551616) (w : World) :
    Calls Tryz.prog 176 #[.int .u64 x, .int .u64 y] w fun e w' => e = .returned (.tuple #[.int .u64 ((x * y / 18446744073709551616 : Nat) : Int), .int .u64 ((x * y % 18446744073709551616 : Nat) : Int)]) ∧ w' = w := Any.bits_Mul64 Tryz.lays264 x y hx hy w
def Tryz.lays212_ren : Go.Shelf.Ren := ⟨fun | 212 => 122 | 263 => 175 | 264 => 176 | n => n, fun | 46 => 204 | 51 => 263 | 146 => 264 | 53 => 22 | 148 => 266 | n => n, fun | n => n⟩
theorem Tryz.lays212 : Go.Proofs.Lays.n212 Tryz.prog Tryz.lays212_ren := {
  mixed := by kernel_rfl
  f212 := Tryz.func122.trans (congrArg some (by kernel_rfl))
  f263 := Tryz.func175.trans (congrArg some (by kernel_rfl))
  f264 := Tryz.func176.trans (congrArg some (by kernel_rfl))
  t46 := Tryz.underlying204
  a46 := Tryz.isAgg204
  z46 := Tryz.sizeOf204
  v46 := Tryz.zeroValue204
  t51 := Tryz.underlying263
  a51 := Tryz.isAgg263
  z51 := Tryz.sizeOf263
  v51 := Tryz.zeroValue263
  t53 := Tryz.underlying22
  a53 := Tryz.isAgg22
  z53 := Tryz.sizeOf22
  v53 := Tryz.zeroValue22
  t146 := Tryz.underlying264
  a146 := Tryz.isAgg264
  z146 := Tryz.sizeOf264
  v146 := Tryz.zeroValue264
  t148 := Tryz.underlying266
  a148 := Tryz.isAgg266
  z148 := Tryz.sizeOf266
  v148 := Tryz.zeroValue266 }
open Go.RowKit Go.Lib in
/-- math/bits.Mul: "Mul returns the full-width product of x and y": on a machine of 64 bits: Mul64's. (LAID: no walk: one application.) -/
theorem Tryz.bits_Mul (x y : Nat) (hx : x < 18446744073709551616) (hy : y < 18446744073709551616) (w : World) :
    Calls Tryz.prog 122 #[.int .u64 x, .int .u64 y] w fun e w' => e = .returned (.tuple #[.int .u64 ((x * y / 18446744073709551616 : Nat) : Int), .int .u64 ((x * y % 18446744073709551616 : Nat) : Int)]) ∧ w' = w := Any.bits_Mul Tryz.lays212 x y hx hy w
def Tryz.lays105_ren : Go.Shelf.Ren := ⟨fun | 105 => 77 | 212 => 122 | 99 => 123 | 165 => 124 | 166 => 125 | 170 => 126 | 169 => 127 | 263 => 175 | 264 => 176 | 206 => 177 | 240 => 178 | 241 => 179 | 276 => 203 | 277 => 204 | n => n, fun | 9 => 9 | 3 => 3 | 4 => 4 | 20 => 20 | 0 => 0 | 46 => 204 | 109 => 205 | 5 => 5 | 72 => 210 | 76 => 212 | 51 => 263 | 146 => 264 | 53 => 22 | 148 => 266 | 70 => 208 | 37 => 100 | 75 => 34 | 127 => 268 | 164 => 170 | 80 => 130 | n => n, fun | n => n⟩
theorem Tryz.lays105 : Go.Proofs.Lays.n105 Tryz.prog Tryz.lays105_ren := {
  mixed := by kernel_rfl
  f99 := Tryz.func123.trans (congrArg some (by kernel_rfl))
  f105 := Tryz.func77.trans (congrArg some (by kernel_rfl))
  f165 := Tryz.func124.trans (congrArg some (by kernel_rfl))
  f166 := Tryz.func125.trans (congrArg some (by kernel_rfl))
  f169 := Tryz.func127.trans (congrArg some (by kernel_rfl))
  f170 := Tryz.func126.trans (congrArg some (by kernel_rfl))
  f206 := Tryz.func177.trans (congrArg some (by kernel_rfl))
  f212 := Tryz.func122.trans (congrArg some (by kernel_rfl))
  f240 := Tryz.func178.trans (congrArg some (by kernel_rfl))
  f241 := Tryz.func179.trans (congrArg some (by kernel_rfl))
  f263 := Tryz.func175.trans (congrArg some (by kernel_rfl))
  f264 := Tryz.func176.trans (congrArg some (by kernel_rfl))
  f276 := Tryz.func203.trans (congrArg some (by kernel_rfl))
  f277 := Tryz.func204.trans (congrArg some (by kernel_rfl))
  t0 := Tryz.underlying0
  a0 := Tryz.isAgg0
  z0 := Tryz.sizeOf0
  v0 := Tryz.zeroValue0
  t3 := Tryz.underlying3
  a3 := Tryz.isAgg3
  z3 := Tryz.sizeOf3
  v3 := Tryz.zeroValue3
  t4 := Tryz.underlying4
  a4 := Tryz.isAgg4
  z4 := Tryz.sizeOf4
  v4 := Tryz.zeroValue4
  t5 := Tryz.underlying5
  a5 := Tryz.isAgg5
  z5 := Tryz.sizeOf5
  v5 := Tryz.zeroValue5
  t9 := Tryz.underlying9
  a9 := Tryz.isAgg9
  z9 := Tryz.sizeOf9
  v9 := Tryz.zeroValue9
  t20 := Tryz.underlying20
  a20 := Tryz.isAgg20
  z20 := Tryz.sizeOf20
  v20 := Tryz.zeroValue20
  t37 := Tryz.underlying100
  a37 := Tryz.isAgg100
  z37 := Tryz.sizeOf100
  v37 := Tryz.zeroValue100
  t46 := Tryz.underlying204
  a46 := Tryz.isAgg204
  z46 := Tryz.sizeOf204
  v46 := Tryz.zeroValue204
  t51 := Tryz.underlying263
  a51 := Tryz.isAgg263
  z51 := Tryz.sizeOf263
  v51 := Tryz.zeroValue263
  t53 := Tryz.underlying22
  a53 := Tryz.isAgg22
  z53 := Tryz.sizeOf22
  v53 := Tryz.zeroValue22
  t70 := Tryz.underlying208
  a70 := Tryz.isAgg208
  z70 := Tryz.sizeOf208
  v70 := Tryz.zeroValue208
  t72 := Tryz.underlying210
  a72 := Tryz.isAgg210
  z72 := Tryz.sizeOf210
  v72 := Tryz.zeroValue210
  t75 := Tryz.underlying34
  a75 := Tryz.isAgg34
  z75 := Tryz.sizeOf34
  v75 := Tryz.zeroValue34
  t76 := Tryz.underlying212
  a76 := Tryz.isAgg212
  z76 := Tryz.sizeOf212
  v76 := Tryz.zeroValue212
  t109 := Tryz.underlying205
  a109 := Tryz.isAgg205
  z109 := Tryz.sizeOf205
  v109 := Tryz.zeroValue205
  t127 := Tryz.underlying268
  a127 := Tryz.isAgg268
  z127 := Tryz.sizeOf268
  v127 := Tryz.zeroValue268
  t146 := Tryz.underlying264
  a146 := Tryz.isAgg264
  z146 := Tryz.sizeOf264
  v146 := Tryz.zeroValue264
  t148 := Tryz.underlying266
  a148 := Tryz.isAgg266
  z148 := Tryz.sizeOf266
  v148 := Tryz.zeroValue266
  t164 := Tryz.underlying170
  a164 := Tryz.isAgg170
  z164 := Tryz.sizeOf170
  v164 := Tryz.zeroValue170 }
theorem Tryz.Builder_Extra_105 : Builder.Extra Tryz.prog Tryz.lays105_ren := {
  sizeBuilder := by kernel_rfl
  liesBuilder := by kernel_rfl
  t5 := Tryz.underlying5
  a5 := Tryz.isAgg5
  z5 := Tryz.sizeOf5
  v5 := Tryz.zeroValue5
  infoByte := by kernel_rfl
  cellsByte := by kernel_rfl
  sizeByte := by kernel_rfl
  neB5 := by decide }
open Go.RowKit Go.Lib in
/-- THE MAIN CASE: at least two copies of a string that is not empty. (LAID: no walk: one application.) -/
theorem Tryz.strings_Repeat_main (s : ByteArray) (c : Nat) (w : World) (hc2 : 2 ≤ c) (hc : c ≤ 9223372036854775807) (hlen : s.size * c ≤ 140737488355328) (h0 : 0 < s.size) :
    Calls Tryz.prog 77 #[.string s, .int .i64 c] w fun e w' => e = .returned (.string ⟨(Lib.repeatL s.data.toList c).toArray⟩) ∧ Below w.heap.size w w' := Any.strings_Repeat_main Tryz.lays105 Tryz.Builder_Extra_105 s c w hc2 hc hlen h0
open Go.RowKit Go.Lib in
theorem Tryz.strings_Repeat_zero (s : ByteArray) (w : World) :
    Calls Tryz.prog 77 #[.string s, .int .i64 0] w fun e w' => e = .returned (.string ⟨#[]⟩) ∧ w' = w := Any.strings_Repeat_zero Tryz.lays105 s w
open Go.RowKit Go.Lib in
theorem Tryz.strings_Repeat_one (s : ByteArray) (w : World) :
    Calls Tryz.prog 77 #[.string s, .int .i64 1] w fun e w' => e = .returned (.string s) ∧ w' = w := Any.strings_Repeat_one Tryz.lays105 s w
open Go.RowKit Go.Lib in
/-- Copies of the empty string. (LAID: no walk: one application.) -/
theorem Tryz.strings_Repeat_empty (s : ByteArray) (c : Nat) (w : World) (hc2 : 2 ≤ c) (hc : c ≤ 9223372036854775807) (h0 : s.size = 0) :
    Calls Tryz.prog 77 #[.string s, .int .i64 c] w fun e w' => e = .returned (.string ⟨#[]⟩) ∧ w' = w := Any.strings_Repeat_empty Tryz.lays105 s c w hc2 hc h0
open Go.RowKit Go.Lib in
/-- count < 0: "It panics if count is negative". (LAID: no walk: one application.) -/
theorem Tryz.strings_Repeat_negative (s : ByteArray) (c : Int) (w : World) (hc : c < 0) :
    Calls Tryz.prog 77 #[.string s, .int .i64 c] w fun e w' => e = .panicked [{ v := repeatPanic Tryz.lays105_ren "strings: negative Repeat count", recovered := false }] ∧ w' = w := Any.strings_Repeat_negative Tryz.lays105 s c w hc
open Go.RowKit Go.Lib in
/-- len(s) * count is no int: ".. or if the result of (len(s) * count) overflows". (LAID: no walk: one application.) -/
theorem Tryz.strings_Repeat_overflow (s : ByteArray) (c : Nat) (w : World) (hc : c ≤ 9223372036854775807) (hs : s.size ≤ 9223372036854775807) (hbig : 9223372036854775807 < s.size * c) :
    Calls Tryz.prog 77 #[.string s, .int .i64 c] w fun e w' => e = .panicked [{ v := repeatPanic Tryz.lays105_ren "strings: Repeat output length overflow", recovered := false }] ∧ w' = w := Any.strings_Repeat_overflow Tryz.lays105 s c w hc hs hbig
open Go.RowKit Go.Lib in
/-- **strings.Repeat: count ≥ 0, the result within one allocation: count copies of s.** (LAID: no walk: one application.) -/
theorem Tryz.strings_Repeat (s : ByteArray) (c : Nat) (w : World) (hc : c ≤ 9223372036854775807) (hlen : s.size * c ≤ 140737488355328) :
    Calls Tryz.prog 77 #[.string s, .int .i64 c] w fun e w' => e = .returned (.string ⟨(Lib.repeatL s.data.toList c).toArray⟩) ∧ Below w.heap.size w w' := Any.strings_Repeat Tryz.lays105 Tryz.Builder_Extra_105 s c w hc hlen
end Go.Proofs
/- strings.Repeat, by the shelf's contract; the law's full. -/
namespace Go.Proofs.YtbkiijndhjmkdaaGreatDoor
open Go.RowKit

theorem repeatL_one (c : UInt8) (k : Nat) : Lib.repeatL [c] k = List.replicate k c := by
  induction k with
  | zero => rfl
  | succ n ih => rw [List.replicate_succ, ← ih]; rfl
theorem repeat_any (c : UInt8) (k : Nat) (w : World) (hk : k ≤ 1000) : Calls Tryz.prog 77 #[.string ⟨#[c]⟩, .int .i64 (k : Int)] w fun e w' => e = .returned (.string ⟨(List.replicate k c).toArray⟩) ∧ Below w.heap.size w w' := by
  refine (Tryz.strings_Repeat ⟨#[c]⟩ k w (by omega) (by show 1 * k ≤ _; omega)).mono ?_
  rintro e w' ⟨rfl, hb⟩
  refine ⟨?_, hb⟩
  have e1 : ((⟨#[c]⟩ : ByteArray)).data.toList = [c] := rfl
  rw [e1, repeatL_one]
theorem full_any (c : UInt8) (w : World) : Calls Tryz.prog 40 #[.string ⟨#[c]⟩] w fun e w' => e = .returned (.string ⟨(List.replicate 32 c).toArray⟩) ∧ Below w.heap.size w w' := by
  have HR := Lib.hid (repeat_any c 32 w (by decide))
  go_enter Tryz.func40, Tryz.ntmps40
  go_wp2_with fail
  refine HR.out.mono ?_
  rintro e w1 ⟨rfl, hb⟩
  go_wp2
  go_ret
  exact ⟨rfl, hb⟩
end Go.Proofs.YtbkiijndhjmkdaaGreatDoor
/- Things' values: what may be laid comes back; what is read was laid so. -/
namespace Go.Proofs.YtbkiijndhjmkdaaGreatDoor
open Go.RowKit

theorem whole_there {α : Type} (C : Codec α) {x : α} (h : C.ok x) : wholeG C.get (C.put x) = .ok x := by
  have h1 := C.there x [] 0 h
  rw [List.append_nil] at h1
  rw [wholeG, h1]
  exact if_neg (Nat.lt_irrefl _)
theorem whole_back {α : Type} (C : Codec α) {S : (List UInt8)} {x : α} (h : wholeG C.get S = .ok x) : C.ok x ∧ S = C.put x := by
  unfold wholeG at h
  cases hg : C.get S 0 with
  | error f => rw [hg] at h; cases h
  | ok p =>
    obtain ⟨y, k⟩ := p
    rw [hg] at h
    simp only at h
    by_cases hk : k < S.length
    · rw [if_pos hk] at h; cases h
    · rw [if_neg hk] at h
      cases h
      obtain ⟨h1, h2, R, h3⟩ := C.back _ _ _ _ hg
      have hl := congrArg List.length h3
      rw [List.length_append] at hl
      obtain rfl : R = [] := List.eq_nil_of_length_eq_zero (by omega)
      rw [List.append_nil] at h3
      exact ⟨h1, h3⟩

theorem bytesF_some {ρ : Type} {p : ρ} {f : Fld ρ} {v : f.β} (h : f.view p = some v) : bytesF p f = f.C.put v := by
  unfold bytesF
  rw [h]
theorem bytesF_none {ρ : Type} {p : ρ} {f : Fld ρ} (h : f.view p = none) : bytesF p f = [] := by
  unfold bytesF
  rw [h]
theorem bytes_num {ρ : Type} (p : ρ) (key : UInt8) (of : ρ → Nat) (set : ρ → Nat → ρ) : bytesF p (numFld key of set) = numZ (of p) := by
  unfold numZ
  by_cases h : of p = 0
  · rw [if_pos h]; exact bytesF_none (if_pos h)
  · rw [if_neg h]; exact bytesF_some (f := numFld key of set) (if_neg h)
theorem bytes_dig {ρ : Type} (p : ρ) (key : UInt8) (of : ρ → (List UInt8)) (set : ρ → (List UInt8) → ρ) (h : of p ≠ []) : bytesF p (digFld key of set) = binP (of p) :=
  bytesF_some (f := digFld key of set) (if_neg h)
theorem bytes_digs {ρ : Type} (p : ρ) (key : UInt8) (m : Nat) (hm : m ≤ 10240) (of : ρ → List (List UInt8)) (set : ρ → List (List UInt8) → ρ) : bytesF p (listFld key m hm digC of set) = digsP (of p) := by
  unfold digsP
  by_cases h : of p = []
  · rw [if_pos h]; exact bytesF_none (show lst (of p) = none by rw [h]; rfl)
  · rw [if_neg h]; exact bytesF_some (f := listFld key m hm digC of set) (list_seen h)
theorem bytes_yes {ρ : Type} (p : ρ) (key : UInt8) (of : ρ → Bool) (set : ρ → Bool → ρ) : bytesF p (yesFld key of set) = if of p then numZ 1 else [] := by
  by_cases h : of p = true
  · rw [if_pos h]; exact bytesF_some (f := yesFld key of set) (v := true) (if_pos h)
  · rw [if_neg h]; exact bytesF_none (if_neg h)
theorem mapP_nil (fs : List (UInt8 × (List UInt8))) (h : prs fs = []) : mapP fs = [128] := by
  unfold mapP prsB
  rw [h]
  rfl
theorem mapP_ne2 (fs : List (UInt8 × (List UInt8))) (h : prs fs ≠ []) : mapP fs ≠ [128] := by
  intro e
  have hl := congrArg List.length e
  unfold mapP prsB at hl
  have h1 : 0 < (headP 4 (prs fs).length).length := List.length_pos_iff.2 (headP_ne _ _)
  cases hp : prs fs with
  | nil => exact h hp
  | cons f l =>
    rw [hp] at hl h1
    rw [List.length_append, List.flatMap_cons] at hl
    simp only [List.cons_append, List.length_cons, List.length_nil] at hl
    omega
theorem numZ_ne {n : Nat} : numZ n = [] ↔ n = 0 := by
  unfold numZ
  by_cases h : n = 0
  · simp [h]
  · simp [h, numP_ne]
theorem digsP_ne {l : List (List UInt8)} : digsP l = [] ↔ l = [] := by
  unfold digsP
  by_cases h : l = []
  · simp [h]
  · simp [h, headP_ne]
theorem sig_small (g : SigR) : smallP (mapP (sigF g)) = if sigZ g then [] else mapP (sigF g) := by
  unfold smallP
  have hz : prs (sigF g) = [] ↔ sigZ g = true := by
    unfold prs sigF sigZ
    simp only [List.filter_eq_nil_iff, List.mem_cons, List.not_mem_nil, or_false, forall_eq_or_imp, forall_eq, Bool.not_eq_true, Bool.not_eq_false', List.isEmpty_iff, numZ_ne, digsP_ne, Bool.and_eq_true, beq_iff_eq]
    exact ⟨fun ⟨a, b, c⟩ => ⟨⟨a, b⟩, c⟩, fun ⟨⟨a, b⟩, c⟩ => ⟨a, b, c⟩⟩
  by_cases h : sigZ g = true
  · rw [if_pos (mapP_nil _ (hz.2 h)), if_pos h]
  · rw [if_neg (mapP_ne2 _ (fun e => h (hz.1 e))), if_neg h]

theorem okV_num {ρ : Type} {p : ρ} {key : UInt8} {of : ρ → Nat} {set : ρ → Nat → ρ} : (∀ v, (numFld key of set).view p = some v → (numFld key of set).C.ok v) ↔ of p < 18446744073709551616 := by
  show (∀ v : Nat, (if of p = 0 then none else some (of p)) = some v → v ≠ 0 ∧ v < 18446744073709551616) ↔ _
  by_cases h : of p = 0
  · simp [h]
  · simp [h]
theorem okV_dig {ρ : Type} {p : ρ} {key : UInt8} {of : ρ → (List UInt8)} {set : ρ → (List UInt8) → ρ} : (∀ v, (digFld key of set).view p = some v → (digFld key of set).C.ok v) ↔ (of p ≠ [] → digB (of p) = true) := by
  show (∀ v : (List UInt8), (if of p = [] then none else some (of p)) = some v → digB v = true) ↔ _
  by_cases h : of p = []
  · simp [h]
  · simp [h]
theorem mayB_iff (l : List (List UInt8)) (n : Nat) : mayB l n = true ↔ l.length ≤ n ∧ ∀ x ∈ l, digB x = true := by
  unfold mayB
  simp only [Bool.and_eq_true, List.all_eq_true, decide_eq_true_eq]
  exact And.comm
theorem okV_digs {ρ : Type} {p : ρ} {key : UInt8} {m : Nat} {hm : m ≤ 10240} {of : ρ → List (List UInt8)} {set : ρ → List (List UInt8) → ρ} : (∀ v, (listFld key m hm digC of set).view p = some v → (listFld key m hm digC of set).C.ok v) ↔ mayB (of p) m = true := by
  show (∀ v : List (List UInt8), lst (of p) = some v → v ≠ [] ∧ v.length ≤ m ∧ ∀ x ∈ v, digB x = true) ↔ _
  rw [mayB_iff]
  cases h : of p with
  | nil => simp [lst]
  | cons a l => simp only [lst, Option.some.injEq, forall_eq']; exact ⟨fun h => h.2, fun h => ⟨by simp, h⟩⟩

/-! a Part, a Msg, a Header, a Sig, a Slot -/
theorem part_okV (p : PartR) : okV partFs p ↔ PartIn p ∧ (p.root ≠ [] → digB p.root = true) := by
  unfold okV partFs
  simp only [List.mem_cons, List.not_mem_nil, or_false, forall_eq_or_imp, forall_eq, okV_num, okV_dig]
  exact ⟨fun ⟨a, b, c, d, e⟩ => ⟨⟨e, a, c, b⟩, d⟩, fun ⟨⟨e, a, c, b⟩, d⟩ => ⟨a, b, c, d, e⟩⟩
theorem part_ok (p : PartR) : partC.ok p ↔ PartIn p ∧ digB p.root = true := by
  show (okV partFs p ∧ (!p.root.isEmpty) = true) ↔ _
  rw [part_okV]
  constructor
  · rintro ⟨⟨a, b⟩, c⟩
    exact ⟨a, b (by simpa using c)⟩
  · rintro ⟨a, b⟩
    exact ⟨⟨a, fun _ => b⟩, by simpa using dig_ne b⟩
theorem part_put (p : PartR) (h : digB p.root = true) : partC.put p = mapP (partF p) := by
  show mapP (prL partFs p) = _
  simp only [prL, partFs, List.map_cons, List.map_nil, bytes_num, bytes_dig p _ (fun p : PartR => p.root) _ (dig_ne h)]
  rfl
theorem msg_okV (p : MsgR) : okV msgFs p ↔ MsgIn p ∧ (p.headers ≠ [] → digB p.headers = true) ∧ (p.parts ≠ [] → digB p.parts = true) := by
  unfold okV msgFs
  simp only [List.mem_cons, List.not_mem_nil, or_false, forall_eq_or_imp, forall_eq, okV_num, okV_dig]
  exact ⟨fun ⟨a, b, c, d, e, f⟩ => ⟨⟨d, f, a, c⟩, b, e⟩, fun ⟨⟨d, f, a, c⟩, b, e⟩ => ⟨a, b, c, d, e, f⟩⟩
theorem msg_ok (p : MsgR) : msgC.ok p ↔ MsgIn p ∧ (digB p.headers && digB p.parts) = true := by
  show (okV msgFs p ∧ (!p.headers.isEmpty && !p.parts.isEmpty) = true) ↔ _
  rw [msg_okV, Bool.and_eq_true, Bool.and_eq_true]
  constructor
  · rintro ⟨⟨a, b, c⟩, d, e⟩
    exact ⟨a, b (by simpa using d), c (by simpa using e)⟩
  · rintro ⟨a, b, c⟩
    exact ⟨⟨a, fun _ => b, fun _ => c⟩, by simpa using dig_ne b, by simpa using dig_ne c⟩
theorem msg_put (p : MsgR) (h : (digB p.headers && digB p.parts) = true) : msgC.put p = mapP (msgF p) := by
  rw [Bool.and_eq_true] at h
  show mapP (prL msgFs p) = _
  simp only [prL, msgFs, List.map_cons, List.map_nil, bytes_num, bytes_dig p _ (fun p : MsgR => p.headers) _ (dig_ne h.1), bytes_dig p _ (fun p : MsgR => p.parts) _ (dig_ne h.2)]
  rfl
theorem hdr_okV (p : HdrR) : okV hdrFs p ↔ p.round < 18446744073709551616 ∧ (p.prev ≠ [] → digB p.prev = true) ∧ (p.seed ≠ [] → digB p.seed = true) ∧ (p.txns ≠ [] → digB p.txns = true) := by
  unfold okV hdrFs
  simp only [List.mem_cons, List.not_mem_nil, or_false, forall_eq_or_imp, forall_eq, okV_num, okV_dig]
  exact ⟨fun ⟨a, b, c, d⟩ => ⟨b, a, c, d⟩, fun ⟨b, a, c, d⟩ => ⟨a, b, c, d⟩⟩
theorem hdr_ok (p : HdrR) : hdrC.ok p ↔ p.round < 18446744073709551616 ∧ (digB p.prev && digB p.seed && digB p.txns) = true := by
  show (okV hdrFs p ∧ (!p.prev.isEmpty && !p.seed.isEmpty && !p.txns.isEmpty) = true) ↔ _
  rw [hdr_okV]
  simp only [Bool.and_eq_true]
  constructor
  · rintro ⟨⟨a, b, c, d⟩, ⟨e, f⟩, g⟩
    exact ⟨a, ⟨b (by simpa using e), c (by simpa using f)⟩, d (by simpa using g)⟩
  · rintro ⟨a, ⟨b, c⟩, d⟩
    exact ⟨⟨a, fun _ => b, fun _ => c, fun _ => d⟩, ⟨by simpa using dig_ne b, by simpa using dig_ne c⟩, by simpa using dig_ne d⟩
theorem hdr_put (p : HdrR) (h : (digB p.prev && digB p.seed && digB p.txns) = true) : hdrC.put p = mapP (hdrF p) := by
  simp only [Bool.and_eq_true] at h
  show mapP (prL hdrFs p) = _
  simp only [prL, hdrFs, List.map_cons, List.map_nil, bytes_num, bytes_dig p _ (fun p : HdrR => p.prev) _ (dig_ne h.1.1), bytes_dig p _ (fun p : HdrR => p.seed) _ (dig_ne h.1.2), bytes_dig p _ (fun p : HdrR => p.txns) _ (dig_ne h.2)]
  rfl
theorem sig_ok (g : SigR) : sigC.ok g ↔ g.index < 18446744073709551616 ∧ maySigB g = true := by
  show (okV sigFs g ∧ (true = true)) ↔ _
  unfold okV sigFs maySigB
  simp only [List.mem_cons, List.not_mem_nil, or_false, forall_eq_or_imp, forall_eq, okV_num, okV_digs, Bool.and_eq_true, and_true]
theorem sig_put (g : SigR) : sigC.put g = mapP (sigF g) := by
  show mapP (prL sigFs g) = _
  simp only [prL, sigFs, List.map_cons, List.map_nil, bytes_num, bytes_digs]
  rfl
theorem slot_ok (x : SlotR) : slotC.ok x ↔ x.l < 18446744073709551616 ∧ x.sig.index < 18446744073709551616 ∧ maySigB x.sig = true := by
  show (okV slotFs x ∧ (true = true)) ↔ _
  have h1 : (∀ v : SigR, (if sigZ x.sig then none else some x.sig) = some v → sigC.ok v ∧ sigZ v = false) ↔ x.sig.index < 18446744073709551616 ∧ maySigB x.sig = true := by
    rw [← sig_ok]
    cases hz : sigZ x.sig with
    | true =>
      have hs : sigC.ok x.sig := by
        obtain ⟨_, _, i, ws, ps⟩ := x
        rw [sig_ok]
        cases ws <;> cases ps <;> simp_all [sigZ, maySigB, mayB]
      simp [hs]
    | false => simp [hz]
  have h3 : ∀ v : Bool, (if x.signed then some true else none) = some v → v = true := by intro v; cases x.signed <;> simp
  unfold okV slotFs
  simp only [List.mem_cons, List.not_mem_nil, or_false, forall_eq_or_imp, forall_eq, okV_num, and_true]
  exact ⟨fun ⟨a, b, _⟩ => ⟨b, h1.1 a⟩, fun ⟨b, a⟩ => ⟨h1.2 a, b, h3⟩⟩
theorem slot_put (x : SlotR) : slotC.put x = mapP (slotF x) := by
  show mapP (prL slotFs x) = _
  have h1 : bytesF x (nzFld 103 sigC sigZ (·.sig) (fun p v => { p with sig := v })) = smallP (mapP (sigF x.sig)) := by
    rw [sig_small]
    by_cases h : sigZ x.sig = true
    · rw [if_pos h]; exact bytesF_none (if_pos h)
    · rw [if_neg h]
      exact (bytesF_some (f := nzFld 103 sigC sigZ (fun x : SlotR => x.sig) (fun p v => { p with sig := v })) (if_neg h)).trans (sig_put _)
  simp only [prL, slotFs, List.map_cons, List.map_nil, bytes_num, bytes_yes, h1]
  rfl

/-! what is laid comes back; what was read is laid again -/
theorem part_again {p : PartR} (hI : PartIn p) (h : (layPartP p).2 = 0) : wholeG partC.get (layPartP p).1 = .ok p := by
  unfold layPartP layOr at *
  cases hd : digB p.root with
  | false => rw [hd] at h; cases h
  | true => rw [if_pos rfl, ← part_put p hd]; exact whole_there _ ((part_ok p).2 ⟨hI, hd⟩)
theorem part_laid {p : PartR} {S : (List UInt8)} (h : wholeG partC.get S = .ok p) : PartIn p ∧ layPartP p = (S, 0) := by
  obtain ⟨h1, h2⟩ := whole_back _ h
  obtain ⟨h3, h4⟩ := (part_ok p).1 h1
  exact ⟨h3, by unfold layPartP layOr; rw [if_pos h4, h2, part_put p h4]⟩
theorem msg_again {p : MsgR} (hI : MsgIn p) (h : (layMsgP p).2 = 0) : wholeG msgC.get (layMsgP p).1 = .ok p := by
  unfold layMsgP layOr at *
  cases hd : (digB p.headers && digB p.parts) with
  | false => rw [hd] at h; cases h
  | true => rw [if_pos rfl, ← msg_put p hd]; exact whole_there _ ((msg_ok p).2 ⟨hI, hd⟩)
theorem msg_laid {p : MsgR} {S : (List UInt8)} (h : wholeG msgC.get S = .ok p) : MsgIn p ∧ layMsgP p = (S, 0) := by
  obtain ⟨h1, h2⟩ := whole_back _ h
  obtain ⟨h3, h4⟩ := (msg_ok p).1 h1
  exact ⟨h3, by unfold layMsgP layOr; rw [if_pos h4, h2, msg_put p h4]⟩
theorem hdr_again {p : HdrR} (hI : p.round < 18446744073709551616) (h : (layHdrP p).2 = 0) : wholeG hdrC.get (layHdrP p).1 = .ok p := by
  unfold layHdrP layOr at *
  cases hd : (digB p.prev && digB p.seed && digB p.txns) with
  | false => rw [hd] at h; cases h
  | true => rw [if_pos rfl, ← hdr_put p hd]; exact whole_there _ ((hdr_ok p).2 ⟨hI, hd⟩)
theorem hdr_laid {p : HdrR} {S : (List UInt8)} (h : wholeG hdrC.get S = .ok p) : p.round < 18446744073709551616 ∧ layHdrP p = (S, 0) := by
  obtain ⟨h1, h2⟩ := whole_back _ h
  obtain ⟨h3, h4⟩ := (hdr_ok p).1 h1
  exact ⟨h3, by unfold layHdrP layOr; rw [if_pos h4, h2, hdr_put p h4]⟩
theorem slot_again {x : SlotR} (hI : SlotIn x) (h : (laySlotP x).2 = 0) : wholeG slotC.get (laySlotP x).1 = .ok x := by
  unfold laySlotP layOr at *
  cases hd : maySigB x.sig with
  | false => rw [hd] at h; cases h
  | true => rw [if_pos rfl, ← slot_put x]; exact whole_there _ ((slot_ok x).2 ⟨hI.l, hI.g.i, hd⟩)
theorem slot_laid {x : SlotR} {S : (List UInt8)} (h : wholeG slotC.get S = .ok x) : SlotIn x ∧ laySlotP x = (S, 0) := by
  obtain ⟨h1, h2⟩ := whole_back _ h
  obtain ⟨h3, h4, h5⟩ := (slot_ok x).1 h1
  have h6 := h5
  unfold maySigB at h6
  rw [Bool.and_eq_true, mayB_iff, mayB_iff] at h6
  exact ⟨⟨h3, ⟨h4, by omega, by omega⟩⟩, by unfold laySlotP layOr; rw [if_pos h5, h2, slot_put x]⟩
/-! how long they are -/
theorem layOr_len {b : Bool} {s : (List UInt8)} {n : Nat} (h : b = true → s.length ≤ n) : (layOr b s).1.length ≤ n := by
  unfold layOr
  cases b
  · exact Nat.zero_le _
  · exact h rfl
theorem part_len (p : PartR) : (layPartP p).1.length ≤ 4000 := layOr_len fun h => by
  have h2 := mapP_len (partF p)
  simp only [partF, List.map_cons, List.map_nil, List.sum_cons, List.sum_nil] at h2 ⊢
  have a1 := numZ_len p.first
  have a2 := numZ_len p.keys
  have a3 := numZ_len p.life
  have a4 := numZ_len p.weight
  have b1 := binP_len h
  omega
theorem msg_len (p : MsgR) : (layMsgP p).1.length ≤ 4000 := layOr_len fun h => by
  rw [Bool.and_eq_true] at h
  have h2 := mapP_len (msgF p)
  simp only [msgF, List.map_cons, List.map_nil, List.sum_cons, List.sum_nil] at h2 ⊢
  have a1 := numZ_len p.first
  have a2 := numZ_len p.last
  have a3 := numZ_len p.count
  have a4 := numZ_len p.proven
  have b1 := binP_len h.1
  have b2 := binP_len h.2
  omega
theorem hdr_len (p : HdrR) : (layHdrP p).1.length ≤ 4000 := layOr_len fun h => by
  simp only [Bool.and_eq_true] at h
  have h2 := mapP_len (hdrF p)
  simp only [hdrF, List.map_cons, List.map_nil, List.sum_cons, List.sum_nil] at h2 ⊢
  have a1 := numZ_len p.round
  have b1 := binP_len h.1.1
  have b2 := binP_len h.1.2
  have b3 := binP_len h.2
  omega
theorem slot_len (x : SlotR) : (laySlotP x).1.length ≤ 4000 := layOr_len fun h => by
  rw [maySigB, Bool.and_eq_true] at h
  have h3 := mapP_len (slotF x)
  have h4 := mapP_len (sigF x.sig)
  simp only [slotF, sigF, List.map_cons, List.map_nil, List.sum_cons, List.sum_nil] at h3 h4 ⊢
  have a6 := numZ_len x.l
  have a7 := numZ_len x.sig.index
  have b2 := digsP_len h.1
  have b3 := digsP_len h.2
  have c1 := smallP_len (mapP [(105, numZ x.sig.index), (112, digsP x.sig.path), (118, digsP x.sig.wots)])
  have d1 : (if x.signed = true then numZ 1 else []).length ≤ 9 := by
    split
    · exact numZ_len 1
    · simp
  omega
end Go.Proofs.YtbkiijndhjmkdaaGreatDoor
/- ReadPart, ReadMsg, ReadHeader of the program. -/
namespace Go.Proofs.YtbkiijndhjmkdaaGreatDoor
open Go.RowKit

theorem AnsPart.open {S : (List UInt8)} {w1 w2 : World} {e : Ending} (h : AnsPart S w1 e w2) : Below w1.heap.size w1 w2 ∧ ∃ q v, e = .returned (.tuple #[partV q, v]) ∧ ∀ w w'' : World, w.heap.size ≤ w1.heap.size → (∀ k, w1.heap.size ≤ k → w''.heap[k]? = w2.heap[k]?) → Below w.heap.size w w'' → AnsPart S w (.returned (.tuple #[partV q, v])) w'' := by
  rw [AnsPart] at h
  rcases hr : wholeG partC.get S with ⟨c, b⟩ | q
  · rw [hr] at h
    obtain ⟨hc, ⟨v, rfl, hv⟩, hb⟩ := h
    refine ⟨hb, _, v, rfl, fun w w'' hl hk hb2 => ?_⟩
    rw [AnsPart, hr]
    refine ⟨hc, ⟨v, rfl, ?_⟩, hb2⟩
    unfold ErrV at *
    rw [if_neg (by omega)] at *
    obtain ⟨g, h0, h1, h2, h3⟩ := hv
    have hg : ∀ o, w''.cell? ⟨g, o, none⟩ = w2.cell? ⟨g, o, none⟩ := fun o => World.cell?_of_block (a := ⟨g, o, none⟩) (hk g h0)
    exact ⟨g, by omega, h1, (hg 0).trans h2, (hg 1).trans h3⟩
  · rw [hr] at h
    obtain ⟨rfl, hb⟩ := h
    refine ⟨hb, _, _, rfl, fun w w'' hl hk hb2 => ?_⟩
    rw [AnsPart, hr]
    exact ⟨rfl, hb2⟩
set_option maxRecDepth 100000 in
set_option maxHeartbeats 1000000 in
theorem wreadPart_any (S : (List UInt8)) (w : World) (hG : GlobW w) (hS : S.length ≤ 1000000) (hgl : 4 ≤ w.heap.size) : Calls Tryz.prog 14 #[.string ⟨S.toArray⟩] w (AnsPart S w) := by
  have hb0 : Below w.heap.size w (w.alloc (.cells #[.string ⟨#[]⟩, .int .u64 0, .int .u64 0, .int .u64 0, .int .u64 0] 24)) := by0 w _
  have HN := Lib.hid (heap_alloc_new w (.cells #[.string ⟨#[]⟩, .int .u64 0, .int .u64 0, .int .u64 0, .int .u64 0] 24))
  have HZ := Lib.hid (show (w.alloc (.cells #[.string ⟨#[]⟩, .int .u64 0, .int .u64 0, .int .u64 0, .int .u64 0] 24)).heap.size = w.heap.size + 1 by simp)
  have HC := Lib.hid (freadPart_any S _ (hG.next hb0) hS (by have := hb0.size; omega))
  have HB := Lib.hid hb0
  clear hG hS hgl hb0
  go_enter Tryz.func14, Tryz.ntmps14
  go_upto_region 1 with fail
  change Code.wp _ _ _ _ (w.alloc (.cells #[.string ⟨#[]⟩, .int .u64 0, .int .u64 0, .int .u64 0, .int .u64 0] 24))
  generalize w.alloc (.cells #[.string ⟨#[]⟩, .int .u64 0, .int .u64 0, .int .u64 0, .int .u64 0] 24) = w1 at *
  go_wp2_with (go_at_call 45; refine HC.out.mono ?_; intro e w2 h; obtain ⟨hb2, q, v, rfl, hA⟩ := h.open; have hX6 := (hb2.block w.heap.size (lit_lt HN.out)).trans HN.out; have p0 := (lit_cell hX6 0).trans rfl; have q0 := lit_free hX6 0; have p1 := (lit_cell hX6 1).trans rfl; have q1 := lit_free hX6 1; have p2 := (lit_cell hX6 2).trans rfl; have q2 := lit_free hX6 2; have p3 := (lit_cell hX6 3).trans rfl; have q3 := lit_free hX6 3; have p4 := (lit_cell hX6 4).trans rfl; have q4 := lit_free hX6 4)
  have hz := HZ.out
  have hx7 := lit_set (k := 4) (.int .u64 (q.keys : Int)) (lit_set (k := 3) (.int .u64 (q.life : Int)) (lit_set (k := 2) (.int .u64 (q.first : Int)) (lit_set (k := 1) (.int .u64 (q.weight : Int)) (lit_set (k := 0) (.string ⟨q.root.toArray⟩) (hX6)))))
  have ho7 : Only w.heap.size w2 ((((((w2).setCell ⟨w.heap.size, 0, none⟩ (.string ⟨q.root.toArray⟩)).setCell ⟨w.heap.size, 1, none⟩ (.int .u64 (q.weight : Int))).setCell ⟨w.heap.size, 2, none⟩ (.int .u64 (q.first : Int))).setCell ⟨w.heap.size, 3, none⟩ (.int .u64 (q.life : Int))).setCell ⟨w.heap.size, 4, none⟩ (.int .u64 (q.keys : Int))) := ((((((Only.refl w.heap.size w2).trans (Only.set w.heap.size 0 (.string ⟨q.root.toArray⟩) (w2))).trans (Only.set w.heap.size 1 (.int .u64 (q.weight : Int)) ((w2).setCell ⟨w.heap.size, 0, none⟩ (.string ⟨q.root.toArray⟩)))).trans (Only.set w.heap.size 2 (.int .u64 (q.first : Int)) (((w2).setCell ⟨w.heap.size, 0, none⟩ (.string ⟨q.root.toArray⟩)).setCell ⟨w.heap.size, 1, none⟩ (.int .u64 (q.weight : Int))))).trans (Only.set w.heap.size 3 (.int .u64 (q.life : Int)) ((((w2).setCell ⟨w.heap.size, 0, none⟩ (.string ⟨q.root.toArray⟩)).setCell ⟨w.heap.size, 1, none⟩ (.int .u64 (q.weight : Int))).setCell ⟨w.heap.size, 2, none⟩ (.int .u64 (q.first : Int))))).trans (Only.set w.heap.size 4 (.int .u64 (q.keys : Int)) (((((w2).setCell ⟨w.heap.size, 0, none⟩ (.string ⟨q.root.toArray⟩)).setCell ⟨w.heap.size, 1, none⟩ (.int .u64 (q.weight : Int))).setCell ⟨w.heap.size, 2, none⟩ (.int .u64 (q.first : Int))).setCell ⟨w.heap.size, 3, none⟩ (.int .u64 (q.life : Int)))))
  have hd7 : Below w.heap.size w ((((((w2).setCell ⟨w.heap.size, 0, none⟩ (.string ⟨q.root.toArray⟩)).setCell ⟨w.heap.size, 1, none⟩ (.int .u64 (q.weight : Int))).setCell ⟨w.heap.size, 2, none⟩ (.int .u64 (q.first : Int))).setCell ⟨w.heap.size, 3, none⟩ (.int .u64 (q.life : Int))).setCell ⟨w.heap.size, 4, none⟩ (.int .u64 (q.keys : Int))) := below_duo (HB.out.trans (hb2.mono (by omega))) (Duo.only (x := w.heap.size) ho7) (Nat.le_refl _) (Nat.le_refl _)
  have hsz : ((((((w2).setCell ⟨w.heap.size, 0, none⟩ (.string ⟨q.root.toArray⟩)).setCell ⟨w.heap.size, 1, none⟩ (.int .u64 (q.weight : Int))).setCell ⟨w.heap.size, 2, none⟩ (.int .u64 (q.first : Int))).setCell ⟨w.heap.size, 3, none⟩ (.int .u64 (q.life : Int))).setCell ⟨w.heap.size, 4, none⟩ (.int .u64 (q.keys : Int))).heap.size = w2.heap.size := by simp
  generalize (((((w2).setCell ⟨w.heap.size, 0, none⟩ (.string ⟨q.root.toArray⟩)).setCell ⟨w.heap.size, 1, none⟩ (.int .u64 (q.weight : Int))).setCell ⟨w.heap.size, 2, none⟩ (.int .u64 (q.first : Int))).setCell ⟨w.heap.size, 3, none⟩ (.int .u64 (q.life : Int))).setCell ⟨w.heap.size, 4, none⟩ (.int .u64 (q.keys : Int)) = w7 at *
  have z0 := (lit_cell hx7 0).trans rfl; have z1 := (lit_cell hx7 1).trans rfl; have z2 := (lit_cell hx7 2).trans rfl; have z3 := (lit_cell hx7 3).trans rfl; have z4 := (lit_cell hx7 4).trans rfl
  refine bodyPost_ret (v := .tuple #[partV q, v]) (by simp [results, Tryz.results14, go_sem, z0, z1, z2, z3, z4]) rfl (hA w w7 (by omega) (fun k hk => ?_) hd7)
  by_cases hl : k < w2.heap.size
  · exact ho7.block k hl (by omega)
  · rw [Array.getElem?_eq_none (xs := w7.heap) (by rw [hsz]; omega), Array.getElem?_eq_none (xs := w2.heap) (by omega)]

theorem AnsMsg.open {S : (List UInt8)} {w1 w2 : World} {e : Ending} (h : AnsMsg S w1 e w2) : Below w1.heap.size w1 w2 ∧ ∃ q v, e = .returned (.tuple #[msgV q, v]) ∧ ∀ w w'' : World, w.heap.size ≤ w1.heap.size → (∀ k, w1.heap.size ≤ k → w''.heap[k]? = w2.heap[k]?) → Below w.heap.size w w'' → AnsMsg S w (.returned (.tuple #[msgV q, v])) w'' := by
  rw [AnsMsg] at h
  rcases hr : wholeG msgC.get S with ⟨c, b⟩ | q
  · rw [hr] at h
    obtain ⟨hc, ⟨v, rfl, hv⟩, hb⟩ := h
    refine ⟨hb, _, v, rfl, fun w w'' hl hk hb2 => ?_⟩
    rw [AnsMsg, hr]
    refine ⟨hc, ⟨v, rfl, ?_⟩, hb2⟩
    unfold ErrV at *
    rw [if_neg (by omega)] at *
    obtain ⟨g, h0, h1, h2, h3⟩ := hv
    have hg : ∀ o, w''.cell? ⟨g, o, none⟩ = w2.cell? ⟨g, o, none⟩ := fun o => World.cell?_of_block (a := ⟨g, o, none⟩) (hk g h0)
    exact ⟨g, by omega, h1, (hg 0).trans h2, (hg 1).trans h3⟩
  · rw [hr] at h
    obtain ⟨rfl, hb⟩ := h
    refine ⟨hb, _, _, rfl, fun w w'' hl hk hb2 => ?_⟩
    rw [AnsMsg, hr]
    exact ⟨rfl, hb2⟩
set_option maxRecDepth 100000 in
set_option maxHeartbeats 1000000 in
theorem wreadMsg_any (S : (List UInt8)) (w : World) (hG : GlobW w) (hS : S.length ≤ 1000000) (hgl : 4 ≤ w.heap.size) : Calls Tryz.prog 34 #[.string ⟨S.toArray⟩] w (AnsMsg S w) := by
  have hb0 : Below w.heap.size w (w.alloc (.cells #[.string ⟨#[]⟩, .string ⟨#[]⟩, .int .u64 0, .int .u64 0, .int .u64 0, .int .u64 0] 70)) := by0 w _
  have HN := Lib.hid (heap_alloc_new w (.cells #[.string ⟨#[]⟩, .string ⟨#[]⟩, .int .u64 0, .int .u64 0, .int .u64 0, .int .u64 0] 70))
  have HZ := Lib.hid (show (w.alloc (.cells #[.string ⟨#[]⟩, .string ⟨#[]⟩, .int .u64 0, .int .u64 0, .int .u64 0, .int .u64 0] 70)).heap.size = w.heap.size + 1 by simp)
  have HC := Lib.hid (freadMsg_any S _ (hG.next hb0) hS (by have := hb0.size; omega))
  have HB := Lib.hid hb0
  clear hG hS hgl hb0
  go_enter Tryz.func34, Tryz.ntmps34
  go_upto_region 1 with fail
  change Code.wp _ _ _ _ (w.alloc (.cells #[.string ⟨#[]⟩, .string ⟨#[]⟩, .int .u64 0, .int .u64 0, .int .u64 0, .int .u64 0] 70))
  generalize w.alloc (.cells #[.string ⟨#[]⟩, .string ⟨#[]⟩, .int .u64 0, .int .u64 0, .int .u64 0, .int .u64 0] 70) = w1 at *
  go_wp2_with (go_at_call 72; refine HC.out.mono ?_; intro e w2 h; obtain ⟨hb2, q, v, rfl, hA⟩ := h.open; have hX6 := (hb2.block w.heap.size (lit_lt HN.out)).trans HN.out; have p0 := (lit_cell hX6 0).trans rfl; have q0 := lit_free hX6 0; have p1 := (lit_cell hX6 1).trans rfl; have q1 := lit_free hX6 1; have p2 := (lit_cell hX6 2).trans rfl; have q2 := lit_free hX6 2; have p3 := (lit_cell hX6 3).trans rfl; have q3 := lit_free hX6 3; have p4 := (lit_cell hX6 4).trans rfl; have q4 := lit_free hX6 4; have p5 := (lit_cell hX6 5).trans rfl; have q5 := lit_free hX6 5)
  have hz := HZ.out
  have hx7 := lit_set (k := 5) (.int .u64 (q.last : Int)) (lit_set (k := 4) (.int .u64 (q.first : Int)) (lit_set (k := 3) (.int .u64 (q.proven : Int)) (lit_set (k := 2) (.int .u64 (q.count : Int)) (lit_set (k := 1) (.string ⟨q.parts.toArray⟩) (lit_set (k := 0) (.string ⟨q.headers.toArray⟩) (hX6))))))
  have ho7 : Only w.heap.size w2 (((((((w2).setCell ⟨w.heap.size, 0, none⟩ (.string ⟨q.headers.toArray⟩)).setCell ⟨w.heap.size, 1, none⟩ (.string ⟨q.parts.toArray⟩)).setCell ⟨w.heap.size, 2, none⟩ (.int .u64 (q.count : Int))).setCell ⟨w.heap.size, 3, none⟩ (.int .u64 (q.proven : Int))).setCell ⟨w.heap.size, 4, none⟩ (.int .u64 (q.first : Int))).setCell ⟨w.heap.size, 5, none⟩ (.int .u64 (q.last : Int))) := (((((((Only.refl w.heap.size w2).trans (Only.set w.heap.size 0 (.string ⟨q.headers.toArray⟩) (w2))).trans (Only.set w.heap.size 1 (.string ⟨q.parts.toArray⟩) ((w2).setCell ⟨w.heap.size, 0, none⟩ (.string ⟨q.headers.toArray⟩)))).trans (Only.set w.heap.size 2 (.int .u64 (q.count : Int)) (((w2).setCell ⟨w.heap.size, 0, none⟩ (.string ⟨q.headers.toArray⟩)).setCell ⟨w.heap.size, 1, none⟩ (.string ⟨q.parts.toArray⟩)))).trans (Only.set w.heap.size 3 (.int .u64 (q.proven : Int)) ((((w2).setCell ⟨w.heap.size, 0, none⟩ (.string ⟨q.headers.toArray⟩)).setCell ⟨w.heap.size, 1, none⟩ (.string ⟨q.parts.toArray⟩)).setCell ⟨w.heap.size, 2, none⟩ (.int .u64 (q.count : Int))))).trans (Only.set w.heap.size 4 (.int .u64 (q.first : Int)) (((((w2).setCell ⟨w.heap.size, 0, none⟩ (.string ⟨q.headers.toArray⟩)).setCell ⟨w.heap.size, 1, none⟩ (.string ⟨q.parts.toArray⟩)).setCell ⟨w.heap.size, 2, none⟩ (.int .u64 (q.count : Int))).setCell ⟨w.heap.size, 3, none⟩ (.int .u64 (q.proven : Int))))).trans (Only.set w.heap.size 5 (.int .u64 (q.last : Int)) ((((((w2).setCell ⟨w.heap.size, 0, none⟩ (.string ⟨q.headers.toArray⟩)).setCell ⟨w.heap.size, 1, none⟩ (.string ⟨q.parts.toArray⟩)).setCell ⟨w.heap.size, 2, none⟩ (.int .u64 (q.count : Int))).setCell ⟨w.heap.size, 3, none⟩ (.int .u64 (q.proven : Int))).setCell ⟨w.heap.size, 4, none⟩ (.int .u64 (q.first : Int)))))
  have hd7 : Below w.heap.size w (((((((w2).setCell ⟨w.heap.size, 0, none⟩ (.string ⟨q.headers.toArray⟩)).setCell ⟨w.heap.size, 1, none⟩ (.string ⟨q.parts.toArray⟩)).setCell ⟨w.heap.size, 2, none⟩ (.int .u64 (q.count : Int))).setCell ⟨w.heap.size, 3, none⟩ (.int .u64 (q.proven : Int))).setCell ⟨w.heap.size, 4, none⟩ (.int .u64 (q.first : Int))).setCell ⟨w.heap.size, 5, none⟩ (.int .u64 (q.last : Int))) := below_duo (HB.out.trans (hb2.mono (by omega))) (Duo.only (x := w.heap.size) ho7) (Nat.le_refl _) (Nat.le_refl _)
  have hsz : (((((((w2).setCell ⟨w.heap.size, 0, none⟩ (.string ⟨q.headers.toArray⟩)).setCell ⟨w.heap.size, 1, none⟩ (.string ⟨q.parts.toArray⟩)).setCell ⟨w.heap.size, 2, none⟩ (.int .u64 (q.count : Int))).setCell ⟨w.heap.size, 3, none⟩ (.int .u64 (q.proven : Int))).setCell ⟨w.heap.size, 4, none⟩ (.int .u64 (q.first : Int))).setCell ⟨w.heap.size, 5, none⟩ (.int .u64 (q.last : Int))).heap.size = w2.heap.size := by simp
  generalize ((((((w2).setCell ⟨w.heap.size, 0, none⟩ (.string ⟨q.headers.toArray⟩)).setCell ⟨w.heap.size, 1, none⟩ (.string ⟨q.parts.toArray⟩)).setCell ⟨w.heap.size, 2, none⟩ (.int .u64 (q.count : Int))).setCell ⟨w.heap.size, 3, none⟩ (.int .u64 (q.proven : Int))).setCell ⟨w.heap.size, 4, none⟩ (.int .u64 (q.first : Int))).setCell ⟨w.heap.size, 5, none⟩ (.int .u64 (q.last : Int)) = w7 at *
  have z0 := (lit_cell hx7 0).trans rfl; have z1 := (lit_cell hx7 1).trans rfl; have z2 := (lit_cell hx7 2).trans rfl; have z3 := (lit_cell hx7 3).trans rfl; have z4 := (lit_cell hx7 4).trans rfl; have z5 := (lit_cell hx7 5).trans rfl
  refine bodyPost_ret (v := .tuple #[msgV q, v]) (by simp [results, Tryz.results34, go_sem, z0, z1, z2, z3, z4, z5]) rfl (hA w w7 (by omega) (fun k hk => ?_) hd7)
  by_cases hl : k < w2.heap.size
  · exact ho7.block k hl (by omega)
  · rw [Array.getElem?_eq_none (xs := w7.heap) (by rw [hsz]; omega), Array.getElem?_eq_none (xs := w2.heap) (by omega)]

theorem AnsHeader.open {S : (List UInt8)} {w1 w2 : World} {e : Ending} (h : AnsHeader S w1 e w2) : Below w1.heap.size w1 w2 ∧ ∃ q v, e = .returned (.tuple #[hdrV q, v]) ∧ ∀ w w'' : World, w.heap.size ≤ w1.heap.size → (∀ k, w1.heap.size ≤ k → w''.heap[k]? = w2.heap[k]?) → Below w.heap.size w w'' → AnsHeader S w (.returned (.tuple #[hdrV q, v])) w'' := by
  rw [AnsHeader] at h
  rcases hr : wholeG hdrC.get S with ⟨c, b⟩ | q
  · rw [hr] at h
    obtain ⟨hc, ⟨v, rfl, hv⟩, hb⟩ := h
    refine ⟨hb, _, v, rfl, fun w w'' hl hk hb2 => ?_⟩
    rw [AnsHeader, hr]
    refine ⟨hc, ⟨v, rfl, ?_⟩, hb2⟩
    unfold ErrV at *
    rw [if_neg (by omega)] at *
    obtain ⟨g, h0, h1, h2, h3⟩ := hv
    have hg : ∀ o, w''.cell? ⟨g, o, none⟩ = w2.cell? ⟨g, o, none⟩ := fun o => World.cell?_of_block (a := ⟨g, o, none⟩) (hk g h0)
    exact ⟨g, by omega, h1, (hg 0).trans h2, (hg 1).trans h3⟩
  · rw [hr] at h
    obtain ⟨rfl, hb⟩ := h
    refine ⟨hb, _, _, rfl, fun w w'' hl hk hb2 => ?_⟩
    rw [AnsHeader, hr]
    exact ⟨rfl, hb2⟩
set_option maxRecDepth 100000 in
set_option maxHeartbeats 1000000 in
theorem wreadHeader_any (S : (List UInt8)) (w : World) (hG : GlobW w) (hS : S.length ≤ 1000000) (hgl : 4 ≤ w.heap.size) : Calls Tryz.prog 36 #[.string ⟨S.toArray⟩] w (AnsHeader S w) := by
  have hb0 : Below w.heap.size w (w.alloc (.cells #[.int .u64 0, .string ⟨#[]⟩, .string ⟨#[]⟩, .string ⟨#[]⟩] 72)) := by0 w _
  have HN := Lib.hid (heap_alloc_new w (.cells #[.int .u64 0, .string ⟨#[]⟩, .string ⟨#[]⟩, .string ⟨#[]⟩] 72))
  have HZ := Lib.hid (show (w.alloc (.cells #[.int .u64 0, .string ⟨#[]⟩, .string ⟨#[]⟩, .string ⟨#[]⟩] 72)).heap.size = w.heap.size + 1 by simp)
  have HC := Lib.hid (freadHeader_any S _ (hG.next hb0) hS (by have := hb0.size; omega))
  have HB := Lib.hid hb0
  clear hG hS hgl hb0
  go_enter Tryz.func36, Tryz.ntmps36
  go_upto_region 1 with fail
  change Code.wp _ _ _ _ (w.alloc (.cells #[.int .u64 0, .string ⟨#[]⟩, .string ⟨#[]⟩, .string ⟨#[]⟩] 72))
  generalize w.alloc (.cells #[.int .u64 0, .string ⟨#[]⟩, .string ⟨#[]⟩, .string ⟨#[]⟩] 72) = w1 at *
  go_wp2_with (go_at_call 74; refine HC.out.mono ?_; intro e w2 h; obtain ⟨hb2, q, v, rfl, hA⟩ := h.open; have hX6 := (hb2.block w.heap.size (lit_lt HN.out)).trans HN.out; have p0 := (lit_cell hX6 0).trans rfl; have q0 := lit_free hX6 0; have p1 := (lit_cell hX6 1).trans rfl; have q1 := lit_free hX6 1; have p2 := (lit_cell hX6 2).trans rfl; have q2 := lit_free hX6 2; have p3 := (lit_cell hX6 3).trans rfl; have q3 := lit_free hX6 3)
  have hz := HZ.out
  have hx7 := lit_set (k := 3) (.string ⟨q.seed.toArray⟩) (lit_set (k := 2) (.string ⟨q.txns.toArray⟩) (lit_set (k := 1) (.string ⟨q.prev.toArray⟩) (lit_set (k := 0) (.int .u64 (q.round : Int)) (hX6))))
  have ho7 : Only w.heap.size w2 (((((w2).setCell ⟨w.heap.size, 0, none⟩ (.int .u64 (q.round : Int))).setCell ⟨w.heap.size, 1, none⟩ (.string ⟨q.prev.toArray⟩)).setCell ⟨w.heap.size, 2, none⟩ (.string ⟨q.txns.toArray⟩)).setCell ⟨w.heap.size, 3, none⟩ (.string ⟨q.seed.toArray⟩)) := (((((Only.refl w.heap.size w2).trans (Only.set w.heap.size 0 (.int .u64 (q.round : Int)) (w2))).trans (Only.set w.heap.size 1 (.string ⟨q.prev.toArray⟩) ((w2).setCell ⟨w.heap.size, 0, none⟩ (.int .u64 (q.round : Int))))).trans (Only.set w.heap.size 2 (.string ⟨q.txns.toArray⟩) (((w2).setCell ⟨w.heap.size, 0, none⟩ (.int .u64 (q.round : Int))).setCell ⟨w.heap.size, 1, none⟩ (.string ⟨q.prev.toArray⟩)))).trans (Only.set w.heap.size 3 (.string ⟨q.seed.toArray⟩) ((((w2).setCell ⟨w.heap.size, 0, none⟩ (.int .u64 (q.round : Int))).setCell ⟨w.heap.size, 1, none⟩ (.string ⟨q.prev.toArray⟩)).setCell ⟨w.heap.size, 2, none⟩ (.string ⟨q.txns.toArray⟩))))
  have hd7 : Below w.heap.size w (((((w2).setCell ⟨w.heap.size, 0, none⟩ (.int .u64 (q.round : Int))).setCell ⟨w.heap.size, 1, none⟩ (.string ⟨q.prev.toArray⟩)).setCell ⟨w.heap.size, 2, none⟩ (.string ⟨q.txns.toArray⟩)).setCell ⟨w.heap.size, 3, none⟩ (.string ⟨q.seed.toArray⟩)) := below_duo (HB.out.trans (hb2.mono (by omega))) (Duo.only (x := w.heap.size) ho7) (Nat.le_refl _) (Nat.le_refl _)
  have hsz : (((((w2).setCell ⟨w.heap.size, 0, none⟩ (.int .u64 (q.round : Int))).setCell ⟨w.heap.size, 1, none⟩ (.string ⟨q.prev.toArray⟩)).setCell ⟨w.heap.size, 2, none⟩ (.string ⟨q.txns.toArray⟩)).setCell ⟨w.heap.size, 3, none⟩ (.string ⟨q.seed.toArray⟩)).heap.size = w2.heap.size := by simp
  generalize ((((w2).setCell ⟨w.heap.size, 0, none⟩ (.int .u64 (q.round : Int))).setCell ⟨w.heap.size, 1, none⟩ (.string ⟨q.prev.toArray⟩)).setCell ⟨w.heap.size, 2, none⟩ (.string ⟨q.txns.toArray⟩)).setCell ⟨w.heap.size, 3, none⟩ (.string ⟨q.seed.toArray⟩) = w7 at *
  have z0 := (lit_cell hx7 0).trans rfl; have z1 := (lit_cell hx7 1).trans rfl; have z2 := (lit_cell hx7 2).trans rfl; have z3 := (lit_cell hx7 3).trans rfl
  refine bodyPost_ret (v := .tuple #[hdrV q, v]) (by simp [results, Tryz.results36, go_sem, z0, z1, z2, z3]) rfl (hA w w7 (by omega) (fun k hk => ?_) hd7)
  by_cases hl : k < w2.heap.size
  · exact ho7.block k hl (by omega)
  · rw [Array.getElem?_eq_none (xs := w7.heap) (by rw [hsz]; omega), Array.getElem?_eq_none (xs := w2.heap) (by omega)]
end Go.Proofs.YtbkiijndhjmkdaaGreatDoor
/- Sig, Slot: what a reading leaves in memory. -/
namespace Go.Proofs.YtbkiijndhjmkdaaGreatDoor
open Go.RowKit

/-- a list that a reading laid: none, or a block of its own behind B -/
def OwnS (B rb t : Nat) (ao : Option Addr) (cp : Nat) (L : List (List UInt8)) (w : World) : Prop :=
  (L = [] ∧ ao = none ∧ cp = 0) ∨ ∃ b, L ≠ [] ∧ ao = some ⟨b, 0, none⟩ ∧ B ≤ b ∧ b ≠ rb ∧ b ≠ t ∧ b < w.heap.size ∧ ∀ i (h : i < L.length), w.cell? ⟨b, i, none⟩ = some (.string ⟨(L[i]).toArray⟩)
theorem OwnS.next {B rb t : Nat} {ao : Option Addr} {cp : Nat} {L : List (List UInt8)} {w w' : World} (h : OwnS B rb t ao cp L w) (hd : Duo rb t w w') : OwnS B rb t ao cp L w' := by
  rcases h with h | ⟨b, h0, h1, h2, h3, h4, h5, h6⟩
  · exact .inl h
  · exact .inr ⟨b, h0, h1, h2, h3, h4, Nat.lt_of_lt_of_le h5 hd.size, fun i hi => (World.cell?_of_block (a := ⟨b, i, none⟩) (hd.block b h5 h3 h4)).trans (h6 i hi)⟩
theorem OwnS.of_own {B rb t base : Nat} {v : Value} {L : List (List UInt8)} {xs : List Value} {w : World} (h : w.ownsRow base 9 1 v L.length xs) (hx : RelS L xs w) (he : Emp L v) (hB : B ≤ base) (hr : rb < base) (ht : t < base) : ∃ ao cp, v = .slice ao L.length cp ∧ OwnS B rb t ao cp L w := by
  cases hl : L with
  | nil => exact ⟨none, 0, he hl, .inl ⟨rfl, rfl, rfl⟩⟩
  | cons x l =>
    rw [← hl]
    have hne : L ≠ [] := by rw [hl]; simp
    obtain ⟨hn, h | ⟨g, cp, cur, hv, hb, hg, hc1, hc2, hc3, hc4⟩⟩ := h
    · exact absurd (List.eq_nil_of_length_eq_zero h.2) hne
    · refine ⟨_, cp, hv, .inr ⟨g, hne, rfl, by omega, by omega, by omega, lit_lt hg, fun i hi => ?_⟩⟩
      refine (lit_cell hg i).trans ?_
      have e : xs[i]? = some (.string ⟨(L[i]).toArray⟩) := by
        rw [show xs = strV L from hx, strV, List.getElem?_map, List.getElem?_eq_getElem hi]
        rfl
      rw [← hc4, Nat.mul_one, List.getElem?_take_of_lt hi, Array.getElem?_toList] at e
      exact e

/-- a Slot in the block t -/
structure RpSlot (B rb t : Nat) (p : SlotR) (w : World) : Prop where
  b : B ≤ w.heap.size + 1 ∧ rb < w.heap.size + 1
  h : ∃ wa wc pa pc, w.heap[t]? = some (.cells (slotQ ⟨p, wa, wc, pa, pc⟩).toArray 48 (0, 0)) ∧ OwnS B rb t wa wc p.sig.wots w ∧ OwnS B rb t pa pc p.sig.path w
theorem OwnS.nil {B rb t : Nat} {ao : Option Addr} {cp : Nat} {L : List (List UInt8)} {w : World} (h : OwnS B rb t ao cp L w) (e : L = []) : ao = none ∧ cp = 0 := by
  rcases h with ⟨_, h, k⟩ | ⟨b, h, _⟩
  · exact ⟨h, k⟩
  · exact absurd e h
theorem slot_path_l {B rb t : Nat} (p : SlotR) : ListL 9 1 RelS rb t 4 48 (fun s w => RpSlot B rb t { p with sig := s } w) (·.path) (fun s v => { s with path := v }) := by
  intro s w hp
  obtain ⟨⟨hB, hrb⟩, wa, wc, pa, pc, h1, h2, h3⟩ := hp
  refine ⟨_, pa, pc, h1, rfl, fun e => h3.nil e, fun l v xs w' hd ht ho hx => ?_⟩
  have hs := hd.size
  obtain ⟨ao, cp, rfl, hO⟩ := OwnS.of_own (B := B) (rb := rb) (t := t) ho hx.1 hx.2 hB hrb (by have := lit_lt h1; omega)
  exact ⟨⟨by omega, by omega⟩, wa, wc, ao, cp, ht, h2.next hd, hO⟩
theorem slot_wots_l {B rb t : Nat} (p : SlotR) : ListL 9 1 RelS rb t 3 48 (fun s w => RpSlot B rb t { p with sig := s } w) (·.wots) (fun s v => { s with wots := v }) := by
  intro s w hp
  obtain ⟨⟨hB, hrb⟩, wa, wc, pa, pc, h1, h2, h3⟩ := hp
  refine ⟨_, wa, wc, h1, rfl, fun e => h2.nil e, fun l v xs w' hd ht ho hx => ?_⟩
  have hs := hd.size
  obtain ⟨ao, cp, rfl, hO⟩ := OwnS.of_own (B := B) (rb := rb) (t := t) ho hx.1 hx.2 hB hrb (by have := lit_lt h1; omega)
  exact ⟨⟨by omega, by omega⟩, ao, cp, pa, pc, ht, hO, h3.next hd⟩
theorem slot_index_l {B rb t : Nat} (p : SlotR) : NumL rb t 2 48 (fun s w => RpSlot B rb t { p with sig := s } w) (·.index) (fun s v => { s with index := v }) := by
  intro s w hp
  obtain ⟨⟨hB, hrb⟩, wa, wc, pa, pc, h1, h2, h3⟩ := hp
  refine ⟨_, h1, rfl, fun v w' hd ht => ?_⟩
  have hs := hd.size
  exact ⟨⟨by omega, by omega⟩, wa, wc, pa, pc, ht, h2.next hd, h3.next hd⟩
theorem slot_l_l {B rb t : Nat} : NumL rb t 0 48 (RpSlot B rb t) (·.l) (fun p v => { p with l := v }) := by
  intro s w hp
  obtain ⟨⟨hB, hrb⟩, wa, wc, pa, pc, h1, h2, h3⟩ := hp
  refine ⟨_, h1, rfl, fun v w' hd ht => ?_⟩
  have hs := hd.size
  exact ⟨⟨by omega, by omega⟩, wa, wc, pa, pc, ht, h2.next hd, h3.next hd⟩
theorem slot_signed_l {B rb t : Nat} : YesL rb t 1 48 (RpSlot B rb t) (·.signed) (fun p v => { p with signed := v }) := by
  intro s w hp
  obtain ⟨⟨hB, hrb⟩, wa, wc, pa, pc, h1, h2, h3⟩ := hp
  refine ⟨_, h1, rfl, fun v w' hd ht => ?_⟩
  have hs := hd.size
  exact ⟨⟨by omega, by omega⟩, wa, wc, pa, pc, ht, h2.next hd, h3.next hd⟩
/-- a Sig's row reads, whatever the Slot around it -/
theorem sig_rd {w0 : World} {lo rb t fb B : Nat} {S : (List UInt8)} {fs : List FV} (hK : SigK lo t 2 fb fs w0) (hlo : rb < lo ∧ t < lo) (hrt : t ≠ rb) (hS : S.length ≤ 1000000) (hG : 4 ≤ rb ∧ 4 ≤ t) : ∃ xs : List (RW SigR), fs = xs.map (·.f) ∧ xs.length = 3 ∧ xs.map (·.g) = sigFs ∧ (∀ p : SlotR, ∀ x ∈ xs, ReadF w0 rb t S (fun s w => RpSlot B rb t { p with sig := s } w) x) ∧ ∀ s, (!xs.any fun x => x.f.needed && !(x.g.view s).isSome) = true := by
  obtain ⟨⟨k0, k1, k2, rfl, h0, h1, h2⟩, _, _⟩ := hK
  refine ⟨[⟨numFV 105 k0, numFld 105 (·.index) (fun p v => { p with index := v }), numRd⟩, ⟨listSFV 112 k1, listFld 112 16 (by decide) digC (·.path) (fun p v => { p with path := v }), lrd 16 digG⟩, ⟨listSFV 118 k2, listFld 118 67 (by decide) digC (·.wots) (fun p v => { p with wots := v }), lrd 67 digG⟩], rfl, rfl, rfl, fun p x hx => ?_, fun p => ?_⟩
  · simp only [List.mem_cons, List.not_mem_nil, or_false] at hx
    rcases hx with rfl | rfl | rfl
    · exact read_num (T := 48) h0 hlo hrt hS (slot_index_l p) (fun p h => by cases p; simp_all)
    · exact read_strs (T := 48) (by decide) h1 hlo hrt hS hG (slot_path_l p) (fun p h => by cases p; simp_all)
    · exact read_strs (T := 48) (by decide) h2 hlo hrt hS hG (slot_wots_l p) (fun p h => by cases p; simp_all)
  · rfl

theorem seen_any {σ : Type} (s : σ) : ∀ (xs : List (RW σ)), (xs.Pairwise fun x y => x.f.key ≠ y.f.key) → ∀ x ∈ xs, (xs.any fun y => y.f.key == x.f.key && (y.g.view s).isSome) = (x.g.view s).isSome
  | [], _, x, hx => by cases hx
  | y :: ys, F, x, hx => by
    have F1 := List.pairwise_cons.1 F
    rw [List.any_cons]
    rcases List.mem_cons.1 hx with rfl | hx
    · have e : (ys.any fun y => y.f.key == x.f.key && (y.g.view s).isSome) = false := by
        rw [List.any_eq_false]
        intro y hy
        rw [show (y.f.key == x.f.key) = false from by rw [beq_eq_false_iff_ne]; exact fun e => F1.1 y hy e.symm]
        simp
      rw [e]; simp
    · rw [show (y.f.key == x.f.key) = false from by rw [beq_eq_false_iff_ne]; exact F1.1 x hx, seen_any s ys F1.2 x hx]
      simp
/-- what a thing within a thing reads -/
def thRd {σ : Type} (C : Codec σ) (z : σ → Bool) (left : (List UInt8)) (a : Nat) : Res (Option σ) := match C.get left a with
  | .error f => .error f
  | .ok (v, k) => .ok (if z v then none else some v, k)
theorem nz_thRd {σ : Type} (C : Codec σ) (z : σ → Bool) (left : (List UInt8)) (a : Nat) : (nzC C z).get left a = match thRd C z left a with
    | .ok (some v, k) => .ok (v, k)
    | .ok (none, _) => .error (5, 0)
    | .error f => .error f := by
  unfold thRd
  show (match C.get left a with | .error f => (Except.error f : Res σ) | .ok (x, k) => if z x then .error (5, 0) else .ok (x, k)) = _
  generalize C.get left a = r
  cases r with
  | error f => rfl
  | ok q =>
    obtain ⟨v, k⟩ := q
    dsimp only
    cases z v <;> rfl
set_option maxRecDepth 100000 in
theorem read_thing {ρ σ : Type} {w0 : World} {rb t : Nat} {S : (List UInt8)} {Rp : ρ → World → Prop} {lo k fb : Nat} {c : UInt8} {nd : Bool} {of : ρ → σ} {set : ρ → σ → ρ} {C : Codec σ} {z : σ → Bool} {zero : σ} {xs : List (RW σ)}
    (hk : New lo k (.slice (some ⟨fb, 0, none⟩) xs.length xs.length) 95 w0) (hr : RowAt fb (xs.map (·.f)) w0) (hfb : lo ≤ fb) (hlo : rb < lo ∧ t < lo) (hS : S.length ≤ 1000000) (hG : 4 ≤ rb ∧ 4 ≤ t) (ht : t < w0.heap.size)
    (F : Flds (xs.map (·.g)) zero) (hf : ∀ p, ∀ x ∈ xs, ReadF w0 rb t S (fun s w => Rp (set p s) w) x) (hst : ∀ p w w', Rp p w → Duo rb rb w w' → Rp p w')
    (hC : ∀ left a, mapG (xs.map (·.g)) zero (fun s => !xs.any fun x => x.f.needed && !(x.g.view s).isSome) left a = C.get left a)
    (hz : ∀ s, z s = !xs.any fun x => (x.g.view s).isSome) (hzz : ∀ s, z s = true → s = zero) (hset : ∀ p, set p (of p) = p) : ReadF w0 rb t S Rp ⟨thingFV c nd k, nzFld c C z of set, thRd C z⟩ where
  key := rfl
  tE := fun _ _ => by kernel_rfl
  rE := fun _ _ => by kernel_rfl
  get left a := by
    refine (nz_thRd C z left a).trans ?_
    dsimp only [nzFld]
    cases thRd C z left a with
    | error f => rfl
    | ok q =>
      obtain ⟨vo, k⟩ := q
      cases vo <;> rfl
  there w p hd hp := by
    have hky : xs.Pairwise fun x y => x.f.key ≠ y.f.key := by
      have h := F.keys
      rw [List.pairwise_map] at h
      exact h.imp_of_mem fun {x y} hx hy h => by rw [(hf p x hx).key, (hf p y hy).key]; exact h
    have hsz : (xs.map (·.f)).length = xs.length := by simp
    have hf8 := F.few
    have e : ((nzFld c C z of set).view p).isSome = (xs.map (·.f)).any fun f => xs.any fun y => y.f.key == f.key && (y.g.view (of p)).isSome := by
      show (if z (of p) then none else some (of p)).isSome = _
      rw [List.any_map, show (xs.any ((fun f => xs.any fun y => y.f.key == f.key && (y.g.view (of p)).isSome) ∘ (·.f))) = xs.any fun x => (x.g.view (of p)).isSome from any_congr fun x hx => seen_any (of p) xs hky x hx, show (xs.any fun x => (x.g.view (of p)).isSome) = !z (of p) by rw [hz, Bool.not_not]]
      cases z (of p) <;> rfl
    have hrw : RowAt fb (xs.map (·.f)) w := (hd.block fb (lit_lt hr) (by omega) (by omega)).trans hr
    rw [e]
    refine thing1_any (F := xs.map (·.f)) (Ok := fun w => Duo rb t w0 w ∧ Rp p w) (fun f hf0 => ?_) (fun w1 w2 h hb => ⟨h.1.trans (Duo.below hb), hst p w1 w2 h.2 (Duo.below hb)⟩) k fb xs.length w (by rw [hsz]; exact duo_cap hd hk hlo) hrw.row (lit_lt hrw) (by rw [hsz]; rw [List.length_map] at hf8; omega) ⟨hd, hp⟩
    obtain ⟨x, hx, rfl⟩ := List.mem_map.1 hf0
    have hx0 := hf p x hx
    refine ⟨hx0.tE, fun w1 h => ?_, fun w1 w2 h hb => ⟨h.1.trans (Duo.below hb), hst p w1 w2 h.2 (Duo.below hb)⟩⟩
    rw [seen_any (of p) xs hky x hx]
    exact hx0.there w1 (of p) h.1 (by rw [hset]; exact h.2)
  read w p a hd hg hp hv hR ha := by
    have hzp : z (of p) = true := by
      have h : (if z (of p) then none else some (of p)) = none := hv
      cases hq : z (of p) with
      | true => rfl
      | false => rw [hq] at h; cases h
    have hs0 : set p zero = p := by rw [← hzz _ hzp]; exact hset p
    have hf8 := F.few
    rw [List.length_map] at hf8
    have hks := duo_cap hd hk hlo
    refine (thing3_any k rb fb xs.length xs.length S (fun s w => Rp (set p s) w) a w.heap.size t (C.get (S.drop a) a) w hks (Nat.le_refl _) (fun w1 hb1 => ?_)).mono ?_
    · rw [← hC]
      exact wrow_any w0 rb t fb 0 xs.length S (fun s w => Rp (set p s) w) (fun s w w' h ho => hst _ w w' h (Duo.only ho)) xs (hf p) zero F a w1 hG hS ⟨hf8, Nat.le_refl _⟩ hr.row (lit_lt hr) ⟨by omega, by omega⟩ ht
        ⟨hd.trans (Duo.below hb1), hg.next hb1, by show Rp (set p zero) w1; rw [hs0]; exact hst p w w1 hp (Duo.below hb1), ⟨(hb1.block rb (lit_lt hR.r)).trans hR.r, hR.m⟩, ha⟩
    · intro e w' hres
      show Read rb t S Rp a w.heap.size w (RW.step ⟨thingFV c nd k, nzFld c C z of set, thRd C z⟩ p (S.drop a) a) e w'
      unfold RW.step thRd
      dsimp only
      cases hl : C.get (S.drop a) a with
      | error f =>
        obtain ⟨c1, b1⟩ := f
        rw [hl] at hres
        obtain ⟨k1, k2, k3, q, k4⟩ := hres
        exact ⟨k1, k2, k3, _, k4⟩
      | ok q =>
        obtain ⟨v, j⟩ := q
        rw [hl] at hres
        obtain ⟨k1, k2, k3, k4, k5⟩ := hres
        dsimp only
        cases hq : z v with
        | true =>
          rw [hzz v hq, hs0] at k2
          exact ⟨k1, k2, k3, k4, k5⟩
        | false => exact ⟨k1, k2, k3, k4, k5⟩
end Go.Proofs.YtbkiijndhjmkdaaGreatDoor
/- Slot: its row reads. -/
namespace Go.Proofs.YtbkiijndhjmkdaaGreatDoor
open Go.RowKit

theorem Duo.weak {A x : Nat} {w w' : World} (h : Duo A A w w') : Duo A x w w' := ⟨h.os, h.tape, h.output, h.size, fun k hk h1 _ => h.block k hk h1 h1⟩
theorem RpSlot.next {B rb t : Nat} {p : SlotR} {w w' : World} (hrt : t ≠ rb) (h : RpSlot B rb t p w) (hd : Duo rb rb w w') : RpSlot B rb t p w' := by
  obtain ⟨⟨hB, hrb⟩, wa, wc, pa, pc, h1, h2, h3⟩ := h
  have hs := hd.size
  exact ⟨⟨by omega, by omega⟩, wa, wc, pa, pc, (hd.block t (lit_lt h1) hrt hrt).trans h1, h2.next hd.weak, h3.next hd.weak⟩
theorem any_g {σ : Type} (xs : List (RW σ)) (s : σ) : (xs.any fun x => (x.g.view s).isSome) = (xs.map (·.g)).any fun g => (g.view s).isSome := by rw [List.any_map]; rfl
theorem sigZ_any (s : SigR) : sigZ s = !sigFs.any fun g => (g.view s).isSome := by
  obtain ⟨i, ws, ps⟩ := s
  simp only [sigFs, List.any_cons, List.any_nil, numFld, listFld, sigZ, Bool.or_false]
  cases i <;> cases ws <;> cases ps <;> rfl
theorem sigZ_zero {s : SigR} (h : sigZ s = true) : s = zSig := by
  obtain ⟨i, ws, ps⟩ := s
  cases i <;> cases ws <;> cases ps <;> first | rfl | (simp [sigZ] at h)
set_option maxRecDepth 100000 in
theorem slot_rd {w0 : World} {lo rb t fb B : Nat} {S : (List UInt8)} {fs : List FV} (hK : SlotK lo t 0 fb fs w0) (hlo : rb < lo ∧ t < lo) (hrt : t ≠ rb) (hS : S.length ≤ 1000000) (hG : 4 ≤ rb ∧ 4 ≤ t) (ht : t < w0.heap.size) : ∃ xs : List (RW SlotR), fs = xs.map (·.f) ∧ xs.length = 3 ∧ xs.map (·.g) = slotFs ∧ (∀ x ∈ xs, ReadF w0 rb t S (RpSlot B rb t) x) ∧ ∀ p, okV slotFs p → (!xs.any fun x => x.f.needed && !(x.g.view p).isSome) = true := by
  obtain ⟨⟨k0, fb0, k1, k2, rfl, h0, ⟨fs0, hK0⟩, h1, h2⟩, _, _⟩ := hK
  obtain ⟨ys, hfs, hyn, hyg, hyf, hyfin⟩ := sig_rd (B := B) hK0 hlo hrt hS hG
  refine ⟨[⟨thingFV 103 false k0, nzFld 103 sigC sigZ (·.sig) (fun p v => { p with sig := v }), thRd sigC sigZ⟩, ⟨numFV 108 k1, numFld 108 (·.l) (fun p v => { p with l := v }), numRd⟩, ⟨yesFV 115 k2, yesFld 115 (·.signed) (fun p v => { p with signed := v }), yesRd⟩], rfl, rfl, rfl, fun x hx => ?_, fun p _ => ?_⟩
  · simp only [List.mem_cons, List.not_mem_nil, or_false] at hx
    rcases hx with rfl | rfl | rfl
    · refine read_thing (xs := ys) (zero := zSig) (lo := lo) (fb := fb0) (by rw [hyn]; exact h0) (by rw [← hfs]; exact hK0.r) hK0.l hlo hS hG ht (by rw [hyg]; exact sig_flds) hyf (fun p w w' h hd => h.next hrt hd) (fun left a => ?_) (fun s => by rw [any_g, hyg]; exact sigZ_any s) (fun s h => sigZ_zero h) (fun p => rfl)
      rw [hyg]
      exact mapG_congr sig_flds (fun s _ => hyfin s) left a
    · exact read_num (T := 48) h1 hlo hrt hS slot_l_l (fun p h => by cases p; simp_all)
    · exact read_yes (T := 48) h2 hlo hrt hS slot_signed_l (fun p h => by cases p; simp_all)
  · rfl
end Go.Proofs.YtbkiijndhjmkdaaGreatDoor
