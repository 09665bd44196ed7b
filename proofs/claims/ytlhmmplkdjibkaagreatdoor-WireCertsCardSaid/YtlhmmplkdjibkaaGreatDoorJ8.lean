/- The program's table of rows; the row of a first byte, or it gives up. -/
import Derived.Test.YtlhmmplkdjibkaaGreatDoorJ5
import Derived.Laws.NewBlocks
import Derived.WalkMore
import Derived.Lib.ConvBytes
import Derived.Laws.Bits64b
import Derived.Defers
import Derived.Recover
import Derived.Test.YtlhmmplkdjibkaaGreatDoorJ1
import Derived.LaidLaws
import Derived.Shelf.Lay
import Derived.Lib.Strings
import Derived.Lib.Walk
import Derived.Lib.BufferWrite
import Derived.Lib.UnsafeStr
import Derived.Laws.MakeOwn
namespace Go.Proofs.YtlhmmplkdjibkaaGreatDoor
open Go.RowKit

/-- a row: its sort, first and last byte, the bytes of the number behind it, the least number -/
structure RowQ where
  s : Nat
  f : Nat
  l : Nat
  size : Nat
  least : Nat
def rowsL : List RowQ := [⟨0, 0, 127, 0, 0⟩, ⟨0, 204, 204, 1, 128⟩, ⟨0, 205, 205, 2, 256⟩, ⟨0, 206, 206, 4, 65536⟩, ⟨0, 207, 207, 8, 4294967296⟩, ⟨1, 196, 196, 1, 0⟩, ⟨1, 197, 197, 2, 256⟩,
  ⟨2, 160, 191, 0, 0⟩, ⟨2, 217, 217, 1, 32⟩, ⟨2, 218, 218, 2, 256⟩, ⟨3, 144, 159, 0, 0⟩, ⟨3, 220, 220, 2, 16⟩, ⟨4, 128, 143, 0, 0⟩, ⟨4, 222, 222, 2, 16⟩]
def rowAt (i : Nat) : RowQ := rowsL.getD i ⟨0, 0, 0, 0, 0⟩
def rowV (r : RowQ) : List Value := [.int .i64 (r.s : Int), .int .u8 (r.f : Int), .int .u8 (r.l : Int), .int .i64 (r.size : Int), .int .u64 (r.least : Int)]
def hitB (r : RowQ) (s c : Nat) : Bool := r.s == s && decide (r.f ≤ c) && decide (c ≤ r.l)
/-- the first row that a byte is of -/
def findR (s c : Nat) : Option RowQ := rowsL.find? fun r => hitB r s c
theorem find_row (s c : Nat) (hs : s < 5) (hc : c < 256) : (findR s c = none ∧ rowU s c = (-1, 0, 0)) ∨ (∃ r, findR s c = some r ∧ rowU s c = ((r.size : Int), c - r.f, r.least) ∧ r.f ≤ c) := by
  have h : ∀ s : Fin 5, ∀ c : Fin 256, (match findR s.1 c.1 with | none => decide (rowU s.1 c.1 = (-1, 0, 0)) | some r => decide (rowU s.1 c.1 = ((r.size : Int), c.1 - r.f, r.least)) && decide (r.f ≤ c.1)) = true := by decide +kernel
  have h1 := h ⟨s, hs⟩ ⟨c, hc⟩
  simp only at h1
  cases hf : findR s c with
  | none => rw [hf] at h1; exact .inl ⟨rfl, of_decide_eq_true h1⟩
  | some r =>
    rw [hf] at h1
    rw [Bool.and_eq_true, decide_eq_true_iff, decide_eq_true_iff] at h1
    exact .inr ⟨r, rfl, h1.1, h1.2⟩
theorem find_at (s c i : Nat) (hi : i < 14) (hb : hitB (rowAt i) s c = true) (hn : ∀ j, j < i → hitB (rowAt j) s c = false) : findR s c = some (rowAt i) := by
  have hl : rowsL.length = 14 := rfl
  have hr : ∀ j (h : j < 14), rowAt j = rowsL[j]'(by omega) := fun j h => by rw [rowAt, List.getD_eq_getElem?_getD, List.getElem?_eq_getElem (by omega)]; rfl
  unfold findR
  rw [List.find?_eq_some_iff_getElem]
  refine ⟨hb, i, by omega, (hr i hi).symm, fun j hj => ?_⟩
  have := hn j hj
  rw [hr j (by omega)] at this
  simp [this]
theorem find_none (s c : Nat) (hn : ∀ j, j < 14 → hitB (rowAt j) s c = false) : findR s c = none := by
  have hl : rowsL.length = 14 := rfl
  unfold findR
  rw [List.find?_eq_none]
  intro r hr
  obtain ⟨j, hj, rfl⟩ := List.getElem_of_mem hr
  have := hn j (by omega)
  rw [show rowAt j = rowsL[j]'hj by rw [rowAt, List.getD_eq_getElem?_getD, List.getElem?_eq_getElem hj]; rfl] at this
  simp [this]

/-- the package's table -/
structure GlobR (w : World) : Prop where
  size : 3 < w.heap.size
  c : ∀ i j, i < 14 → j < 5 → w.cell? ⟨3, i * 5 + j, none⟩ = (rowV (rowAt i))[j]?
theorem GlobR.only {A : Nat} {w w' : World} (h : GlobR w) (ho : Only A w w') (hA : 3 ≠ A) : GlobR w' :=
  ⟨Nat.lt_of_lt_of_le h.size ho.size, fun i j hi hj => (World.cell?_of_block (a := ⟨3, i * 5 + j, none⟩) (ho.block _ h.size hA)).trans (h.c i j hi hj)⟩
theorem GlobR.next {w w' : World} (h : GlobR w) (hb : Below w.heap.size w w') : GlobR w' :=
  ⟨Nat.lt_of_lt_of_le h.size hb.size, fun i j hi hj => (hb.cell (p := ⟨3, i * 5 + j, none⟩) h.size).trans (h.c i j hi hj)⟩
theorem GlobR.cells {w : World} (h : GlobR w) (i : Nat) (hi : i < 14) : w.cell? ⟨3, i * 5, none⟩ = some (.int .i64 ((rowAt i).s : Int)) ∧ w.cell? ⟨3, i * 5 + 1, none⟩ = some (.int .u8 ((rowAt i).f : Int)) ∧
    w.cell? ⟨3, i * 5 + 2, none⟩ = some (.int .u8 ((rowAt i).l : Int)) ∧ w.cell? ⟨3, i * 5 + 3, none⟩ = some (.int .i64 ((rowAt i).size : Int)) ∧ w.cell? ⟨3, i * 5 + 4, none⟩ = some (.int .u64 ((rowAt i).least : Int)) :=
  ⟨h.c i 0 hi (by decide), h.c i 1 hi (by decide), h.c i 2 hi (by decide), h.c i 3 hi (by decide), h.c i 4 hi (by decide)⟩

set_option maxRecDepth 100000 in
set_option maxHeartbeats 1000000 in
theorem rowOf_any (s c A : Nat) (w : World) (hg : GlobR w) :
    Calls Tryz.prog 186 #[.int .i64 (s : Int), .int .u8 (c : Int)] w fun e w' => (findR s c = none ∧ Gave 5 A w e w') ∨ (∃ r, findR s c = some r ∧ e = .returned (.agg (rowV r).toArray) ∧ Below w.heap.size w w') := by
  have HG := Lib.hid (hg.next (by0 w (.cells #[.int .i64 0, .int .u8 0, .int .u8 0, .int .i64 0, .int .u64 0] 260)))
  have HB := Lib.hid (by0 w (.cells #[.int .i64 0, .int .u8 0, .int .u8 0, .int .i64 0, .int .u64 0] 260))
  have HN := Lib.hid (heap_alloc_new w (.cells #[.int .i64 0, .int .u8 0, .int .u8 0, .int .i64 0, .int .u64 0] 260))
  clear hg
  go_enter Tryz.func186, Tryz.ntmps186
  go_wp2
  generalize w.alloc (.cells #[.int .i64 0, .int .u8 0, .int .u8 0, .int .i64 0, .int .u64 0] 260) = w1 at *
  go_step3
  go_wp2
  go_step3
  go_wp2
  go_loopw [5] (fun s5 wr => wr = w1 ∧ ∃ i : Nat, s5 = .int .i64 (i : Int) ∧ i ≤ 14 ∧ Hid (∀ j, j < i → hitB (rowAt j) s c = false))
    (fun s5 _ => 14 - (intOf s5).toNat)
  case atStart => exact ⟨rfl, 0, rfl, by decide, Lib.hid (fun j hj => by omega)⟩
  case round =>
    obtain ⟨hwr, i, rfl, hi, HJ⟩ := hrel
    subst hwr
    by_cases h14 : i = 14
    · subst h14
      have HG2 := Lib.hid (giveUp_any 5 A wr)
      have HOB := Lib.hid (Only.of_below (b := A) HB.out)
      have HF := Lib.hid (find_none s c HJ.out)
      clear hi
      go_wp2_with (go_at_call 123; refine HG2.out.mono ?_; rintro e w2 ⟨⟨f, hf, rfl, hc⟩, ho⟩)
      rw [Exit.noGoto_panic]
      exact ⟨rfl, .inl ⟨HF.out, (⟨⟨f, hf, rfl, hc⟩, ho⟩ : Gave 5 A wr _ w2).from HOB.out⟩⟩
    · have hi2 : i < 14 := by omega
      obtain ⟨g0, g1, g2, g3, g4⟩ := HG.out.cells i hi2
      have e14 : ((i : Int) == 14) = false := by rw [beq_eq_false_iff_ne]; omega
      have i0 : (0 : Int) ≤ (i : Int) := by omega
      have i1 : (i : Int) < 14 := by omega
      have r0 := (lit_cell HN.out 0).trans rfl
      have r1 := (lit_cell HN.out 1).trans rfl
      have r2 := (lit_cell HN.out 2).trans rfl
      have r3 := (lit_cell HN.out 3).trans rfl
      have r4 := (lit_cell HN.out 4).trans rfl
      have f0 := lit_free HN.out 0
      have f1 := lit_free HN.out 1
      have f2 := lit_free HN.out 2
      have f3 := lit_free HN.out 3
      have f4 := lit_free HN.out 4
      have HI := Lib.hid hi2
      clear hi h14 hi2
      cases hb : hitB (rowAt i) s c with
      | true =>
        have HF := Lib.hid (find_at s c i HI.out hb HJ.out)
        unfold hitB at hb
        generalize rowAt i = r at *
        obtain ⟨rs, rf, rl, rz, rm⟩ := r
        simp only [Bool.and_eq_true, decide_eq_true_eq, beq_iff_eq] at hb
        obtain ⟨⟨rfl, h1⟩, h2⟩ := hb
        have d1 : (rf : Int) ≤ (c : Int) := by omega
        have d2 : (c : Int) ≤ (rl : Int) := by omega
        clear h1 h2 HI
        go_wp2
        refine bodyPost_ret (v := .agg (rowV ⟨rs, rf, rl, rz, rm⟩).toArray) (by simp [results, Tryz.results186, go_sem, rowV, *]) rfl (.inr ⟨_, HF.out, rfl, ?_⟩)
        have hN : w.heap.size ≤ w.heap.size := Nat.le_refl _
        exact ((((HB.out.setCell hN _).setCell hN _).setCell hN _).setCell hN _).setCell hN _
      | false =>
        have HJ2 := Lib.hid (show ∀ j, j < i + 1 → hitB (rowAt j) s c = false from fun j hj => by
          by_cases hji : j < i
          · exact HJ.out j hji
          · obtain rfl : j = i := by omega
            exact hb)
        unfold hitB at hb
        have H14 := Lib.hid (show i + 1 ≤ 14 by have := HI.out; omega)
        have HM := Lib.hid (show 14 - (i + 1) < 14 - i by have := HI.out; omega)
        clear HJ HI HG r0 r1 r2 r3 r4 f0 f1 f2 f3 f4 HN
        generalize hrr : rowAt i = r at hb g0 g1 g2 g3 g4
        have HR := Lib.hid hrr
        clear hrr
        obtain ⟨rs, rf, rl, rz, rm⟩ := r
        simp only at hb g0 g1 g2 g3 g4
        by_cases h0 : rs = s
        · subst h0
          by_cases h1 : rf ≤ c
          · have h2 : ¬ c ≤ rl := by
              intro h2
              simp [h1, h2] at hb
            have d1 : (rf : Int) ≤ (c : Int) := by omega
            have d2 : ¬ (c : Int) ≤ (rl : Int) := by omega
            clear h1 h2 hb
            go_wp2
            go_roundw
            case rel => exact ⟨trivial, i + 1, by simp, H14.out, HJ2⟩
            case measure => simp [intOf] <;> omega
          · have d1 : ¬ (rf : Int) ≤ (c : Int) := by omega
            clear h1 hb
            go_wp2
            go_roundw
            case rel => exact ⟨trivial, i + 1, by simp, H14.out, HJ2⟩
            case measure => simp [intOf] <;> omega
        · have d0 : ((rs : Int) == (s : Int)) = false := by rw [beq_eq_false_iff_ne]; omega
          clear h0 hb
          go_wp2
          go_roundw
          case rel => exact ⟨trivial, i + 1, by simp, H14.out, HJ2⟩
          case measure => simp [intOf] <;> omega
end Go.Proofs.YtlhmmplkdjibkaaGreatDoor
/- The program's number and length of a thing. -/
namespace Go.Proofs.YtlhmmplkdjibkaaGreatDoor
open Go.RowKit

/-- the number (or length) that stands ahead of bytes, as the program reads it -/
def numQ (left : List UInt8) (s : Nat) : TP :=
  match left with
  | [] => ⟨0, [], 4, 0⟩
  | b :: r =>
    if (rowU s b.toNat).1 < 0 then ⟨0, [], 5, 0⟩
    else if r.length < (rowU s b.toNat).1.toNat then ⟨0, [], 4, 0⟩
    else if beN (rowU s b.toNat).2.1 (r.take (rowU s b.toNat).1.toNat) < (rowU s b.toNat).2.2 then ⟨0, [], 5, 0⟩
    else ⟨beN (rowU s b.toNat).2.1 (r.take (rowU s b.toNat).1.toNat), [], 0, 1 + (rowU s b.toNat).1.toNat⟩

structure NumR (A : Nat) (S : List UInt8) (a m : Nat) (P : TP) (w : World) (e : Ending) (w' : World) : Prop where
  ok : P.c = 0 → e = .returned (.int .u64 (P.n : Int)) ∧ RAt A S (a + P.m) m w' ∧ Only A w w'
  bad : P.c ≠ 0 → Gave P.c A w e w'
theorem NumR.of_gave {A : Nat} {S : List UInt8} {a m c : Nat} {P : TP} {w : World} {e : Ending} {w' : World} (hc : P.c = c) (h0 : c ≠ 0) (h : Gave c A w e w') : NumR A S a m P w e w' :=
  ⟨fun h => absurd (hc.symm.trans h) h0, fun _ => hc ▸ h⟩

/-- bytes out of a text, in a world -/
structure Row8 (B : Nat) (L : List UInt8) (w0 w1 : World) : Prop where
  b : Below w0.heap.size w0 w1
  c : ∀ j (h : j < L.length), w1.cell? ⟨B, j, none⟩ = some (.int .u8 (L[j].toNat : Int))
theorem row8 (L : List UInt8) (w : World) : ∃ cap w', (convert 9 77 (.string ⟨L.toArray⟩)).run Tryz.prog w = .ok (.slice (some ⟨w.heap.size, 0, none⟩) L.length cap) w' ∧ Row8 w.heap.size L w w' := by
  refine ⟨_, _, Lib.run_convert_string_bytes (P := Tryz.prog) w 9 77 5 ⟨L.toArray⟩ Tryz.underlying9 Tryz.underlying77 Tryz.underlying5, ?_, fun j hj => ?_⟩
  · exact ⟨rfl, rfl, rfl, by rw [Lib.bytesWorld_size]; omega, fun k hk => Lib.bytesWorld_at_old w 5 _ k hk⟩
  · rw [Lib.bytesWorld_cell w 5 ⟨L.toArray⟩ j hj]
    simp [List.getD, List.getElem?_eq_getElem hj]

theorem or_step (x t : Nat) (ht : t < 256) (hx : x < 72057594037927936) : bits .or .u64 ((x : Int) * 256) (t : Int) = ((256 * x + t : Nat) : Int) := by
  have h : ((x : Int) * 256) = ((256 * x : Nat) : Int) := by omega
  rw [h, bits_or_u64_nat _ _ (by omega) (by omega), show 256 * x = 2 ^ 8 * x by omega, ← Nat.two_pow_add_eq_or_of_lt (by omega : t < 2 ^ 8)]

set_option maxRecDepth 100000 in
set_option maxHeartbeats 1000000 in
theorem number_any (A : Nat) (S : List UInt8) (a m s : Nat) (w : World) (hR : RAt A S a m w) (hg : GlobR w) (hA : 3 ≠ A) (hS : S.length ≤ 1000000) (ha : a ≤ S.length) (hs : s ≤ 4) :
    Calls Tryz.prog 178 #[.pointer (some ⟨A, 0, none⟩), .int .i64 (s : Int)] w (NumR A S a m (numQ (S.drop a) s) w) := by
  cases hcr : S.drop a with
  | nil =>
    have HT := Lib.hid (qtake_short A S a m 1 w hR hS ha (by decide) (by rw [hcr]; decide))
    go_enter Tryz.func178, Tryz.ntmps178
    go_wp2_with (go_at_call 122; refine HT.out.mono ?_; rintro e w2 ⟨⟨f, hf, rfl, hc⟩, ho⟩)
    exact ⟨rfl, .of_gave (c := 4) rfl (by decide) ⟨⟨f, hf, rfl, hc⟩, ho⟩⟩
  | cons c r =>
    have ha1 : a + 1 ≤ S.length := by have := congrArg List.length hcr; rw [List.length_drop, List.length_cons] at this; omega
    have hdr : S.drop (a + 1) = r := by rw [← List.drop_drop, hcr]; rfl
    have HT := Lib.hid (qtake_ok A S a m 1 w hR hS ha (by rw [hcr]; simp))
    have ht1 : (S.drop a).take 1 = [c] := by rw [hcr]; rfl
    have hq : c.toNat < 256 := c.toNat_lt
    have hix : ∀ w, (Instr.index 9 (.string ⟨[c].toArray⟩) (.int .i64 0)).run Tryz.prog w = .ok (.int .u8 (c.toNat : Int)) w := fun w => index_str [c] 0 (by simp) w
    obtain ⟨P, hP⟩ : ∃ P, numQ (c :: r) s = P := ⟨_, rfl⟩
    have HPP := Lib.hid hP
    rw [hP]
    rw [numQ] at hP
    have HROW := Lib.hid (find_row s c.toNat (by omega) hq)
    generalize c.toNat = q at *
    have HRO := Lib.hid (fun w (h : GlobR w) => rowOf_any s q A w h)
    clear hcr hR
    go_enter Tryz.func178, Tryz.ntmps178
    go_upto_region 2 with (go_at_call 122; refine HT.out.mono ?_; rintro e w1 ⟨rfl, hr1, ho1⟩; rw [ht1])
    have HG1 := Lib.hid (hg.only ho1 hA)
    rcases HROW.out with ⟨hn, hu⟩ | ⟨row, hf, hu, hle⟩
    · have HRN := Lib.hid (show Calls Tryz.prog 186 #[.int .i64 (s : Int), .int .u8 (q : Int)] w1 (Gave 5 A w1) from (HRO.out w1 HG1.out).mono fun e w2 h => by
        rcases h with ⟨_, h⟩ | ⟨r', h', _⟩
        · exact h
        · rw [hn] at h'; cases h')
      obtain rfl : P = ⟨0, [], 5, 0⟩ := by rw [← hP, hu]; rfl
      clear hP hu HRO HROW
      go_wp2_with (go_at_call 186; refine HRN.out.mono ?_; rintro e w2 ⟨⟨f, hf, rfl, hc⟩, ho⟩)
      exact ⟨rfl, .of_gave (c := 5) rfl (by decide) ((⟨⟨f, hf, rfl, hc⟩, ho⟩ : Gave 5 A w1 _ w2).from ho1)⟩
    · obtain ⟨rs, rf, rl, z, least⟩ := row
      have HRN := Lib.hid (show Calls Tryz.prog 186 #[.int .i64 (s : Int), .int .u8 (q : Int)] w1 (fun e w' => e = .returned (.agg #[.int .i64 (rs : Int), .int .u8 (rf : Int), .int .u8 (rl : Int), .int .i64 (z : Int), .int .u64 (least : Int)]) ∧ Below w1.heap.size w1 w') from (HRO.out w1 HG1.out).mono fun e w2 h => by
        rcases h with ⟨h', _⟩ | ⟨r', h', h1, h2⟩
        · rw [hf] at h'; cases h'
        · rw [hf] at h'; cases h'; exact ⟨h1, h2⟩)
      have hfit := rowU_fit s q hq
      rw [hu] at hP hfit
      have hz8 : z ≤ 8 ∧ least ≤ 4294967296 ∧ (0 < z → q - rf = 0) := by
        rcases hfit with h | h | h
        · have : (z : Int) = -1 := by simpa using congrArg Prod.fst h
          omega
        · simp only at h; omega
        · simp only at h; omega
      simp only at hP
      rw [if_neg (by omega), Int.toNat_natCast] at hP
      simp only at hle
      have hsub : (q : Int) - (rf : Int) = ((q - rf : Nat) : Int) := by omega
      have HSUB := Lib.hid hsub
      clear hsub
      clear hu HRO HROW hfit hf
      go_upto_region 3 with (go_at_call 186; refine HRN.out.mono ?_; rintro e w2 ⟨rfl, hb2⟩)
      have HO3 := Lib.hid (ho1.trans (Only.of_below (b := A) (hb2.trans ((by0 w2 (.cells #[.int .i64 (rs : Int), .int .u8 (rf : Int), .int .u8 (rl : Int), .int .i64 (z : Int), .int .u64 (least : Int)] 260)).mono hb2.size))))
      have HN3 := Lib.hid (heap_alloc_new w2 (.cells #[.int .i64 (rs : Int), .int .u8 (rf : Int), .int .u8 (rl : Int), .int .i64 (z : Int), .int .u64 (least : Int)] 260))
      have hAl : A < w1.heap.size := lit_lt hr1
      have HR3 := Lib.hid (show RAt A S (a + 1) m (w2.alloc (.cells #[.int .i64 (rs : Int), .int .u8 (rf : Int), .int .u8 (rl : Int), .int .i64 (z : Int), .int .u64 (least : Int)] 260)) from lit_old _ ((hb2.block A hAl).trans hr1))
      have HNA := Lib.hid (show w2.heap.size ≠ A by have := hb2.size; omega)
      clear HRN HG1 hr1 ho1 hAl hb2 hg
      generalize w2.alloc (.cells #[.int .i64 (rs : Int), .int .u8 (rf : Int), .int .u8 (rl : Int), .int .i64 (z : Int), .int .u64 (least : Int)] 260) = w3 at *
      generalize w2.heap.size = N at *
      have g1 := (lit_cell HN3.out 1).trans rfl
      have g3 := (lit_cell HN3.out 3).trans rfl
      by_cases hsh : r.length < z
      · rw [if_pos hsh] at hP
        subst hP
        have HT2 := Lib.hid (qtake_short A S (a + 1) m z w3 HR3.out hS ha1 (by omega) (by rw [hdr]; exact hsh))
        clear hsh
        go_wp2_with (go_at_call 122; refine HT2.out.mono ?_; rintro e w4 ⟨⟨f, hf, rfl, hc⟩, ho⟩)
        exact ⟨rfl, .of_gave (c := 4) rfl (by decide) ((⟨⟨f, hf, rfl, hc⟩, ho⟩ : Gave 4 A w3 _ w4).from HO3.out)⟩
      · rw [if_neg hsh] at hP
        have HT2 := Lib.hid (qtake_ok A S (a + 1) m z w3 HR3.out hS ha1 (by rw [hdr]; omega))
        have hTl : (r.take z).length = z := by rw [List.length_take]; omega
        have HD := Lib.hid hdr
        have hbt := beN_lt (r.take z) (q - rf)
        rw [hTl] at hbt
        obtain ⟨T, hTe⟩ : ∃ T, (S.drop (a + 1)).take z = T := ⟨_, rfl⟩
        rw [← hdr, hTe] at hP hTl hbt
        generalize q - rf = n0 at *
        clear hsh hdr
        go_upto_region 5 with (go_at_call 122; refine HT2.out.mono ?_; rintro e w4 ⟨rfl, hr4, ho4⟩; rw [hTe]; obtain ⟨cap, w5, hconv, h8⟩ := row8 T w4)
        have HO5 := Lib.hid ((HO3.out.trans ho4).trans (Only.of_below (b := A) h8.b))
        have HR5 := Lib.hid (show RAt A S (a + 1 + z) m w5 from (h8.b.block A (lit_lt hr4)).trans hr4)
        have HN5 := Lib.hid ((h8.b.block N (Nat.lt_of_lt_of_le (lit_lt HN3.out) ho4.size)).trans ((ho4.block N (lit_lt HN3.out) HNA.out).trans HN3.out))
        have HC8 := Lib.hid h8.c
        generalize w4.heap.size = B4 at *
        clear hconv h8 hr4 ho4 HO3 HR3 HN3 g1 g3 HT2 HT ht1 hix
        have HTL := Lib.hid hTl
        have HBT := Lib.hid hbt
        have HZ := Lib.hid hz8
        have hz8' : (z : Int) ≤ 8 := by omega
        clear hbt hz8
        go_loopw [7, 27] (fun s7 s27 wr => wr = w5 ∧ ∃ k : Nat, s27 = .int .i64 (k : Int) ∧ k ≤ z ∧ s7 = .int .u64 ((beN n0 (T.take k) : Nat) : Int))
          (fun _ s27 _ => z - (intOf s27).toNat)
        case atStart => exact ⟨rfl, 0, rfl, Nat.zero_le _, by rw [HSUB.out]; rfl⟩
        case round =>
          obtain ⟨hwr, k, rfl, hk, rfl⟩ := hrel
          subst hwr
          by_cases hlt : k < z
          · have i1 : (k : Int) < (z : Int) := by omega
            have i0 : (0 : Int) ≤ (k : Int) := by omega
            have hc := HC8.out k (by rw [HTL.out]; exact hlt)
            have hq2 : T[k].toNat < 256 := T[k].toNat_lt
            have hstep : beN n0 (T.take (k + 1)) = 256 * beN n0 (T.take k) + T[k].toNat := by
              rw [List.take_succ_eq_append_getElem (by rw [HTL.out]; exact hlt), beN_snoc]
            have hsm : beN n0 (T.take k) < 72057594037927936 := by
              have h1 := beN_lt (T.take k) n0
              have h2 : (T.take k).length = k := by rw [List.length_take, HTL.out]; omega
              rw [h2, HZ.out.2.2 (by omega), Nat.zero_add, Nat.one_mul] at h1
              rw [HZ.out.2.2 (by omega)]
              exact Nat.lt_of_lt_of_le h1 (Nat.le_trans (Nat.pow_le_pow_right (by decide) (show k ≤ 7 by omega)) (by decide))
            have HST := Lib.hid hstep
            clear hstep
            generalize T[k].toNat = t at *
            generalize beN n0 (T.take k) = x at *
            go_wp2
            go_roundw
            case rel => exact ⟨trivial, k + 1, by simp, hlt, by rw [HST.out, or_step x t hq2 hsm]⟩
            case measure => simp [intOf] <;> omega
          · obtain rfl : k = z := by omega
            have hTt : T.take k = T := by rw [← HTL.out, List.take_length]
            rw [hTt]
            have g4 := (lit_cell HN5.out 4).trans rfl
            clear hlt hk
            by_cases hle2 : beN n0 T < least
            · rw [if_pos hle2] at hP
              subst hP
              have HG2 := Lib.hid (giveUp_any 5 A wr)
              have i1 : ((beN n0 T : Nat) : Int) < (least : Int) := by omega
              clear hle2
              go_wp2_with (go_at_call 123; refine HG2.out.mono ?_; rintro e w6 ⟨⟨f, hf, rfl, hc⟩, ho⟩)
              exact ⟨rfl, .of_gave (c := 5) rfl (by decide) ((⟨⟨f, hf, rfl, hc⟩, ho⟩ : Gave 5 A wr _ w6).from HO5.out)⟩
            · rw [if_neg hle2] at hP
              subst hP
              have i1 : ¬ ((beN n0 T : Nat) : Int) < (least : Int) := by omega
              clear hle2
              go_wp2
              go_ret
              exact ⟨fun _ => ⟨rfl, by rw [← Nat.add_assoc]; exact HR5.out, HO5.out⟩, fun h => absurd rfl h⟩

theorem numQ_n (left : List UInt8) (s : Nat) : (numQ left s).n < 18446744073709551616 ∧ ((numQ left s).c ≠ 0 → (numQ left s).n = 0 ∧ (numQ left s).m = 0) ∧ (numQ left s).m ≤ left.length ∧ (numQ left s).c ≤ 5 := by
  cases left with
  | nil => exact ⟨by simp [numQ], fun _ => ⟨rfl, rfl⟩, by simp [numQ], by simp [numQ]⟩
  | cons b r =>
    rw [numQ]
    have hq : b.toNat < 256 := b.toNat_lt
    have hfit := rowU_fit s b.toNat hq
    generalize rowU s b.toNat = R at *
    obtain ⟨sz, n0, least⟩ := R
    simp only at hfit ⊢
    by_cases h0 : sz < 0
    · rw [if_pos h0]; exact ⟨by decide, fun _ => ⟨rfl, rfl⟩, by simp, by decide⟩
    · rw [if_neg h0]
      obtain ⟨z, rfl⟩ : ∃ z : Nat, sz = (z : Int) := ⟨sz.toNat, by omega⟩
      rw [Int.toNat_natCast]
      have hz : z ≤ 8 ∧ n0 < 256 ∧ (0 < z → n0 = 0) := by
        rcases hfit with h | h | h
        · have : (z : Int) = -1 := by simpa using congrArg Prod.fst h
          omega
        · omega
        · omega
      by_cases h1 : r.length < z
      · rw [if_pos h1]; exact ⟨by decide, fun _ => ⟨rfl, rfl⟩, by simp, by decide⟩
      · rw [if_neg h1]
        have hN := beN_lt (r.take z) n0
        have hl : (r.take z).length = z := by rw [List.length_take]; omega
        rw [hl] at hN
        have h64 : beN n0 (r.take z) < 18446744073709551616 := by
          by_cases h : 0 < z
          · rw [hz.2.2 h, Nat.zero_add, Nat.one_mul] at hN
            rw [hz.2.2 h]
            exact Nat.lt_of_lt_of_le hN (Nat.le_trans (Nat.pow_le_pow_right (by decide) hz.1) (by decide))
          · obtain rfl : z = 0 := by omega
            rw [List.take_zero, beN]; omega
        by_cases h2 : beN n0 (r.take z) < least
        · rw [if_pos h2]; exact ⟨by decide, fun _ => ⟨rfl, rfl⟩, by simp, by decide⟩
        · rw [if_neg h2]
          exact ⟨h64, fun h => absurd rfl h, by simp only [List.length_cons]; omega, Nat.zero_le _⟩

/-- a length: a number that is not above the bound -/
def lenQ (left : List UInt8) (most s : Nat) : TP := if (numQ left s).c = 0 ∧ most < (numQ left s).n then ⟨0, [], 3, 0⟩ else numQ left s
structure LenR (A : Nat) (S : List UInt8) (a m : Nat) (P : TP) (w : World) (e : Ending) (w' : World) : Prop where
  ok : P.c = 0 → e = .returned (.int .i64 (P.n : Int)) ∧ RAt A S (a + P.m) m w' ∧ Only A w w'
  bad : P.c ≠ 0 → Gave P.c A w e w'
set_option maxRecDepth 100000 in
theorem length_any (A : Nat) (S : List UInt8) (a m s : Nat) (w : World) (hR : RAt A S a m w) (hg : GlobR w) (hA : 3 ≠ A) (hS : S.length ≤ 1000000) (ha : a ≤ S.length) (hs : s ≤ 4) (hm : m < 9223372036854775808) :
    Calls Tryz.prog 180 #[.pointer (some ⟨A, 0, none⟩), .int .i64 (s : Int)] w (LenR A S a m (lenQ (S.drop a) m s) w) := by
  have HC := Lib.hid (number_any A S a m s w hR hg hA hS ha hs)
  obtain ⟨hn64, _, _, _⟩ := numQ_n (S.drop a) s
  have HL := Lib.hid (show lenQ (S.drop a) m s = if (numQ (S.drop a) s).c = 0 ∧ m < (numQ (S.drop a) s).n then ⟨0, [], 3, 0⟩ else numQ (S.drop a) s from rfl)
  clear hR hg hS ha hs
  generalize lenQ (S.drop a) m s = Q at *
  generalize numQ (S.drop a) s = P at *
  by_cases hc : P.c = 0
  · have HC2 := Lib.hid (HC.out.mono fun e w' h => h.ok hc)
    clear HC
    have hm1 : (m : Int) % 18446744073709551616 = (m : Int) := by omega
    by_cases hlo : m < P.n
    · obtain rfl : Q = ⟨0, [], 3, 0⟩ := by rw [HL.out, if_pos ⟨hc, hlo⟩]
      have i1 : (m : Int) < (P.n : Int) := by omega
      clear HL hlo hn64 hc
      go_enter Tryz.func180, Tryz.ntmps180
      go_upto_region 2 with (go_at_call 178; refine HC2.out.mono ?_; rintro e w1 ⟨rfl, hr, ho⟩)
      have HO := Lib.hid ho
      have c2 := (lit_cell hr 2).trans rfl
      have HG2 := Lib.hid (giveUp_any 3 A w1)
      clear ho hr
      go_wp2_with (go_at_call 123; refine HG2.out.mono ?_; rintro e w6 ⟨⟨f, hf, rfl, hc⟩, ho⟩)
      exact ⟨rfl, ⟨fun h => absurd h (by decide), fun _ => (⟨⟨f, hf, rfl, hc⟩, ho⟩ : Gave 3 A w1 _ w6).from HO.out⟩⟩
    · obtain rfl : Q = P := by rw [HL.out, if_neg (fun h => hlo h.2)]
      have i1 : ¬ (m : Int) < (Q.n : Int) := by omega
      have i2 : wrap64 (Q.n : Int) = (Q.n : Int) := w64 _ (by omega) (by omega)
      have i3 : (Q.n : Int) ≤ 9223372036854775807 := by omega
      clear HL hlo hn64
      go_enter Tryz.func180, Tryz.ntmps180
      go_upto_region 2 with (go_at_call 178; refine HC2.out.mono ?_; rintro e w1 ⟨rfl, hr, ho⟩)
      have HO := Lib.hid ho
      have HR := Lib.hid hr
      have c2 := (lit_cell hr 2).trans rfl
      clear ho hr
      go_wp2
      go_ret
      exact ⟨fun _ => ⟨rfl, HR.out, HO.out⟩, fun h => absurd hc h⟩
  · have HC2 := Lib.hid (HC.out.mono fun e w' h => h.bad hc)
    obtain rfl : Q = P := by rw [HL.out, if_neg (fun h => hc h.1)]
    clear HC HL hn64
    go_enter Tryz.func180, Tryz.ntmps180
    go_wp2_with (go_at_call 178; refine HC2.out.mono ?_; rintro e w1 ⟨⟨f, hf, rfl, hf2⟩, ho⟩)
    exact ⟨rfl, ⟨fun h => absurd h hc, fun _ => ⟨⟨f, hf, rfl, hf2⟩, ho⟩⟩⟩
end Go.Proofs.YtlhmmplkdjibkaaGreatDoor
/- The program's fault; what recovers; an attempt. -/
namespace Go.Proofs.YtlhmmplkdjibkaaGreatDoor
open Go.RowKit Go.Extern.Stop Go.Stop Go.Extern

/-- a fault that was made -/
structure Made (c a : Int) (g : Nat) (w w' : World) : Prop where
  l : w.heap.size ≤ g
  h : w'.heap[g]? = some (.cells #[.int .i64 c, .int .i64 a] 42 (0, 0))
  b : Below w.heap.size w w'

set_option maxRecDepth 100000 in
set_option maxHeartbeats 4000000 in
theorem qfault_any (f b : Nat) (S : List UInt8) (a m c : Nat) (w : World) (hg : GlobE w) (h0 : w.heap[f]? = some (.cells #[.int .i64 (c : Int), .int .i64 0] 42 (0, 0))) (hR : RAt b S a m w) :
    Calls Tryz.prog 164 #[.pointer (some ⟨b, 0, none⟩), .iface 85 (.pointer (some ⟨f, 0, none⟩))] w fun e w' => ∃ g, e = .returned (.iface 85 (.pointer (some ⟨g, 0, none⟩))) ∧ Made (c : Int) (a : Int) g w w' := by
  have hfl := lit_lt h0
  have hbl := lit_lt hR
  have hgl : 0 < w.heap.size := World.block_lt_of_cell? w _ hg
  have hgA : (w.alloc (.cells #[.pointer none] 85)).cell? ⟨0, 0, none⟩ = some (.iface 203 (.agg #[.pointer (some ⟨4, 38, none⟩)])) := by
    rw [World.cell?_alloc_lt _ _ ⟨0, 0, none⟩ hgl]; exact hg
  have HA := Lib.hid ((as_hit ⟨f, 0, none⟩ ⟨w.heap.size, 0, none⟩ (.pointer none) (w.alloc (.cells #[.pointer none] 85)) hgA (by simp) (by simp)).mono (fun _ _ h => after_as (f := f) h))
  have H0 := Lib.hid h0
  have HR := Lib.hid hR
  clear hgA hgl hg h0 hR
  go_enter Tryz.func164, Tryz.ntmps164
  go_wp2_with (go_at_call 34; refine HA.out.mono ?_; rintro e w1 ⟨rfl, hw1, b1⟩; have k0 := (b1.cell (p := ⟨f, 0, none⟩) hfl).trans ((lit_cell H0.out 0).trans rfl); have k1 := (b1.cell (p := ⟨b, 1, none⟩) hbl).trans ((lit_cell HR.out 1).trans rfl); have HB1 := Lib.hid b1; clear b1)
  go_ret
  exact ⟨_, rfl, HB1.out.size, heap_alloc_new w1 _, HB1.out.alloc HB1.out.size _⟩

theorem to_error (v : Value) (w : World) : (Instr.typeAssert (.iface 85 v) 20 38 true).run Tryz.prog w = .ok (.tuple #[.iface 85 v, .bool true]) w := run_typeAssert_hasB Tryz.underlying38 (by kernel_rfl) v 20 w

set_option maxRecDepth 100000 in
set_option maxHeartbeats 4000000 in
theorem catch_panicking (f b rv ev : Nat) (S : List UInt8) (a m c : Nat) (x : Value) (older : List PanicEntry) (w : World) (hg : GlobE w) (h0 : w.heap[f]? = some (.cells #[.int .i64 (c : Int), .int .i64 0] 42 (0, 0))) (hR : RAt b S a m w)
    (hrv : w.heap[rv]? = some (.cells #[.pointer (some ⟨b, 0, none⟩)] 121 (0, 0))) (hev : w.heap[ev]? = some (.cells #[x] 38 (0, 0))) :
    CallsD Tryz.prog 163 #[.pointer (some ⟨rv, 0, none⟩), .pointer (some ⟨ev, 0, none⟩)] (.panicking ({ v := .iface 85 (.pointer (some ⟨f, 0, none⟩)), recovered := false } :: older)) w fun e u' w' =>
      e = .returned (.tuple #[]) ∧ u' = .panicking ({ v := .iface 85 (.pointer (some ⟨f, 0, none⟩)), recovered := true } :: older) ∧ ∃ g w1, Made (c : Int) (a : Int) g w w1 ∧ w' = w1.setCell ⟨ev, 0, none⟩ (.iface 85 (.pointer (some ⟨g, 0, none⟩))) := by
  have HF := Lib.hid (qfault_any f b S a m c w hg h0 hR)
  have hta := to_error
  have r0 := (lit_cell hrv 0).trans rfl
  clear hg h0 hR
  refine callsD_of_wpS Tryz.func163 rfl fun c₀ cs hu => ?_
  simp only [Tryz.ntmps163, List.size_toArray, List.length_cons, List.length_nil, Nat.reduceAdd, Nat.reduceSub, Array.replicate_succ, Array.replicate_zero, List.push_toArray, List.append_toArray, List.nil_append, List.cons_append]
  apply wpS_seq
  apply wpS_region
  simp [wpOpsS, go_sem, recoverD, hu, Exit.thenS, hta]
  refine wpS_of_wp ?_
  go_wp2_with (go_at_call 164; refine HF.out.mono ?_; rintro e w1 ⟨g, rfl, hmade⟩; have e0 := (lit_cell ((hmade.b.block ev (lit_lt hev)).trans hev) 0).trans rfl; have e1 := lit_free ((hmade.b.block ev (lit_lt hev)).trans hev) 0)
  exact ⟨rfl, _, rfl, _, results_none rfl _ _ _, rfl, rfl, _, _, hmade, rfl⟩

set_option maxRecDepth 100000 in
set_option maxHeartbeats 4000000 in
theorem catch_idle (rv ev : Nat) (w : World) :
    CallsD Tryz.prog 163 #[.pointer (some ⟨rv, 0, none⟩), .pointer (some ⟨ev, 0, none⟩)] .returning w fun e u' w' => e = .returned (.tuple #[]) ∧ u' = .returning ∧ w' = w := by
  have hta : ∀ w, (Instr.typeAssert .nilIface 20 38 true).run Tryz.prog w = .ok (.tuple #[.nilIface, .bool false]) w := fun w => by kernel_rfl
  refine callsD_of_wpS Tryz.func163 rfl fun c₀ cs hu => ?_
  simp only [Tryz.ntmps163, List.size_toArray, List.length_cons, List.length_nil, Nat.reduceAdd, Nat.reduceSub, Array.replicate_succ, Array.replicate_zero, List.push_toArray, List.append_toArray, List.nil_append, List.cons_append]
  apply wpS_seq
  apply wpS_region
  simp [wpOpsS, go_sem, recoverD, hu, Exit.thenS, hta]
  refine wpS_of_wp ?_
  go_wp2
  cases c₀
  simp only at hu
  subst hu
  exact ⟨rfl, _, rfl, _, results_none rfl _ _ _, rfl, rfl, rfl⟩

/-- all blocks but A and x are as they were -/
structure Duo (A x : Nat) (w w' : World) : Prop where
  os : w'.os = w.os
  tape : w'.tape = w.tape
  output : w'.output = w.output
  size : w.heap.size ≤ w'.heap.size
  block : ∀ k, k < w.heap.size → k ≠ A → k ≠ x → w'.heap[k]? = w.heap[k]?

set_option maxRecDepth 100000 in
set_option maxHeartbeats 4000000 in
theorem attempt_ok (b x : Nat) (S : List UInt8) (a a' m : Nat) (X : Obj) (F : FuncId) (cap : Array Value) (w : World) (hent : ∀ args w, (callFunc F args).run Tryz.prog w = .ok (.enter F args) w) (hR : RAt b S a m w) (hx : x < w.heap.size) (hxb : x ≠ b)
    (hread : ∀ w4 A, Below w.heap.size w w4 → w.heap.size ≤ A → RAt A S a m w4 → Calls Tryz.prog F (#[.pointer (some ⟨A, 0, none⟩)] ++ cap) w4 fun e w5 => e = .returned (.tuple #[]) ∧ RAt A S a' m w5 ∧ Duo A x w4 w5 ∧ w5.heap[x]? = some X) :
    Calls Tryz.prog 120 #[.pointer (some ⟨b, 0, none⟩), .func (.func F) #[] cap] w fun e w' => e = .returned .nilIface ∧ RAt b S a' m w' ∧ w'.heap[x]? = some X ∧ Duo b x w w' := by
  have hmf : ∀ (fn : Fn) (first cap : Array Value) (w : World), (Instr.makeFunc fn first cap).run Tryz.prog w = .ok (.func fn first cap) w := fun _ _ _ _ => rfl
  have HRD := Lib.hid hread
  have hbl := lit_lt hR
  have HR := Lib.hid hR
  have c0 := (lit_cell hR 0).trans rfl
  have c1 := (lit_cell hR 1).trans rfl
  have c2 := (lit_cell hR 2).trans rfl
  clear hread hR
  go_enter_defers Tryz.func120, Tryz.ntmps120
  go_wp2_with fail
  refine (HRD.out _ _ ((by0 w _).trans (((Below.refl _ _).alloc (by simp) _).alloc (by simp <;> omega) _)) (by omega) (show RAt (w.heap.size + 1 + 1) S a m _ from ?_)).mono ?_
  · rw [RAt, show w.heap.size + 1 + 1 = ((w.alloc (.cells #[.pointer (some ⟨b, 0, none⟩)] 121)).alloc (.cells #[.nilIface] 38)).heap.size by simp]
    exact heap_alloc_new _ _
  rintro e w5 ⟨rfl, hr5, ht5, hX⟩
  have hrv : w5.heap[w.heap.size]? = some (.cells #[.pointer (some ⟨b, 0, none⟩)] 121 (0, 0)) := (ht5.block _ (by simp <;> omega) (by omega) (by omega)).trans (lit_old _ (lit_old _ (heap_alloc_new w _)))
  have hev : w5.heap[w.heap.size + 1]? = some (.cells #[.nilIface] 38 (0, 0)) := (ht5.block _ (by simp <;> omega) (by omega) (by omega)).trans (lit_old _ (by rw [show w.heap.size + 1 = (w.alloc (.cells #[.pointer (some ⟨b, 0, none⟩)] 121)).heap.size by simp]; exact heap_alloc_new _ _))
  have hb5 : RAt b S a m w5 := (ht5.block _ (by simp <;> omega) (by omega) (by omega)).trans (lit_old _ (lit_old _ (lit_old _ HR.out)))
  have HT5 := Lib.hid ht5
  have r0 := (lit_cell hrv 0).trans rfl
  have e0 := (lit_cell hev 0).trans rfl
  have e1 := lit_free hev 0
  have b0 := (lit_cell hb5 0).trans rfl
  have b1 := (lit_cell hb5 1).trans rfl
  have b2 := (lit_cell hb5 2).trans rfl
  have f0 := lit_free hb5 0
  have f1 := lit_free hb5 1
  have f2 := lit_free hb5 2
  have a0 := (lit_cell hr5 0).trans rfl
  have a1 := (lit_cell hr5 1).trans rfl
  have a2 := (lit_cell hr5 2).trans rfl
  have HXX := Lib.hid hX
  have HB5 := Lib.hid hb5
  have HE5 := Lib.hid hev
  clear ht5 hr5 hb5 hev hrv hX HRD c0 c1 c2 HR
  go_wp2
  have hW1 : RAt b S a' m ((((w5.setCell ⟨b, 0, none⟩ (.string ⟨S.toArray⟩)).setCell ⟨b, 1, none⟩ (.int .i64 (a' : Int))).setCell ⟨b, 2, none⟩ (.int .i64 (m : Int))).setCell ⟨w.heap.size + 1, 0, none⟩ .nilIface) :=
    (lit_far _ (by omega)).trans ((lit_set _ (lit_set _ (lit_set _ HB5.out))).trans rfl)
  have hW2 : ((((w5.setCell ⟨b, 0, none⟩ (.string ⟨S.toArray⟩)).setCell ⟨b, 1, none⟩ (.int .i64 (a' : Int))).setCell ⟨b, 2, none⟩ (.int .i64 (m : Int))).setCell ⟨w.heap.size + 1, 0, none⟩ .nilIface).heap[w.heap.size + 1]? = some (.cells #[.nilIface] 38 (0, 0)) :=
    (lit_set _ ((lit_far _ (by omega)).trans ((lit_far _ (by omega)).trans ((lit_far _ (by omega)).trans HE5.out)))).trans rfl
  have hW3 : ((((w5.setCell ⟨b, 0, none⟩ (.string ⟨S.toArray⟩)).setCell ⟨b, 1, none⟩ (.int .i64 (a' : Int))).setCell ⟨b, 2, none⟩ (.int .i64 (m : Int))).setCell ⟨w.heap.size + 1, 0, none⟩ .nilIface).heap[x]? = some X :=
    (lit_far _ (by omega)).trans ((lit_far _ hxb).trans ((lit_far _ hxb).trans ((lit_far _ hxb).trans HXX.out)))
  have hW4 : Duo b x w ((((w5.setCell ⟨b, 0, none⟩ (.string ⟨S.toArray⟩)).setCell ⟨b, 1, none⟩ (.int .i64 (a' : Int))).setCell ⟨b, 2, none⟩ (.int .i64 (m : Int))).setCell ⟨w.heap.size + 1, 0, none⟩ .nilIface) := by
    have h5 := HT5.out
    refine ⟨h5.os, h5.tape, h5.output, ?_, fun k hk h1 h2 => ?_⟩
    · have := h5.size
      simp at this
      simp [World.setCell]
      omega
    · exact (lit_far _ (by omega)).trans ((lit_far _ h1).trans ((lit_far _ h1).trans ((lit_far _ h1).trans ((h5.block k (by simp <;> omega) (by omega) h2).trans ((heap_alloc_old _ _ (by simp <;> omega)).trans ((heap_alloc_old _ _ (by simp <;> omega)).trans (heap_alloc_old _ _ hk)))))))
  generalize (((w5.setCell ⟨b, 0, none⟩ (.string ⟨S.toArray⟩)).setCell ⟨b, 1, none⟩ (.int .i64 (a' : Int))).setCell ⟨b, 2, none⟩ (.int .i64 (m : Int))).setCell ⟨w.heap.size + 1, 0, none⟩ .nilIface = wf at *
  refine leaves_cons (f := 163) (args := #[.pointer (some ⟨w.heap.size, 0, none⟩), .pointer (some ⟨w.heap.size + 1, 0, none⟩)]) (by simp) (by simp [go_sem]) ?_
  refine (catch_idle w.heap.size (w.heap.size + 1) wf).mono ?_
  rintro e u' w'' ⟨rfl, rfl, rfl⟩
  have z0 := (lit_cell hW2 0).trans rfl
  refine ⟨.nilIface, by simp [results, Tryz.results120, go_sem, z0], rfl, hW1, hW3, hW4⟩

set_option maxRecDepth 100000 in
set_option maxHeartbeats 4000000 in
theorem attempt_bad (b : Nat) (S : List UInt8) (a m c : Nat) (F : FuncId) (cap : Array Value) (w : World) (hent : ∀ args w, (callFunc F args).run Tryz.prog w = .ok (.enter F args) w) (hR : RAt b S a m w) (hg : GlobE w)
    (hread : ∀ w4 A, Below w.heap.size w w4 → w.heap.size ≤ A → RAt A S a m w4 → Calls Tryz.prog F (#[.pointer (some ⟨A, 0, none⟩)] ++ cap) w4 (Gave c A w4)) :
    Calls Tryz.prog 120 #[.pointer (some ⟨b, 0, none⟩), .func (.func F) #[] cap] w fun e w' => ∃ g, e = .returned (.iface 85 (.pointer (some ⟨g, 0, none⟩))) ∧ Made (c : Int) (a : Int) g w w' := by
  have hmf : ∀ (fn : Fn) (first cap : Array Value) (w : World), (Instr.makeFunc fn first cap).run Tryz.prog w = .ok (.func fn first cap) w := fun _ _ _ _ => rfl
  have HRD := Lib.hid hread
  have hbl := lit_lt hR
  have HR := Lib.hid hR
  have HG := Lib.hid hg
  have c0 := (lit_cell hR 0).trans rfl
  have c1 := (lit_cell hR 1).trans rfl
  have c2 := (lit_cell hR 2).trans rfl
  clear hread hR hg
  go_enter_defers Tryz.func120, Tryz.ntmps120
  go_wp2_with fail
  refine (HRD.out _ _ ((by0 w _).trans (((Below.refl _ _).alloc (by simp) _).alloc (by simp <;> omega) _)) (by omega) (show RAt (w.heap.size + 1 + 1) S a m _ from ?_)).mono ?_
  · rw [RAt, show w.heap.size + 1 + 1 = ((w.alloc (.cells #[.pointer (some ⟨b, 0, none⟩)] 121)).alloc (.cells #[.nilIface] 38)).heap.size by simp]
    exact heap_alloc_new _ _
  rintro e w5 ⟨⟨f, hf, rfl, hfc⟩, ht5⟩
  have hrv : w5.heap[w.heap.size]? = some (.cells #[.pointer (some ⟨b, 0, none⟩)] 121 (0, 0)) := (ht5.block _ (by simp <;> omega) (by omega)).trans (lit_old _ (lit_old _ (heap_alloc_new w _)))
  have hev : w5.heap[w.heap.size + 1]? = some (.cells #[.nilIface] 38 (0, 0)) := (ht5.block _ (by simp <;> omega) (by omega)).trans (lit_old _ (by rw [show w.heap.size + 1 = (w.alloc (.cells #[.pointer (some ⟨b, 0, none⟩)] 121)).heap.size by simp]; exact heap_alloc_new _ _))
  have hb5 : RAt b S a m w5 := (ht5.block _ (by simp <;> omega) (by omega)).trans (lit_old _ (lit_old _ (lit_old _ HR.out)))
  have hbel : Below w.heap.size w w5 := by
    refine ⟨ht5.os, ht5.tape, ht5.output, ?_, fun k hk => ?_⟩
    · have := ht5.size
      simp at this
      omega
    · exact (ht5.block k (by simp <;> omega) (by omega)).trans ((heap_alloc_old _ _ (by simp <;> omega)).trans ((heap_alloc_old _ _ (by simp <;> omega)).trans (heap_alloc_old _ _ hk)))
  refine leaves_cons (f := 163) (args := #[.pointer (some ⟨w.heap.size, 0, none⟩), .pointer (some ⟨w.heap.size + 1, 0, none⟩)]) (by simp) (by simp [go_sem]) ?_
  refine (catch_panicking f b w.heap.size (w.heap.size + 1) S a m c .nilIface [] w5 (HG.out.next hbel) hfc hb5 hrv hev).mono ?_
  rintro e u' w'' ⟨rfl, rfl, g, w6, hm, rfl⟩
  have hs5 : w.heap.size + 1 < w5.heap.size := lit_lt hev
  have hW2 : (w6.setCell ⟨w.heap.size + 1, 0, none⟩ (.iface 85 (.pointer (some ⟨g, 0, none⟩)))).heap[w.heap.size + 1]? = some (.cells #[.iface 85 (.pointer (some ⟨g, 0, none⟩))] 38 (0, 0)) := (lit_set _ ((hm.b.block _ hs5).trans hev)).trans rfl
  have z0 := (lit_cell hW2 0).trans rfl
  have hl := hm.l
  exact ⟨_, by simp [results, Tryz.results120, go_sem, z0], g, rfl, by omega, (lit_far _ (by omega)).trans hm.h, (hbel.trans (hm.b.mono (by omega))).setCell (by simp) _⟩
end Go.Proofs.YtlhmmplkdjibkaaGreatDoor
/- strings.Clone: the same bytes. -/
namespace Go.Proofs.YtlhmmplkdjibkaaGreatDoor
open Go.RowKit

set_option maxHeartbeats 4000000 in
set_option maxRecDepth 100000 in
theorem sclone_any (s : ByteArray) (w : World) (hlim : s.size ≤ 1000000) :
    Calls Tryz.prog 187 #[.string s] w fun e w' => e = .returned (.string s) ∧ Below w.heap.size w w' := by
  by_cases h0 : s.size = 0
  · have hs : s = ⟨#[]⟩ := by
      apply ByteArray.ext
      exact Array.eq_empty_of_size_eq_zero h0
    subst hs
    go_enter Tryz.func187, Tryz.ntmps187
    go_wp2
    go_ret
    exact ⟨rfl, Below.refl _ _⟩
  · obtain ⟨i0, hi, hz0, hz1, hz2⟩ := info_parts (show (Tryz.prog.info? 5).map (fun i => (i.zero, i.size, i.bytes)) = some (some (Value.int .u8 0), 1, 1) by kernel_rfl)
    have hinfo : (Tryz.prog.info? 5).map (·.size) = some 1 := by rw [hi]; simp [hz1]
    have hco : Tryz.prog.cellsOf 5 = 1 := by simp [Program.cellsOf, hi, hz1]
    obtain ⟨M, hM⟩ : ∃ M, M = madeCells (Value.int .u8 0).cells (((s.size : Nat) : Int).toNat * i0.size) := ⟨_, rfl⟩
    have hMs : M.size = s.size := by rw [hM, size_madeCells, hz1]; simp
    have hmk : ∀ W : World, (Instr.makeSlice 77 (.int .i64 (s.size : Int)) (.int .i64 (s.size : Int))).run Tryz.prog W = .ok (.slice (some ⟨W.heap.size, 0, none⟩) s.size s.size) (W.alloc (.cells M 5)) := fun W => by
      have h := run_make (P := Tryz.prog) W 77 5 i0 (.int .u8 0) Tryz.underlying77 hi hz0 .i64 .i64 (s.size : Int) (s.size : Int) (by omega) (by omega) (by rw [hz2]; omega) (by omega)
      rw [← hM] at h
      simpa using h
    clear hM
    have hcp := Lib.run_copy_row_string (P := Tryz.prog) (w.alloc (.cells M 5)) 77 9 3 5 w.heap.size 0 s.size s.size s M 5 Tryz.underlying77 hinfo (heap_alloc_new w _) (Nat.le_refl _) (by omega)
    obtain ⟨Y, hY⟩ : ∃ Y, Y = (M.toList.take 0 ++ Lib.byteCells s.data.toList ++ M.toList.drop (0 + s.size)).toArray := ⟨_, rfl⟩
    rw [← hY] at hcp
    have hYl : Y.toList = Lib.byteCells s.data.toList := by
      rw [hY, List.toList_toArray, List.take_zero, List.nil_append, List.drop_of_length_le (by rw [Array.length_toList]; omega), List.append_nil]
    have hYs : Y.size = s.size := by rw [← Array.length_toList, hYl, Lib.byteCells_length, ← Lib.size_eq]
    have hgY : ((w.alloc (.cells M 5)).setRow w.heap.size Y).heap[w.heap.size]? = some (.cells Y 5 (0, 0)) := setRow_heap _ _ M _ 5 (0, 0) (heap_alloc_new w _)
    have hne : s.data.toList ≠ [] := fun e => h0 (by rw [Lib.size_eq, e]; rfl)
    have hUS := Lib.run_unsafeString_row (P := Tryz.prog) ((w.alloc (.cells M 5)).setRow w.heap.size Y) 248 3 9 5 Tryz.underlying248 hco w.heap.size Y.size (by unfold World.shape?; rw [hgY]) s.data.toList hne (by rw [← Lib.size_eq]; omega) (by rw [← Lib.size_eq]; omega)
      (fun j x hx => Lib.cells_of_row hgY Y.size j _ (by rw [List.take_of_length_le (by rw [Array.length_toList]; exact Nat.le_refl _), hYl]; simp [Lib.byteCells, hx]))
    rw [← Lib.size_eq] at hUS
    clear hY
    go_enter Tryz.func187, Tryz.ntmps187
    go_wp2
    go_ret
    have hb1 : Below w.heap.size w (w.alloc (.cells M 5)) := by0 w _
    have hb2 : Below w.heap.size (w.alloc (.cells M 5)) ((w.alloc (.cells M 5)).setRow w.heap.size Y) := ⟨rfl, rfl, rfl, by simp, fun k hk => setRow_other _ _ _ _ (by omega)⟩
    exact ⟨rfl, Lib.below_freeze (hb1.trans hb2) (p := ⟨w.heap.size, 0, none⟩) (Nat.le_refl _) _⟩

set_option maxRecDepth 100000 in
theorem clone_any (L : List UInt8) (w : World) (hl : L.length ≤ 1000000) :
    Calls Tryz.prog 182 #[.string ⟨L.toArray⟩] w fun e w' => e = .returned (.string ⟨L.toArray⟩) ∧ Below w.heap.size w w' := by
  have HC := Lib.hid (sclone_any ⟨L.toArray⟩ w hl)
  clear hl
  go_enter Tryz.func182, Tryz.ntmps182
  go_wp2_with (go_at_call 187; refine HC.out.mono ?_; rintro e w1 ⟨rfl, h1⟩)
  go_ret
  exact ⟨rfl, h1⟩
end Go.Proofs.YtlhmmplkdjibkaaGreatDoor
/- What is read in an attempt; the reader's calls. -/
namespace Go.Proofs.YtlhmmplkdjibkaaGreatDoor
open Go.RowKit Go.Extern.Stop Go.Stop Go.Extern

theorem takeP_numQ (left : List UInt8) (m : Nat) : takeP left m 0 = numQ left 0 := by
  cases left with
  | nil => rfl
  | cons b r => simp [takeP, numQ]
theorem takeP_len (left : List UInt8) (m s : Nat) (h0 : s ≠ 0) (h1 : s ≠ 1) (h2 : s ≠ 2) : takeP left m s = lenQ left m s := by
  cases left with
  | nil => rfl
  | cons b r =>
    simp only [takeP, lenQ, numQ, h1, h2]
    repeat' split
    all_goals simp_all
/-- a counted thing: a length, and so many bytes behind it -/
theorem takeP_cnt (left : List UInt8) (m s : Nat) (h : s = 1 ∨ s = 2) : takeP left m s =
    if (lenQ left m s).c ≠ 0 then ⟨0, [], (lenQ left m s).c, 0⟩
    else if left.length - (lenQ left m s).m < (lenQ left m s).n then ⟨0, [], 4, 0⟩
    else ⟨(lenQ left m s).n, (left.drop (lenQ left m s).m).take (lenQ left m s).n, 0, (lenQ left m s).m + (lenQ left m s).n⟩ := by
  have hs0 : s ≠ 0 := by omega
  cases left with
  | nil => rfl
  | cons b r =>
    rw [takeP, lenQ, numQ]
    generalize rowU s b.toNat = R
    obtain ⟨sz, n0, least⟩ := R
    simp only
    by_cases h0 : sz < 0
    · simp [h0]
    · rw [if_neg h0, if_neg h0]
      generalize sz.toNat = z
      by_cases h1 : r.length < z
      · simp [h1]
      · rw [if_neg h1, if_neg h1]
        generalize hn : beN n0 (r.take z) = N
        by_cases h2 : N < least
        · simp [h2]
        · rw [if_neg h2, if_neg h2]
          by_cases h3 : m < N
          · simp [h3, hs0]
          · have e : (r.length + 1 - (1 + z) < N) = (r.length - z < N) := by
              rw [show r.length + 1 - (1 + z) = r.length - z by omega]
            have e2 : (b :: r).drop (1 + z) = r.drop z := by rw [Nat.add_comm, List.drop_succ_cons]
            simp only [h3, hs0, h, e, e2, ne_eq, not_true_eq_false, not_false_eq_true, and_false, if_true, if_false, List.length_cons]

theorem Duo.of_only {A x : Nat} {w w' : World} (h : Only A w w') : Duo A x w w' := ⟨h.os, h.tape, h.output, h.size, fun k hk h1 _ => h.block k hk h1⟩
theorem Duo.set {A x : Nat} {w w' : World} (h : Duo A x w w') (v : Value) : Duo A x w (w'.setCell ⟨x, 0, none⟩ v) :=
  ⟨h.os, h.tape, h.output, by have := h.size; simp [World.setCell] <;> omega, fun k hk h1 h2 => (lit_far v h2).trans (h.block k hk h1 h2)⟩

set_option maxRecDepth 100000 in
theorem num1_ok (A x : Nat) (S : List UInt8) (a m : Nat) (w : World) (hR : RAt A S a m w) (hg : GlobR w) (hA : 3 ≠ A) (hS : S.length ≤ 1000000) (ha : a ≤ S.length)
    (hx : w.heap[x]? = some (.cells #[.int .u64 0] 22 (0, 0))) (hxA : x ≠ A) (hc : (numQ (S.drop a) 0).c = 0) :
    Calls Tryz.prog 177 #[.pointer (some ⟨A, 0, none⟩), .pointer (some ⟨x, 0, none⟩)] w fun e w' => e = .returned (.tuple #[]) ∧ RAt A S (a + (numQ (S.drop a) 0).m) m w' ∧ Duo A x w w' ∧ w'.heap[x]? = some (.cells #[.int .u64 ((numQ (S.drop a) 0).n : Int)] 22 (0, 0)) := by
  have HC := Lib.hid ((number_any A S a m 0 w hR hg hA hS ha (by decide)).mono fun e w' h => h.ok hc)
  have HX := Lib.hid hx
  clear hR hg hS ha hx
  generalize numQ (S.drop a) 0 = P at *
  go_enter Tryz.func177, Tryz.ntmps177
  go_wp2_with (go_at_call 178; refine HC.out.mono ?_; rintro e w1 ⟨rfl, hr, ho⟩; have hx1 := (ho.block x (lit_lt HX.out) hxA).trans HX.out; have x0 := (lit_cell hx1 0).trans rfl; have x1 := lit_free hx1 0)
  refine bodyPost_end (results_none rfl _ _ _) rfl ⟨rfl, (lit_far _ hxA.symm).trans hr, (Duo.of_only ho).set _, (lit_set _ hx1).trans rfl⟩
set_option maxRecDepth 100000 in
theorem num1_bad (A x : Nat) (S : List UInt8) (a m : Nat) (w : World) (hR : RAt A S a m w) (hg : GlobR w) (hA : 3 ≠ A) (hS : S.length ≤ 1000000) (ha : a ≤ S.length) (hc : (numQ (S.drop a) 0).c ≠ 0) :
    Calls Tryz.prog 177 #[.pointer (some ⟨A, 0, none⟩), .pointer (some ⟨x, 0, none⟩)] w (Gave (numQ (S.drop a) 0).c A w) := by
  have HC := Lib.hid ((number_any A S a m 0 w hR hg hA hS ha (by decide)).mono fun e w' h => h.bad hc)
  clear hR hg hS ha hc
  generalize numQ (S.drop a) 0 = P at *
  go_enter Tryz.func177, Tryz.ntmps177
  go_wp2_with (go_at_call 178; refine HC.out.mono ?_; rintro e w1 ⟨⟨f, hf, rfl, hfc⟩, ho⟩)
  exact ⟨rfl, ⟨f, hf, rfl, hfc⟩, ho⟩
set_option maxRecDepth 100000 in
theorem begun1_ok (A x y : Nat) (S : List UInt8) (a m s : Nat) (w : World) (hR : RAt A S a m w) (hg : GlobR w) (hA : 3 ≠ A) (hS : S.length ≤ 1000000) (ha : a ≤ S.length) (hs : s ≤ 4) (hm : m < 9223372036854775808)
    (hy : w.heap[y]? = some (.cells #[.int .i64 (s : Int)] 3 (0, 0))) (hx : w.heap[x]? = some (.cells #[.int .i64 0] 3 (0, 0))) (hxA : x ≠ A) (hc : (lenQ (S.drop a) m s).c = 0) :
    Calls Tryz.prog 179 #[.pointer (some ⟨A, 0, none⟩), .pointer (some ⟨y, 0, none⟩), .pointer (some ⟨x, 0, none⟩)] w fun e w' => e = .returned (.tuple #[]) ∧ RAt A S (a + (lenQ (S.drop a) m s).m) m w' ∧ Duo A x w w' ∧ w'.heap[x]? = some (.cells #[.int .i64 ((lenQ (S.drop a) m s).n : Int)] 3 (0, 0)) := by
  have HC := Lib.hid ((length_any A S a m s w hR hg hA hS ha hs hm).mono fun e w' h => h.ok hc)
  have HX := Lib.hid hx
  have y0 := (lit_cell hy 0).trans rfl
  clear hR hg hS ha hx hm hs hy
  generalize lenQ (S.drop a) m s = P at *
  go_enter Tryz.func179, Tryz.ntmps179
  go_wp2_with (go_at_call 180; refine HC.out.mono ?_; rintro e w1 ⟨rfl, hr, ho⟩; have hx1 := (ho.block x (lit_lt HX.out) hxA).trans HX.out; have x0 := (lit_cell hx1 0).trans rfl; have x1 := lit_free hx1 0)
  refine bodyPost_end (results_none rfl _ _ _) rfl ⟨rfl, (lit_far _ hxA.symm).trans hr, (Duo.of_only ho).set _, (lit_set _ hx1).trans rfl⟩
set_option maxRecDepth 100000 in
theorem begun1_bad (A x y : Nat) (S : List UInt8) (a m s : Nat) (w : World) (hR : RAt A S a m w) (hg : GlobR w) (hA : 3 ≠ A) (hS : S.length ≤ 1000000) (ha : a ≤ S.length) (hs : s ≤ 4) (hm : m < 9223372036854775808)
    (hy : w.heap[y]? = some (.cells #[.int .i64 (s : Int)] 3 (0, 0))) (hc : (lenQ (S.drop a) m s).c ≠ 0) :
    Calls Tryz.prog 179 #[.pointer (some ⟨A, 0, none⟩), .pointer (some ⟨y, 0, none⟩), .pointer (some ⟨x, 0, none⟩)] w (Gave (lenQ (S.drop a) m s).c A w) := by
  have HC := Lib.hid ((length_any A S a m s w hR hg hA hS ha hs hm).mono fun e w' h => h.bad hc)
  have y0 := (lit_cell hy 0).trans rfl
  clear hR hg hS ha hm hs hy hc
  generalize lenQ (S.drop a) m s = P at *
  go_enter Tryz.func179, Tryz.ntmps179
  go_wp2_with (go_at_call 180; refine HC.out.mono ?_; rintro e w1 ⟨⟨f, hf, rfl, hfc⟩, ho⟩)
  exact ⟨rfl, ⟨f, hf, rfl, hfc⟩, ho⟩

theorem lenQ_n (left : List UInt8) (m s : Nat) : (lenQ left m s).m ≤ left.length ∧ ((lenQ left m s).c = 0 → (lenQ left m s).n ≤ m) ∧ (lenQ left m s).c ≤ 5 := by
  obtain ⟨_, _, h3, h4⟩ := numQ_n left s
  unfold lenQ
  split
  · exact ⟨Nat.zero_le _, (fun h => by cases h), by decide⟩
  · rename_i h
    exact ⟨h3, fun hc => by
      have := fun hn => h ⟨hc, hn⟩
      omega, h4⟩

set_option maxRecDepth 100000 in
theorem counted1_any (A x y : Nat) (S : List UInt8) (a m s : Nat) (w : World) (hR : RAt A S a m w) (hg : GlobR w) (hA : 3 ≠ A) (hS : S.length ≤ 1000000) (ha : a ≤ S.length) (hs : s = 1 ∨ s = 2) (hm : m < 9223372036854775808)
    (hy : w.heap[y]? = some (.cells #[.int .i64 (s : Int)] 3 (0, 0))) (hx : w.heap[x]? = some (.cells #[.string ⟨#[]⟩] 9 (0, 0))) (hxA : x ≠ A) :
    Calls Tryz.prog 181 #[.pointer (some ⟨A, 0, none⟩), .pointer (some ⟨y, 0, none⟩), .pointer (some ⟨x, 0, none⟩)] w fun e w' =>
      ((takeP (S.drop a) m s).c = 0 → e = .returned (.tuple #[]) ∧ RAt A S (a + (takeP (S.drop a) m s).m) m w' ∧ Duo A x w w' ∧ w'.heap[x]? = some (.cells #[.string ⟨(takeP (S.drop a) m s).t.toArray⟩] 9 (0, 0))) ∧ ((takeP (S.drop a) m s).c ≠ 0 → Gave (takeP (S.drop a) m s).c A w e w') := by
  have HC := Lib.hid (length_any A S a m s w hR hg hA hS ha (by omega) hm)
  obtain ⟨hm1, hn1, _⟩ := lenQ_n (S.drop a) m s
  have hny : (lenQ (S.drop a) m s).c = 0 → (lenQ (S.drop a) m s).n ≤ 9223372036854775807 := fun h => by have := hn1 h; omega
  have hT := takeP_cnt (S.drop a) m s hs
  have hSd : S.drop (a + (lenQ (S.drop a) m s).m) = (S.drop a).drop (lenQ (S.drop a) m s).m := by rw [List.drop_drop]
  rw [List.length_drop] at hm1
  have HX := Lib.hid hx
  have y0 := (lit_cell hy 0).trans rfl
  clear hR hg hx hm hs hy
  generalize takeP (S.drop a) m s = T at *
  generalize lenQ (S.drop a) m s = P at *
  by_cases hc : P.c = 0
  · rw [if_neg (fun h => h hc), ← hSd] at hT
    have HC2 := Lib.hid (HC.out.mono fun e w' h => h.ok hc)
    have hmS : a + P.m ≤ S.length := by omega
    have hnn := hny hc
    have hll : (S.drop (a + P.m)).length = (S.drop a).length - P.m := by rw [List.length_drop, List.length_drop]; omega
    rw [← hll] at hT
    have HTK := Lib.hid (fun (w : World) (h : RAt A S (a + P.m) m w) (h2 : ¬ (S.drop (a + P.m)).length < P.n) => qtake_ok A S (a + P.m) m P.n w h hS hmS (by omega))
    have HTS := Lib.hid (fun (w : World) (h : RAt A S (a + P.m) m w) (h2 : (S.drop (a + P.m)).length < P.n) => qtake_short A S (a + P.m) m P.n w h hS hmS hnn h2)
    have hls : (S.drop (a + P.m)).length ≤ 1000000 := by rw [List.length_drop]; omega
    generalize hL : S.drop (a + P.m) = L at *
    have HLL := Lib.hid hL
    clear HC hm1 hn1 hny hSd hll hL
    by_cases hsh : L.length < P.n
    · rw [if_pos hsh] at hT
      subst hT
      go_enter Tryz.func181, Tryz.ntmps181
      go_wp2_with (first | (go_at_call 180; refine HC2.out.mono ?_; rintro e w1 ⟨rfl, hr, ho⟩) | (go_at_call 122; refine (HTS.out _ hr hsh).mono ?_; rintro e w2 ⟨⟨f, hf, rfl, hfc⟩, ho2⟩))
      exact ⟨rfl, (fun h => absurd h (by decide)), fun _ => (⟨⟨f, hf, rfl, hfc⟩, ho2⟩ : Gave 4 A _ _ w2).from ho⟩
    · rw [if_neg hsh] at hT
      subst hT
      have HCL := Lib.hid (fun w => clone_any (L.take P.n) w (by rw [List.length_take]; omega))
      go_enter Tryz.func181, Tryz.ntmps181
      go_wp2_with (first | (go_at_call 180; refine HC2.out.mono ?_; rintro e w1 ⟨rfl, hr, ho⟩) | (go_at_call 122; refine (HTK.out _ hr hsh).mono ?_; rintro e w2 ⟨rfl, hr2, ho2⟩; rw [HLL.out]) | (go_at_call 182; refine (HCL.out _).mono ?_; rintro e w3 ⟨rfl, hb3⟩; have ho3 := (ho.trans ho2).trans (Only.of_below (b := A) hb3); have hx1 := (ho3.block x (lit_lt HX.out) hxA).trans HX.out; have x0 := (lit_cell hx1 0).trans rfl; have x1 := lit_free hx1 0))
      refine bodyPost_end (results_none rfl _ _ _) rfl ⟨fun _ => ⟨rfl, (lit_far _ hxA.symm).trans ((hb3.block A (lit_lt hr2)).trans ?_), (Duo.of_only ho3).set _, (lit_set _ hx1).trans rfl⟩, fun h => absurd rfl h⟩
      rw [← Nat.add_assoc]
      exact hr2
  · rw [if_pos hc] at hT
    subst hT
    have HC2 := Lib.hid (HC.out.mono fun e w' h => h.bad hc)
    clear HC
    go_enter Tryz.func181, Tryz.ntmps181
    go_wp2_with (go_at_call 180; refine HC2.out.mono ?_; rintro e w1 ⟨⟨f, hf, rfl, hfc⟩, ho⟩)
    exact ⟨rfl, (fun h => absurd h hc), fun _ => ⟨⟨f, hf, rfl, hfc⟩, ho⟩⟩

/-- what the program's tables and reflectlite want of memory -/
structure GlobU (w : World) : Prop where
  e : GlobE w
  r : GlobR w
theorem GlobU.next {w w' : World} (h : GlobU w) (hb : Below w.heap.size w w') : GlobU w' := ⟨h.e.next hb, h.r.next hb⟩
/-- a reader, its bound an int -/
structure RQ (b : Nat) (S : List UInt8) (a m : Nat) (w : World) : Prop where
  r : RAt b S a m w
  m : m < 9223372036854775808
theorem ent_num : ∀ args w, (callFunc 177 args).run Tryz.prog w = .ok (.enter 177 args) w := fun _ _ => by kernel_rfl
theorem ent_begun : ∀ args w, (callFunc 179 args).run Tryz.prog w = .ok (.enter 179 args) w := fun _ _ => by kernel_rfl
theorem ent_counted : ∀ args w, (callFunc 181 args).run Tryz.prog w = .ok (.enter 181 args) w := fun _ _ => by kernel_rfl
theorem ent_end : ∀ args w, (callFunc 121 args).run Tryz.prog w = .ok (.enter 121 args) w := fun _ _ => by kernel_rfl

theorem duo_only {b x : Nat} {w w1 w2 : World} (h : Duo b x w1 w2) (hx : w.heap.size ≤ x) (h1 : Below w.heap.size w w1) : Only b w w2 :=
  ⟨h.os.trans h1.os, h.tape.trans h1.tape, h.output.trans h1.output, Nat.le_trans h1.size h.size, fun k hk hne => (h.block k (Nat.lt_of_lt_of_le hk h1.size) hne (by omega)).trans (h1.block k hk)⟩
theorem errV_made {lo : Nat} {c a : Nat} {g : Nat} {w w' wz : World} (hm : Made (c : Int) (a : Int) g w w') (hlo : lo ≤ w.heap.size) (hc : c ≠ 0) (hb : wz.heap[g]? = w'.heap[g]?) : ErrV lo (c : Int) (a : Int) (.iface 85 (.pointer (some ⟨g, 0, none⟩))) wz := by
  unfold ErrV
  rw [if_neg (by omega)]
  exact ⟨g, Nat.le_trans hlo hm.l, rfl, (lit_cell (hb.trans hm.h) 0).trans rfl, (lit_cell (hb.trans hm.h) 1).trans rfl⟩

theorem lenQ_bad (left : List UInt8) (m s : Nat) (hc : ¬ (lenQ left m s).c = 0) : (lenQ left m s).n = 0 ∧ (lenQ left m s).m = 0 := by
  have h := (numQ_n left s).2.1
  unfold lenQ at *
  split at hc
  · rename_i h1; rw [if_pos h1]; exact ⟨rfl, rfl⟩
  · rename_i h1; rw [if_neg h1]; exact h hc
theorem takeP_bad (left : List UInt8) (m s : Nat) (hs : s = 1 ∨ s = 2) (hc : ¬ (takeP left m s).c = 0) : (takeP left m s).n = 0 ∧ (takeP left m s).m = 0 ∧ (takeP left m s).t = [] := by
  have h := takeP_fits left m s
  have h1 := h.bad hc
  have h2 := h.t12 hs
  exact ⟨h1.2, h1.1, List.eq_nil_of_length_eq_zero (by rw [← h2, h1.2])⟩

set_option maxRecDepth 100000 in
theorem qnum_any (b : Nat) (S : List UInt8) (a m : Nat) (w : World) (hR : RQ b S a m w) (hG : GlobU w) (hS : S.length ≤ 1000000) (ha : a ≤ S.length) :
    Calls Tryz.prog 153 #[.pointer (some ⟨b, 0, none⟩)] w fun e w' => ∃ v, e = .returned (.tuple #[.int .u64 ((numQ (S.drop a) 0).n : Int), v]) ∧ ErrV w.heap.size (numQ (S.drop a) 0).c a v w' ∧ RQ b S (a + (numQ (S.drop a) 0).m) m w' ∧ Only b w w' := by
  have hmf : ∀ (fn : Fn) (first cap : Array Value) (w : World), (Instr.makeFunc fn first cap).run Tryz.prog w = .ok (.func fn first cap) w := fun _ _ _ _ => rfl
  have hbl := lit_lt hR.r
  have hgs := hG.r.size
  obtain ⟨X, hX⟩ : ∃ X, X = w.heap.size := ⟨_, rfl⟩
  obtain ⟨wA, hwA⟩ : ∃ wA, w.alloc (.cells #[.int .u64 0] 22) = wA := ⟨_, rfl⟩
  have hb0 : Below w.heap.size w wA := hwA ▸ by0 w _
  have hx0 : wA.heap[X]? = some (.cells #[.int .u64 0] 22 (0, 0)) := by rw [← hwA, hX]; exact heap_alloc_new w _
  have hR1 : RAt b S a m wA := hwA ▸ lit_old _ hR.r
  have hsz : wA.heap.size = w.heap.size + 1 := by rw [← hwA]; simp

  by_cases hc : (numQ (S.drop a) 0).c = 0
  · have HC := Lib.hid (attempt_ok b X S a (a + (numQ (S.drop a) 0).m) m (.cells #[.int .u64 ((numQ (S.drop a) 0).n : Int)] 22 (0, 0)) 177 #[.pointer (some ⟨X, 0, none⟩)] wA ent_num hR1 (by omega) (by omega)
      (fun w4 A h4 hA hRA => num1_ok A X S a m w4 hRA ((hG.next hb0).r.next h4) (by omega) hS ha ((h4.block _ (by omega)).trans hx0) (by omega) hc))
    have HB0 := Lib.hid hb0
    have HXE := Lib.hid hX

    have HWA := Lib.hid hwA
    have HSZ := Lib.hid hsz
    have HM := Lib.hid hR.m
    have HCC := Lib.hid hc
    clear hR hG hS ha hR1 hb0 hx0 hc hgs hX hwA hsz
    generalize numQ (S.drop a) 0 = P at *
    go_enter Tryz.func153, Tryz.ntmps153
    go_upto_region 1 with fail
    rw [HWA.out, ← HXE.out]
    go_wp2_with (go_at_call 120; refine HC.out.mono ?_; rintro e w2 ⟨rfl, hr, hx, ht⟩; have x0 := (lit_cell hx 0).trans rfl; have x1 := lit_free hx 0)
    have hX := HXE.out
    have hsz := HSZ.out
    have hx2 : (w2.setCell ⟨X, 0, none⟩ (.int .u64 (P.n : Int))).heap[X]? = some (.cells #[.int .u64 (P.n : Int)] 22 (0, 0)) := (lit_set (.int .u64 (P.n : Int)) hx).trans rfl
    have z0 := (lit_cell hx2 0).trans rfl
    have hr2 : RAt b S (a + P.m) m (w2.setCell ⟨X, 0, none⟩ (.int .u64 (P.n : Int))) := (lit_far _ (by omega)).trans hr
    have ht2 := ht.set (.int .u64 (P.n : Int))
    generalize w2.setCell ⟨X, 0, none⟩ (.int .u64 (P.n : Int)) = w3 at *
    refine bodyPost_ret (v := .tuple #[.int .u64 (P.n : Int), .nilIface]) (by simp [results, Tryz.results153, go_sem, z0]) rfl ⟨_, rfl, ?_, ⟨hr2, HM.out⟩, duo_only ht2 (by omega) HB0.out⟩
    rw [ErrV, if_pos (by rw [HCC.out]; rfl)]
  · have HC := Lib.hid (attempt_bad b S a m (numQ (S.drop a) 0).c 177 #[.pointer (some ⟨X, 0, none⟩)] wA ent_num hR1 (hG.e.next hb0)
      (fun w4 A h4 hA hRA => num1_bad A X S a m w4 hRA ((hG.next hb0).r.next h4) (by omega) hS ha hc))
    have HB0 := Lib.hid hb0
    have HXE := Lib.hid hX

    have HWA := Lib.hid hwA
    have HSZ := Lib.hid hsz
    have HM := Lib.hid hR.m
    have HR1 := Lib.hid hR1
    have HX0 := Lib.hid hx0
    have hP : (numQ (S.drop a) 0).n = 0 ∧ (numQ (S.drop a) 0).m = 0 := (numQ_n (S.drop a) 0).2.1 hc
    have HCC := Lib.hid hc
    clear hR hG hS ha hR1 hb0 hx0 hc hgs hX hwA hsz
    generalize numQ (S.drop a) 0 = P at *
    obtain ⟨Pn, Pt, Pc, Pm⟩ := P
    simp only at hP HC HCC ⊢
    obtain ⟨rfl, rfl⟩ := hP
    go_enter Tryz.func153, Tryz.ntmps153
    go_upto_region 1 with fail
    rw [HWA.out, ← HXE.out]
    go_wp2_with (go_at_call 120; refine HC.out.mono ?_; rintro e w2 ⟨g, rfl, hm⟩; have hx := (hm.b.block X (lit_lt HX0.out)).trans HX0.out; have x0 := (lit_cell hx 0).trans rfl; have x1 := lit_free hx 0)
    have hX := HXE.out
    have hsz := HSZ.out
    have hx2 : (w2.setCell ⟨X, 0, none⟩ (.int .u64 0)).heap[X]? = some (.cells #[.int .u64 0] 22 (0, 0)) := (lit_set (.int .u64 0) hx).trans rfl
    have z0 := (lit_cell hx2 0).trans rfl
    have hr2 : RAt b S a m (w2.setCell ⟨X, 0, none⟩ (.int .u64 0)) := (lit_far _ (by omega)).trans ((hm.b.block b (by omega)).trans HR1.out)
    have hl := hm.l
    have hm2 : (w2.setCell ⟨X, 0, none⟩ (.int .u64 0)).heap[g]? = w2.heap[g]? := lit_far _ (by omega)
    have ho2 : Below w.heap.size w (w2.setCell ⟨X, 0, none⟩ (.int .u64 0)) := HB0.out.trans ((hm.b.mono (by omega)).setCell (show w.heap.size ≤ (⟨X, 0, none⟩ : Addr).block by show _ ≤ X; omega) _)
    generalize w2.setCell ⟨X, 0, none⟩ (.int .u64 0) = w3 at *
    refine bodyPost_ret (v := .tuple #[.int .u64 0, .iface 85 (.pointer (some ⟨g, 0, none⟩))]) (by simp [results, Tryz.results153, go_sem, z0]) rfl ⟨_, rfl, errV_made hm (by omega) HCC.out hm2, ⟨hr2, HM.out⟩, Only.of_below ho2⟩


set_option maxRecDepth 100000 in
theorem qbegun_any (b : Nat) (S : List UInt8) (a m s : Nat) (w : World) (hR : RQ b S a m w) (hG : GlobU w) (hS : S.length ≤ 1000000) (ha : a ≤ S.length) (hs : s ≤ 4) :
    Calls Tryz.prog 161 #[.pointer (some ⟨b, 0, none⟩), .int .i64 (s : Int)] w fun e w' => ∃ v, e = .returned (.tuple #[.int .i64 ((lenQ (S.drop a) m s).n : Int), v]) ∧ ErrV w.heap.size (lenQ (S.drop a) m s).c a v w' ∧ RQ b S (a + (lenQ (S.drop a) m s).m) m w' ∧ Only b w w' := by
  have hmf : ∀ (fn : Fn) (first cap : Array Value) (w : World), (Instr.makeFunc fn first cap).run Tryz.prog w = .ok (.func fn first cap) w := fun _ _ _ _ => rfl
  have hbl := lit_lt hR.r
  have hgs := hG.r.size
  obtain ⟨Y, hY⟩ : ∃ Y, Y = w.heap.size := ⟨_, rfl⟩
  obtain ⟨X, hX⟩ : ∃ X, X = w.heap.size + 1 := ⟨_, rfl⟩
  obtain ⟨wA, hwA⟩ : ∃ wA, (w.alloc (.cells #[.int .i64 (s : Int)] 3)).alloc (.cells #[.int .i64 0] 3) = wA := ⟨_, rfl⟩
  have hb0 : Below w.heap.size w wA := hwA ▸ (by0 w _).alloc (by simp) _
  have hsz : wA.heap.size = w.heap.size + 1 + 1 := by rw [← hwA]; simp
  have hx0 : wA.heap[X]? = some (.cells #[.int .i64 0] 3 (0, 0)) := by
    rw [← hwA, hX, show w.heap.size + 1 = (w.alloc (.cells #[.int .i64 (s : Int)] 3)).heap.size by simp]; exact heap_alloc_new _ _
  have hy0 : wA.heap[Y]? = some (.cells #[.int .i64 (s : Int)] 3 (0, 0)) := by rw [← hwA, hY]; exact lit_old _ (heap_alloc_new w _)
  have hR1 : RAt b S a m wA := hwA ▸ lit_old _ (lit_old _ hR.r)
  by_cases hc : (lenQ (S.drop a) m s).c = 0
  · have HC := Lib.hid (attempt_ok b X S a (a + (lenQ (S.drop a) m s).m) m (.cells #[.int .i64 ((lenQ (S.drop a) m s).n : Int)] 3 (0, 0)) 179 #[.pointer (some ⟨Y, 0, none⟩), .pointer (some ⟨X, 0, none⟩)] wA ent_begun hR1 (by omega) (by omega)
      (fun w4 A h4 hA hRA => begun1_ok A X Y S a m s w4 hRA ((hG.next hb0).r.next h4) (by omega) hS ha hs hR.m ((h4.block _ (by omega)).trans hy0) ((h4.block _ (by omega)).trans hx0) (by omega) hc))
    have HB0 := Lib.hid hb0
    have HXE := Lib.hid hX
    have HYE := Lib.hid hY
    have HWA := Lib.hid hwA
    have HSZ := Lib.hid hsz
    have HM := Lib.hid hR.m
    have HCC := Lib.hid hc
    clear hR hG hS ha hR1 hb0 hx0 hc hgs hX hwA hsz hs hY hy0
    generalize lenQ (S.drop a) m s = P at *
    go_enter Tryz.func161, Tryz.ntmps161
    go_upto_region 1 with fail
    rw [HWA.out, ← HXE.out, ← HYE.out]
    go_wp2_with (go_at_call 120; refine HC.out.mono ?_; rintro e w2 ⟨rfl, hr, hx, ht⟩; have x0 := (lit_cell hx 0).trans rfl; have x1 := lit_free hx 0)
    have hX := HXE.out
    have hsz := HSZ.out
    have hx2 : (w2.setCell ⟨X, 0, none⟩ (.int .i64 (P.n : Int))).heap[X]? = some (.cells #[.int .i64 (P.n : Int)] 3 (0, 0)) := (lit_set (.int .i64 (P.n : Int)) hx).trans rfl
    have z0 := (lit_cell hx2 0).trans rfl
    have hr2 : RAt b S (a + P.m) m (w2.setCell ⟨X, 0, none⟩ (.int .i64 (P.n : Int))) := (lit_far _ (by omega)).trans hr
    have ht2 := ht.set (.int .i64 (P.n : Int))
    generalize w2.setCell ⟨X, 0, none⟩ (.int .i64 (P.n : Int)) = w3 at *
    refine bodyPost_ret (v := .tuple #[.int .i64 (P.n : Int), .nilIface]) (by simp [results, Tryz.results161, go_sem, z0]) rfl ⟨_, rfl, ?_, ⟨hr2, HM.out⟩, duo_only ht2 (by omega) HB0.out⟩
    rw [ErrV, if_pos (by rw [HCC.out]; rfl)]
  · have HC := Lib.hid (attempt_bad b S a m (lenQ (S.drop a) m s).c 179 #[.pointer (some ⟨Y, 0, none⟩), .pointer (some ⟨X, 0, none⟩)] wA ent_begun hR1 (hG.e.next hb0)
      (fun w4 A h4 hA hRA => begun1_bad A X Y S a m s w4 hRA ((hG.next hb0).r.next h4) (by omega) hS ha hs hR.m ((h4.block _ (by omega)).trans hy0) hc))
    have HB0 := Lib.hid hb0
    have HXE := Lib.hid hX
    have HYE := Lib.hid hY
    have HWA := Lib.hid hwA
    have HSZ := Lib.hid hsz
    have HM := Lib.hid hR.m
    have HR1 := Lib.hid hR1
    have HX0 := Lib.hid hx0
    have hP : (lenQ (S.drop a) m s).n = 0 ∧ (lenQ (S.drop a) m s).m = 0 := lenQ_bad (S.drop a) m s hc
    have HCC := Lib.hid hc
    clear hR hG hS ha hR1 hb0 hx0 hc hgs hX hwA hsz hs hY hy0
    generalize lenQ (S.drop a) m s = P at *
    obtain ⟨Pn, Pt, Pc, Pm⟩ := P
    simp only at hP HC HCC ⊢
    obtain ⟨rfl, rfl⟩ := hP
    go_enter Tryz.func161, Tryz.ntmps161
    go_upto_region 1 with fail
    rw [HWA.out, ← HXE.out, ← HYE.out]
    go_wp2_with (go_at_call 120; refine HC.out.mono ?_; rintro e w2 ⟨g, rfl, hm⟩; have hx := (hm.b.block X (lit_lt HX0.out)).trans HX0.out; have x0 := (lit_cell hx 0).trans rfl; have x1 := lit_free hx 0)
    have hX := HXE.out
    have hsz := HSZ.out
    have hx2 : (w2.setCell ⟨X, 0, none⟩ (.int .i64 0)).heap[X]? = some (.cells #[.int .i64 0] 3 (0, 0)) := (lit_set (.int .i64 0) hx).trans rfl
    have z0 := (lit_cell hx2 0).trans rfl
    have hr2 : RAt b S a m (w2.setCell ⟨X, 0, none⟩ (.int .i64 0)) := (lit_far _ (by omega)).trans ((hm.b.block b (by omega)).trans HR1.out)
    have hl := hm.l
    have hm2 : (w2.setCell ⟨X, 0, none⟩ (.int .i64 0)).heap[g]? = w2.heap[g]? := lit_far _ (by omega)
    have ho2 : Below w.heap.size w (w2.setCell ⟨X, 0, none⟩ (.int .i64 0)) := HB0.out.trans ((hm.b.mono (by omega)).setCell (show w.heap.size ≤ (⟨X, 0, none⟩ : Addr).block by show _ ≤ X; omega) _)
    generalize w2.setCell ⟨X, 0, none⟩ (.int .i64 0) = w3 at *
    refine bodyPost_ret (v := .tuple #[.int .i64 0, .iface 85 (.pointer (some ⟨g, 0, none⟩))]) (by simp [results, Tryz.results161, go_sem, z0]) rfl ⟨_, rfl, errV_made hm (by omega) HCC.out hm2, ⟨hr2, HM.out⟩, Only.of_below ho2⟩


set_option maxRecDepth 100000 in
theorem qcounted_any (b : Nat) (S : List UInt8) (a m s : Nat) (w : World) (hR : RQ b S a m w) (hG : GlobU w) (hS : S.length ≤ 1000000) (ha : a ≤ S.length) (hs : s = 1 ∨ s = 2) :
    Calls Tryz.prog 162 #[.pointer (some ⟨b, 0, none⟩), .int .i64 (s : Int)] w fun e w' => ∃ v, e = .returned (.tuple #[.string ⟨(takeP (S.drop a) m s).t.toArray⟩, v]) ∧ ErrV w.heap.size (takeP (S.drop a) m s).c a v w' ∧ RQ b S (a + (takeP (S.drop a) m s).m) m w' ∧ Only b w w' := by
  have hmf : ∀ (fn : Fn) (first cap : Array Value) (w : World), (Instr.makeFunc fn first cap).run Tryz.prog w = .ok (.func fn first cap) w := fun _ _ _ _ => rfl
  have hbl := lit_lt hR.r
  have hgs := hG.r.size
  obtain ⟨Y, hY⟩ : ∃ Y, Y = w.heap.size := ⟨_, rfl⟩
  obtain ⟨X, hX⟩ : ∃ X, X = w.heap.size + 1 := ⟨_, rfl⟩
  obtain ⟨wA, hwA⟩ : ∃ wA, (w.alloc (.cells #[.int .i64 (s : Int)] 3)).alloc (.cells #[.string ⟨#[]⟩] 9) = wA := ⟨_, rfl⟩
  have hb0 : Below w.heap.size w wA := hwA ▸ (by0 w _).alloc (by simp) _
  have hsz : wA.heap.size = w.heap.size + 1 + 1 := by rw [← hwA]; simp
  have hx0 : wA.heap[X]? = some (.cells #[.string ⟨#[]⟩] 9 (0, 0)) := by
    rw [← hwA, hX, show w.heap.size + 1 = (w.alloc (.cells #[.int .i64 (s : Int)] 3)).heap.size by simp]; exact heap_alloc_new _ _
  have hy0 : wA.heap[Y]? = some (.cells #[.int .i64 (s : Int)] 3 (0, 0)) := by rw [← hwA, hY]; exact lit_old _ (heap_alloc_new w _)
  have hR1 : RAt b S a m wA := hwA ▸ lit_old _ (lit_old _ hR.r)
  by_cases hc : (takeP (S.drop a) m s).c = 0
  · have HC := Lib.hid (attempt_ok b X S a (a + (takeP (S.drop a) m s).m) m (.cells #[.string ⟨(takeP (S.drop a) m s).t.toArray⟩] 9 (0, 0)) 181 #[.pointer (some ⟨Y, 0, none⟩), .pointer (some ⟨X, 0, none⟩)] wA ent_counted hR1 (by omega) (by omega)
      (fun w4 A h4 hA hRA => (counted1_any A X Y S a m s w4 hRA ((hG.next hb0).r.next h4) (by omega) hS ha hs hR.m ((h4.block _ (by omega)).trans hy0) ((h4.block _ (by omega)).trans hx0) (by omega)).mono fun e w' h => h.1 hc))
    have HB0 := Lib.hid hb0
    have HXE := Lib.hid hX
    have HYE := Lib.hid hY
    have HWA := Lib.hid hwA
    have HSZ := Lib.hid hsz
    have HM := Lib.hid hR.m
    have HCC := Lib.hid hc
    clear hR hG hS ha hR1 hb0 hx0 hc hgs hX hwA hsz hs hY hy0
    generalize takeP (S.drop a) m s = P at *
    go_enter Tryz.func162, Tryz.ntmps162
    go_upto_region 1 with fail
    rw [HWA.out, ← HXE.out, ← HYE.out]
    go_wp2_with (go_at_call 120; refine HC.out.mono ?_; rintro e w2 ⟨rfl, hr, hx, ht⟩; have x0 := (lit_cell hx 0).trans rfl; have x1 := lit_free hx 0)
    have hX := HXE.out
    have hsz := HSZ.out
    have hx2 : (w2.setCell ⟨X, 0, none⟩ (.string ⟨P.t.toArray⟩)).heap[X]? = some (.cells #[.string ⟨P.t.toArray⟩] 9 (0, 0)) := (lit_set (.string ⟨P.t.toArray⟩) hx).trans rfl
    have z0 := (lit_cell hx2 0).trans rfl
    have hr2 : RAt b S (a + P.m) m (w2.setCell ⟨X, 0, none⟩ (.string ⟨P.t.toArray⟩)) := (lit_far _ (by omega)).trans hr
    have ht2 := ht.set (.string ⟨P.t.toArray⟩)
    generalize w2.setCell ⟨X, 0, none⟩ (.string ⟨P.t.toArray⟩) = w3 at *
    refine bodyPost_ret (v := .tuple #[.string ⟨P.t.toArray⟩, .nilIface]) (by simp [results, Tryz.results162, go_sem, z0]) rfl ⟨_, rfl, ?_, ⟨hr2, HM.out⟩, duo_only ht2 (by omega) HB0.out⟩
    rw [ErrV, if_pos (by rw [HCC.out]; rfl)]
  · have HC := Lib.hid (attempt_bad b S a m (takeP (S.drop a) m s).c 181 #[.pointer (some ⟨Y, 0, none⟩), .pointer (some ⟨X, 0, none⟩)] wA ent_counted hR1 (hG.e.next hb0)
      (fun w4 A h4 hA hRA => (counted1_any A X Y S a m s w4 hRA ((hG.next hb0).r.next h4) (by omega) hS ha hs hR.m ((h4.block _ (by omega)).trans hy0) ((h4.block _ (by omega)).trans hx0) (by omega)).mono fun e w' h => h.2 hc))
    have HB0 := Lib.hid hb0
    have HXE := Lib.hid hX
    have HYE := Lib.hid hY
    have HWA := Lib.hid hwA
    have HSZ := Lib.hid hsz
    have HM := Lib.hid hR.m
    have HR1 := Lib.hid hR1
    have HX0 := Lib.hid hx0
    have hP : (takeP (S.drop a) m s).n = 0 ∧ (takeP (S.drop a) m s).m = 0 ∧ (takeP (S.drop a) m s).t = [] := takeP_bad (S.drop a) m s hs hc
    have HCC := Lib.hid hc
    clear hR hG hS ha hR1 hb0 hx0 hc hgs hX hwA hsz hs hY hy0
    generalize takeP (S.drop a) m s = P at *
    obtain ⟨Pn, Pt, Pc, Pm⟩ := P
    simp only at hP HC HCC ⊢
    obtain ⟨rfl, rfl, rfl⟩ := hP
    go_enter Tryz.func162, Tryz.ntmps162
    go_upto_region 1 with fail
    rw [HWA.out, ← HXE.out, ← HYE.out]
    go_wp2_with (go_at_call 120; refine HC.out.mono ?_; rintro e w2 ⟨g, rfl, hm⟩; have hx := (hm.b.block X (lit_lt HX0.out)).trans HX0.out; have x0 := (lit_cell hx 0).trans rfl; have x1 := lit_free hx 0)
    have hX := HXE.out
    have hsz := HSZ.out
    have hx2 : (w2.setCell ⟨X, 0, none⟩ (.string ⟨#[]⟩)).heap[X]? = some (.cells #[.string ⟨#[]⟩] 9 (0, 0)) := (lit_set (.string ⟨#[]⟩) hx).trans rfl
    have z0 := (lit_cell hx2 0).trans rfl
    have hr2 : RAt b S a m (w2.setCell ⟨X, 0, none⟩ (.string ⟨#[]⟩)) := (lit_far _ (by omega)).trans ((hm.b.block b (by omega)).trans HR1.out)
    have hl := hm.l
    have hm2 : (w2.setCell ⟨X, 0, none⟩ (.string ⟨#[]⟩)).heap[g]? = w2.heap[g]? := lit_far _ (by omega)
    have ho2 : Below w.heap.size w (w2.setCell ⟨X, 0, none⟩ (.string ⟨#[]⟩)) := HB0.out.trans ((hm.b.mono (by omega)).setCell (show w.heap.size ≤ (⟨X, 0, none⟩ : Addr).block by show _ ≤ X; omega) _)
    generalize w2.setCell ⟨X, 0, none⟩ (.string ⟨#[]⟩) = w3 at *
    refine bodyPost_ret (v := .tuple #[.string ⟨#[]⟩, .iface 85 (.pointer (some ⟨g, 0, none⟩))]) (by simp [results, Tryz.results162, go_sem, z0]) rfl ⟨_, rfl, errV_made hm (by omega) HCC.out hm2, ⟨hr2, HM.out⟩, Only.of_below ho2⟩

end Go.Proofs.YtlhmmplkdjibkaaGreatDoor
/- What a reader is to do, as a hypothesis; what the law's take answers. -/
namespace Go.Proofs.YtlhmmplkdjibkaaGreatDoor
open Go.RowKit

/-- the reader's calls; G: what the program's own tables, and reflectlite, want of memory; R b S a m w: at block b lies a reader of the bytes S, at place a, whose bound is m; a call writes block b alone -/
structure ReaderC (G : World → Prop) (R : Nat → List UInt8 → Nat → Nat → World → Prop) : Prop where
  ge : ∀ {w : World}, G w → GlobE w
  gb : ∀ {w w' : World}, G w → Below w.heap.size w w' → G w'
  lt : ∀ {b : Nat} {S : List UInt8} {a m : Nat} {w : World}, R b S a m w → b < w.heap.size
  keep : ∀ {b c : Nat} {S : List UInt8} {a m : Nat} {w w' : World}, R b S a m w → Only c w w' → c ≠ b → R b S a m w'
  new : ∀ (S : List UInt8) (i : Int) w, G w → S.length ≤ 1000000 → -9223372036854775808 ≤ i → i ≤ 9223372036854775807 →
    Calls Tryz.prog 59 #[.string ⟨S.toArray⟩, .int .i64 i] w fun e w' => ∃ b, w.heap.size ≤ b ∧ e = .returned (.pointer (some ⟨b, 0, none⟩)) ∧ R b S 0 (max i 0).toNat w' ∧ Below w.heap.size w w'
  num : ∀ b S a m w, R b S a m w → G w → S.length ≤ 1000000 → a ≤ S.length → Calls Tryz.prog 153 #[.pointer (some ⟨b, 0, none⟩)] w fun e w' => ∃ v, e = .returned (.tuple #[.int .u64 ((takeP (S.drop a) m 0).n : Int), v]) ∧ ErrV w.heap.size (takeP (S.drop a) m 0).c a v w' ∧ R b S (a + (takeP (S.drop a) m 0).m) m w' ∧ Only b w w'
  bin : ∀ b S a m w, R b S a m w → G w → S.length ≤ 1000000 → a ≤ S.length → Calls Tryz.prog 147 #[.pointer (some ⟨b, 0, none⟩)] w fun e w' => ∃ v, e = .returned (.tuple #[.string ⟨(takeP (S.drop a) m 1).t.toArray⟩, v]) ∧ ErrV w.heap.size (takeP (S.drop a) m 1).c a v w' ∧ R b S (a + (takeP (S.drop a) m 1).m) m w' ∧ Only b w w'
  str : ∀ b S a m w, R b S a m w → G w → S.length ≤ 1000000 → a ≤ S.length → Calls Tryz.prog 114 #[.pointer (some ⟨b, 0, none⟩)] w fun e w' => ∃ v, e = .returned (.tuple #[.string ⟨(takeP (S.drop a) m 2).t.toArray⟩, v]) ∧ ErrV w.heap.size (takeP (S.drop a) m 2).c a v w' ∧ R b S (a + (takeP (S.drop a) m 2).m) m w' ∧ Only b w w'
  list : ∀ b S a m w, R b S a m w → G w → S.length ≤ 1000000 → a ≤ S.length → Calls Tryz.prog 145 #[.pointer (some ⟨b, 0, none⟩)] w fun e w' => ∃ v, e = .returned (.tuple #[.int .i64 ((takeP (S.drop a) m 3).n : Int), v]) ∧ ErrV w.heap.size (takeP (S.drop a) m 3).c a v w' ∧ R b S (a + (takeP (S.drop a) m 3).m) m w' ∧ Only b w w'
  map : ∀ b S a m w, R b S a m w → G w → S.length ≤ 1000000 → a ≤ S.length → Calls Tryz.prog 112 #[.pointer (some ⟨b, 0, none⟩)] w fun e w' => ∃ v, e = .returned (.tuple #[.int .i64 ((takeP (S.drop a) m 4).n : Int), v]) ∧ ErrV w.heap.size (takeP (S.drop a) m 4).c a v w' ∧ R b S (a + (takeP (S.drop a) m 4).m) m w' ∧ Only b w w'
  fin : ∀ b S a m w, R b S a m w → G w → S.length ≤ 1000000 → a ≤ S.length → Calls Tryz.prog 61 #[.pointer (some ⟨b, 0, none⟩)] w fun e w' => ∃ v, e = .returned v ∧ ErrV w.heap.size (if a < S.length then 5 else 0) a v w' ∧ Below w.heap.size w w'

end Go.Proofs.YtlhmmplkdjibkaaGreatDoor
