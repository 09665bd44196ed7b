/- Layer 7's things that came in by value: a participant, a turn, a message beside a header, a slot. -/
import Derived.Test.YtbkiijndhjmkdaaGreatDoorJ29
import Derived.Test.YtbkiijndhjmkdaaGreatDoorJ27
import Derived.Test.YtbkiijndhjmkdaaGreatDoorJ11
import Derived.Laws.Bits64
import Derived.Deep.Cut
import Derived.Deep.QuietTactic
namespace Go.Proofs.YtbkiijndhjmkdaaGreatDoor
open Go.ChangeShapes Go.WideShapes Go.ChangeAt Go.RowKit

theorem ocells_u16 : Tryz.prog.cellsOf 25 = 1 := by kernel_rfl
theorem ocells_u8 : Tryz.prog.cellsOf 5 = 1 := by kernel_rfl
theorem ocells_i : Tryz.prog.cellsOf 3 = 1 := by kernel_rfl
theorem ocells_turn : Tryz.prog.cellsOf 27 = 3 := by kernel_rfl
theorem ocells_both : Tryz.prog.cellsOf 74 = 10 := by kernel_rfl
theorem olist2 {α : Type} (l : List α) (h : l.length = 2) : ∃ a b, l = [a, b] := by
  match l, h with
  | [a, b], _ => exact ⟨a, b, rfl⟩
section
variable {H : Type} {enc : TypeId × Value → H} {W : World} {base : Nat} {spare : Nat → Bool} {held : Bool} {fuel : Nat} {cs : List Value} {y : DataW H × List MemPlace}
theorem inner_turn (h : DataW.trod enc Tryz.prog W base spare held fuel 27 cs = some y) : ∃ (a b : Nat) (s : Int), cs = [.int .u16 (a : Int), .int .u8 (b : Int), .int .i64 s] ∧ a < 65536 ∧ b < 256 := by
  obtain ⟨xs, m, _, rfl, hcl, hl, hy⟩ := DataW.trod_struct Tryz.underlying27 h
  rw [ocells_turn] at hcl
  obtain ⟨c0, c1, c2, rfl⟩ := olist3 cs hcl
  obtain ⟨y0, y1, y2, rfl⟩ := olist3 xs hl
  obtain ⟨n0, e0, _, w0⟩ := DataW.trod_int Tryz.underlying25 (hy 0 _ rfl)
  obtain ⟨n1, e1, _, w1⟩ := DataW.trod_int Tryz.underlying5 (hy 1 _ rfl)
  obtain ⟨n2, e2, _, w2⟩ := DataW.trod_int Tryz.underlying3 (hy 2 _ rfl)
  simp [ocells_u16, ocells_u8, ocells_i] at e0 e1 e2
  subst e0 e1 e2
  have b0 := bounds_u16 w0
  have b1 := bounds_u8 w1
  obtain ⟨a, rfl⟩ := Int.eq_ofNat_of_zero_le b0.1
  obtain ⟨b, rfl⟩ := Int.eq_ofNat_of_zero_le b1.1
  exact ⟨a, b, n2, rfl, by omega, by omega⟩
theorem inner_both (h : DataW.trod enc Tryz.prog W base spare held fuel 74 cs = some y) : ∃ (m : MsgR) (t : HdrR), cs = msgQ m ++ hdrQ t ∧ MsgIn m ∧ t.round < 18446744073709551616 := by
  obtain ⟨xs, n, _, rfl, hcl, hl, hy⟩ := DataW.trod_struct Tryz.underlying74 h
  rw [ocells_both] at hcl
  obtain ⟨y0, y1, rfl⟩ := olist2 xs hl
  obtain ⟨m, e0, i0, _, _⟩ := inner_msg (hy 0 _ rfl)
  obtain ⟨t, e1, i1, _, _, _⟩ := inner_hdr (hy 1 _ rfl)
  replace e0 : (cs.drop 0).take (Tryz.prog.cellsOf 70) = msgQ m := e0
  replace e1 : (cs.drop 6).take (Tryz.prog.cellsOf 72) = hdrQ t := e1
  rw [ocells_msg, List.drop_zero] at e0
  rw [ocells_hdr, List.take_of_length_le (by rw [List.length_drop]; omega)] at e1
  refine ⟨m, t, ?_, i0, i1⟩
  rw [← e0, ← e1, List.take_append_drop]
end
set_option maxRecDepth 100000 in
theorem open_part {H : Type} {enc : TypeId × Value → H} {W : World} {base : Nat} {v : Value} {dv : DataW H} {p : List MemPlace} (hv : Value.okWide Tryz.prog W .any base 24 v)
    (h : DataW.Trod enc Tryz.prog W 0 (fun _ => true) true 24 v dv p) : ∃ q : PartR, v = partV q ∧ PartIn q := by
  obtain ⟨cs, rfl, hsz⟩ := okWide_struct Tryz.underlying24 hv
  obtain ⟨l⟩ := cs
  obtain ⟨fuel, hf⟩ := h
  obtain ⟨q, e0, i0, _⟩ := inner_part hf
  have e1 : l = partQ q := e0
  subst e1
  exact ⟨q, rfl, i0⟩
set_option maxRecDepth 100000 in
theorem open_turn {H : Type} {enc : TypeId × Value → H} {W : World} {base : Nat} {v : Value} {dv : DataW H} {p : List MemPlace} (hv : Value.okWide Tryz.prog W .any base 27 v)
    (h : DataW.Trod enc Tryz.prog W 0 (fun _ => true) true 27 v dv p) : ∃ (a b : Nat) (s : Int), v = .agg #[.int .u16 (a : Int), .int .u8 (b : Int), .int .i64 s] ∧ a < 65536 ∧ b < 256 := by
  obtain ⟨cs, rfl, hsz⟩ := okWide_struct Tryz.underlying27 hv
  obtain ⟨l⟩ := cs
  obtain ⟨fuel, hf⟩ := h
  obtain ⟨a, b, s, e0, h1, h2⟩ := inner_turn hf
  have e1 : l = [.int .u16 (a : Int), .int .u8 (b : Int), .int .i64 s] := e0
  subst e1
  exact ⟨a, b, s, rfl, h1, h2⟩
abbrev bothV (m : MsgR) (h : HdrR) : Value := .agg #[.string ⟨m.headers.toArray⟩, .string ⟨m.parts.toArray⟩, .int .u64 (m.count : Int), .int .u64 (m.proven : Int), .int .u64 (m.first : Int), .int .u64 (m.last : Int),
  .int .u64 (h.round : Int), .string ⟨h.prev.toArray⟩, .string ⟨h.txns.toArray⟩, .string ⟨h.seed.toArray⟩]
set_option maxRecDepth 100000 in
theorem open_both {H : Type} {enc : TypeId × Value → H} {W : World} {base : Nat} {v : Value} {dv : DataW H} {p : List MemPlace} (hv : Value.okWide Tryz.prog W .any base 74 v)
    (h : DataW.Trod enc Tryz.prog W 0 (fun _ => true) true 74 v dv p) : ∃ (m : MsgR) (t : HdrR), v = bothV m t ∧ MsgIn m ∧ t.round < 18446744073709551616 := by
  obtain ⟨cs, rfl, hsz⟩ := okWide_struct Tryz.underlying74 hv
  obtain ⟨l⟩ := cs
  obtain ⟨fuel, hf⟩ := h
  obtain ⟨m, t, e0, h1, h2⟩ := inner_both hf
  have e1 : l = msgQ m ++ hdrQ t := e0
  subst e1
  exact ⟨m, t, rfl, h1, h2⟩
set_option maxRecDepth 100000 in
theorem open_slot {H : Type} {enc : TypeId × Value → H} {W : World} {base : Nat} {v : Value} {dv : DataW H} {p : List MemPlace} (hv : Value.okWide Tryz.prog W .any base 48 v)
    (h : DataW.Trod enc Tryz.prog W 0 (fun _ => true) true 48 v dv p) : ∃ x : SlotE, v = slotV x ∧ SlotIn x.r ∧ SlotT x W := by
  obtain ⟨cs, rfl, hsz⟩ := okWide_struct Tryz.underlying48 hv
  obtain ⟨l⟩ := cs
  obtain ⟨fuel, hf⟩ := h
  obtain ⟨x, e0, h1, h2⟩ := inner_slot hf
  have e1 : l = slotQ x := e0
  subst e1
  exact ⟨x, rfl, h1, h2⟩
end Go.Proofs.YtbkiijndhjmkdaaGreatDoor
/- The law's turned: bytes, of which one is turned, and some stay. -/
namespace Go.Proofs.YtbkiijndhjmkdaaGreatDoor
open Go.RowKit

theorem xor_u8 (a b : Nat) (ha : a < 256) (hb : b < 256) : ∃ v : UInt8, bits .xor .u8 (a : Int) (b : Int) = (v.toNat : Int) := by
  have hx : a ^^^ b < 2 ^ 8 := Nat.xor_lt_two_pow (by omega) (by omega)
  have h1 : (BitVec.ofInt 8 (a : Int)).toNat = a := by
    rw [BitVec.ofInt_natCast, BitVec.toNat_ofNat]; exact Nat.mod_eq_of_lt (by omega)
  have h2 : (BitVec.ofInt 8 (b : Int)).toNat = b := by
    rw [BitVec.ofInt_natCast, BitVec.toNat_ofNat]; exact Nat.mod_eq_of_lt (by omega)
  refine ⟨UInt8.ofNat (a ^^^ b), ?_⟩
  show IntKind.u8.wrap ((BitVec.ofInt 8 (a : Int) ^^^ BitVec.ofInt 8 (b : Int)).toNat : Int) = _
  rw [BitVec.toNat_xor, h1, h2, UInt8.toNat_ofNat']
  simp only [IntKind.wrap, IntKind.bits, IntKind.signed]
  simp
/-- bytes in a row of one's own -/
structure Rw8 (b : Nat) (L : (List UInt8)) (w : World) : Prop where
  c : ∀ j (h : j < L.length), w.cell? ⟨b, j, none⟩ = some (.int .u8 (L[j].toNat : Int))
  f : ∀ j, j < L.length → w.frozen? ⟨b, j, none⟩ = false
theorem row8_own (S : (List UInt8)) (w : World) : ∃ cap w', (convert 9 100 (.string ⟨S.toArray⟩)).run Tryz.prog w = .ok (.slice (some ⟨w.heap.size, 0, none⟩) S.length cap) w' ∧ S.length ≤ cap ∧ Rw8 w.heap.size S w' ∧ Below w.heap.size w w' ∧ w.heap.size < w'.heap.size := by
  refine ⟨_, _, Lib.run_convert_string_bytes (P := Tryz.prog) w 9 100 5 ⟨S.toArray⟩ Tryz.underlying9 Tryz.underlying100 Tryz.underlying5, ?_, ⟨fun j hj => ?_, fun j hj => ?_⟩, ?_, ?_⟩
  · have : (⟨S.toArray⟩ : ByteArray).size = S.length := rfl
    rw [← this]
    exact grownCap_ge _ _ _ _
  · rw [Lib.bytesWorld_cell w 5 ⟨S.toArray⟩ j hj]
    simp [List.getD, List.getElem?_eq_getElem hj]
  · have h1 : (Lib.bytesWorld w 5 ⟨S.toArray⟩).heap[(⟨w.heap.size, j, none⟩ : Addr).block]? = _ := Lib.bytesWorld_at_new w 5 ⟨S.toArray⟩
    unfold World.frozen?
    rw [h1]
    have h2 : S.length ≤ (Lib.bytesCells w 5 ⟨S.toArray⟩).size := by simp [Lib.bytesCells]
    simp only [Bool.and_eq_false_iff, decide_eq_false_iff_not]
    left
    omega
  · exact ⟨rfl, rfl, rfl, by rw [Lib.bytesWorld_size]; omega, fun k hk => Lib.bytesWorld_at_old w 5 _ k hk⟩
  · rw [Lib.bytesWorld_size]; omega
theorem set_cells {b i : Nat} {L : (List UInt8)} {v : UInt8} {w : World} (h : Rw8 b L w) : Rw8 b (L.set i v) (w.setCell ⟨b, i, none⟩ (.int .u8 (v.toNat : Int))) := by
  refine ⟨fun j hj => ?_, fun j hj => ?_⟩
  · rw [List.length_set] at hj
    by_cases hji : i = j
    · subst hji
      rw [World.cell?_setCell_same _ _ _ (h.c i hj), List.getElem_set_self]
    · rw [World.cell?_setCell_other _ ⟨b, i, none⟩ ⟨b, j, none⟩ _ (fun e => hji (by cases e; rfl)), h.c j hj, List.getElem_set_ne hji]
  · rw [List.length_set] at hj
    rw [World.frozen?_setCell]
    exact h.f j hj
theorem Rw8.to {b : Nat} {L : (List UInt8)} {w w' : World} (h : Rw8 b L w) (hw : w'.heap[b]? = w.heap[b]?) : Rw8 b L w' := by
  refine ⟨fun j hj => (World.cell?_of_block (a := ⟨b, j, none⟩) hw).trans (h.c j hj), fun j hj => ?_⟩
  have h1 := h.f j hj
  unfold World.frozen? at *
  rw [show w'.heap[(⟨b, j, none⟩ : Addr).block]? = w.heap[b]? from hw]
  exact h1
/-- what turned's walk keeps -/
structure Tw (w0 : World) (b : Nat) (n : Nat) (L : (List UInt8)) (cs : Array Value) (wz : World) : Prop where
  o : Below w0.heap.size w0 wz
  x : wz.heap[w0.heap.size]? = some (.cells cs 27 (0, 0))
  r : Rw8 b L wz
  l : L.length = n
  ne : w0.heap.size < b
  lt : b < wz.heap.size
theorem tw_drew {w0 wz : World} {b n : Nat} {L : (List UInt8)} {cs : Array Value} (h : Tw w0 b n L cs wz) : Tw w0 b n L cs wz.drew := ⟨h.o.drew, h.x, h.r.to rfl, h.l, h.ne, h.lt⟩
set_option maxRecDepth 100000 in
set_option maxHeartbeats 1000000 in
theorem turned_any (S : (List UInt8)) (at_ by_ : Nat) (stay : Int) (w : World) (hS : S.length ≤ 1000000000) (hat : at_ < 65536) (hby : by_ < 256) :
    Calls Tryz.prog 13 #[.string ⟨S.toArray⟩, .agg #[.int .u16 (at_ : Int), .int .u8 (by_ : Int), .int .i64 stay]] w fun e w' => ∃ T : (List UInt8), e = .returned (.string ⟨T.toArray⟩) ∧ T.length ≤ S.length ∧ Below w.heap.size w w' := by
  obtain ⟨cap, wb, hconv, hcap, hrow, hbel, hbz⟩ := row8_own S (w.alloc (.cells #[.int .u16 (at_ : Int), .int .u8 (by_ : Int), .int .i64 stay] 27))
  have hz : (w.alloc (.cells #[.int .u16 (at_ : Int), .int .u8 (by_ : Int), .int .i64 stay] 27)).heap.size = w.heap.size + 1 := by simp
  rw [hz] at hrow hconv hbz
  have K := Lib.hid (show Tw w (w.heap.size + 1) S.length S #[.int .u16 (at_ : Int), .int .u8 (by_ : Int), .int .i64 stay] wb from
    ⟨(by0 w _).trans (hbel.mono (by simp)), (hbel.block _ (by simp)).trans (heap_alloc_new w _), hrow, rfl, by omega, hbz⟩)
  have HX := Lib.hid (heap_alloc_new w (.cells #[.int .u16 (at_ : Int), .int .u8 (by_ : Int), .int .i64 stay] 27))
  have HCV := Lib.hid hconv
  have HCP := Lib.hid (And.intro hcap (And.intro hS (And.intro hat hby)))
  clear hconv hcap hrow hbel hbz hz hS hat hby
  go_enter Tryz.func13, Tryz.ntmps13
  go_upto_region 1 with fail
  change Code.wp _ _ _ _ (w.alloc (.cells #[.int .u16 (at_ : Int), .int .u8 (by_ : Int), .int .i64 stay] 27))
  generalize w.alloc (.cells #[.int .u16 (at_ : Int), .int .u8 (by_ : Int), .int .i64 stay] 27) = w1 at *
  have hconv := HCV.out
  go_upto_region 2 with fail
  clear hconv HCV HX
  go_upto_if 10 with fail
  go_cut [] from 6 (fun wx => ∃ L : (List UInt8), Hid (Tw w (w.heap.size + 1) S.length L #[.int .u16 (at_ : Int), .int .u8 (by_ : Int), .int .i64 stay] wx))
  case first =>
    by_cases h0 : 0 < S.length
    · have hi := Nat.mod_lt at_ h0
      obtain ⟨i, hie⟩ : ∃ i, at_ % S.length = i := ⟨_, rfl⟩
      rw [hie] at hi
      have hm1 : (at_ : Int).tmod (S.length : Int) = (i : Int) := by rw [← hie]; rfl
      have hm2 : (at_ : Int) % (S.length : Int) = (i : Int) := by rw [← hie]; rfl
      obtain ⟨v, hv⟩ := xor_u8 S[i].toNat by_ (UInt8.toNat_lt _) HCP.out.2.2.2
      have hc := K.out.r.c i hi
      have hf := K.out.r.f i hi
      have a0 := (lit_cell K.out.x 0).trans rfl
      have a1 := (lit_cell K.out.x 1).trans rfl
      have k0 : (0 : Int) < (S.length : Int) := by omega
      have k1 : (0 : Int) ≤ (i : Int) := by omega
      have k2 : (i : Int) < (S.length : Int) := by omega
      have k3 : (at_ : Int) ≤ 65535 := by have := HCP.out.2.2.1; omega
      have k4 : (0 : Int) ≤ (at_ : Int) := by omega
      have k5 : ((S.length : Int) == 0) = false := by rw [beq_eq_false_iff_ne]; omega
      have k6 : ¬ (S.length : Int) = 0 := by omega
      have K2 := Lib.hid (show Tw w (w.heap.size + 1) S.length (S.set i v) #[.int .u16 (at_ : Int), .int .u8 (by_ : Int), .int .i64 stay] (wb.setCell ⟨w.heap.size + 1, i, none⟩ (.int .u8 (v.toNat : Int))) from by
        have ho := Only.set (w.heap.size + 1) i (.int .u8 (v.toNat : Int)) wb
        obtain ⟨h1, h2, h3, h4, h5, h6⟩ := K.out
        exact ⟨h1.trans (ho.below (by omega) h1.size), (ho.block _ (lit_lt h2) (by omega)).trans h2, set_cells h3, by simp, h5, Nat.lt_of_lt_of_le h6 ho.size⟩)
      generalize (S[i].toNat : Int) = si at *
      clear h0 hi hie
      go_upto_region 3 with fail
      go_region
      go_wp2
      go_meet
      exact ⟨_, Lib.hid (tw_drew K2.out)⟩
    · have h1 : S.length = 0 := by omega
      have k0 : ¬ (0 : Int) < (S.length : Int) := by omega
      have K2 := Lib.hid K.out
      clear h0 h1
      go_wp2
      go_meet
      exact ⟨_, K2⟩
  case rest =>
  obtain ⟨L, K⟩ := hcut
  have a2 := (lit_cell K.out.x 2).trans rfl
  by_cases hs : 0 ≤ stay ∧ stay < (S.length : Int)
  · obtain ⟨m, rfl⟩ : ∃ m : Nat, stay = (m : Int) := ⟨stay.toNat, by omega⟩
    have k1 : (0 : Int) ≤ (m : Int) := by omega
    have k2 : (m : Int) < (S.length : Int) := hs.2
    have k3 : (m : Int) ≤ (cap : Int) := by have := HCP.out.1; omega
    have hl := K.out.l
    have hml : (L.take m).length = m := by rw [List.length_take]; omega
    have hconv := run_convert_bytes_back (P := Tryz.prog) wc 100 9 5 ⟨w.heap.size + 1, 0, none⟩ cap (L.take m) Tryz.underlying100 Tryz.underlying5 Tryz.underlying9 (fun j hj => by
      rw [List.length_take] at hj
      have := K.out.r.c j (by omega)
      rw [Addr.add_mid, Nat.zero_add, this, List.getElem_take])
    rw [hml] at hconv
    have HT := Lib.hid (show (L.take m).length ≤ S.length by rw [hml]; omega)
    clear hl hml hs
    generalize L.take m = T at *
    go_wp2
    go_ret
    exact ⟨T, rfl, HT.out, K.out.o⟩
  · have hl := K.out.l
    have hconv := run_convert_bytes_back (P := Tryz.prog) wc 100 9 5 ⟨w.heap.size + 1, 0, none⟩ cap L Tryz.underlying100 Tryz.underlying5 Tryz.underlying9 (fun j hj => by
      have := K.out.r.c j hj
      rw [Addr.add_mid, Nat.zero_add, this])
    rw [hl] at hconv
    have HT := Lib.hid (show L.length ≤ S.length by omega)
    clear hl
    by_cases h1 : 0 ≤ stay
    · have k2 : ¬ stay < (S.length : Int) := fun h => hs ⟨h1, h⟩
      clear hs
      go_wp2
      go_ret
      exact ⟨L, rfl, HT.out, K.out.o⟩
    · clear hs
      go_wp2
      go_ret
      exact ⟨L, rfl, HT.out, K.out.o⟩
end Go.Proofs.YtbkiijndhjmkdaaGreatDoor
