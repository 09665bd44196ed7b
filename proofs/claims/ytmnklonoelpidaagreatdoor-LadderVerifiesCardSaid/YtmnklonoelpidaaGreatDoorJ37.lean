/- How a ladder is made, that came in by value: opened. -/
import Derived.Test.YtmnklonoelpidaaGreatDoorJ1
import Derived.OpenShut
import Derived.ProofKit
import Derived.Test.YtmnklonoelpidaaGreatDoorJ8
import Derived.Lib.ConvBytes
import Derived.Laws.Bits64
import Derived.Deep.Cut
import Derived.Test.YtmnklonoelpidaaGreatDoorJ35
import Derived.IntWalk
import Derived.Test.YtmnklonoelpidaaGreatDoorJ29
namespace Go.Proofs.YtmnklonoelpidaaGreatDoor
open Go.ChangeShapes Go.WideShapes Go.ChangeAt Go.RowKit

theorem mcells_n : Tryz.prog.cellsOf 22 = 1 := by kernel_rfl
theorem mcells_b : Tryz.prog.cellsOf 5 = 1 := by kernel_rfl
theorem mcells_i : Tryz.prog.cellsOf 3 = 1 := by kernel_rfl
theorem mcells_m : Tryz.prog.cellsOf 24 = 8 := by kernel_rfl
theorem mlist8 {α : Type} (l : List α) (h : l.length = 8) : ∃ a b c d e f g i, l = [a, b, c, d, e, f, g, i] := by
  match l, h with
  | [a, b, c, d, e, f, g, i], _ => exact ⟨a, b, c, d, e, f, g, i, rfl⟩
set_option maxRecDepth 100000 in
set_option maxHeartbeats 2000000 in
theorem open_made14 {H : Type} {enc : TypeId × Value → H} {W : World} {base : Nat} {v : Value} {dv : DataW H} {p : List MemPlace} (hv : Value.okWide Tryz.prog W .any base 24 v)
    (h : DataW.Trod enc Tryz.prog W 0 (fun _ => true) true 24 v dv p) : ∃ (s d z f l : Nat) (k : Int) (r wt : Nat), v = .agg #[.int .u8 (s : Int), .int .u8 (d : Int), .int .u8 (z : Int), .int .u64 (f : Int), .int .u64 (l : Int), .int .i64 k, .int .u64 (r : Int), .int .u64 (wt : Int)] ∧ s < 256 ∧ d < 256 ∧ z < 256 ∧ f < 18446744073709551616 ∧ l < 18446744073709551616 ∧ (-9223372036854775808 ≤ k ∧ k ≤ 9223372036854775807) ∧ r < 18446744073709551616 ∧ wt < 18446744073709551616 := by
  obtain ⟨cs, rfl, hsz⟩ := okWide_struct Tryz.underlying24 hv
  obtain ⟨l⟩ := cs
  obtain ⟨fuel, hf⟩ := h
  obtain ⟨xs, m, _, hxx, hcl, hl, hy⟩ := DataW.trod_struct Tryz.underlying24 hf
  rw [mcells_m] at hcl
  obtain ⟨c0, c1, c2, c3, c4, c5, c6, c7, e⟩ := mlist8 _ hcl
  have e' : l = [c0, c1, c2, c3, c4, c5, c6, c7] := e
  subst e'
  obtain ⟨y0, y1, y2, y3, y4, y5, y6, y7, rfl⟩ := mlist8 xs hl
  obtain ⟨n0, e0, f0, w0⟩ := DataW.trod_int Tryz.underlying5 (hy 0 _ rfl)
  obtain ⟨n1, e1, f1, w1⟩ := DataW.trod_int Tryz.underlying5 (hy 1 _ rfl)
  obtain ⟨n2, e2, f2, w2⟩ := DataW.trod_int Tryz.underlying5 (hy 2 _ rfl)
  obtain ⟨n3, e3, f3, w3⟩ := DataW.trod_int Tryz.underlying22 (hy 3 _ rfl)
  obtain ⟨n4, e4, f4, w4⟩ := DataW.trod_int Tryz.underlying22 (hy 4 _ rfl)
  obtain ⟨n5, e5, f5, w5⟩ := DataW.trod_int Tryz.underlying3 (hy 5 _ rfl)
  obtain ⟨n6, e6, f6, w6⟩ := DataW.trod_int Tryz.underlying22 (hy 6 _ rfl)
  obtain ⟨n7, e7, f7, w7⟩ := DataW.trod_int Tryz.underlying22 (hy 7 _ rfl)
  simp [mcells_n, mcells_b, mcells_i, Value.cells] at e0 e1 e2 e3 e4 e5 e6 e7
  subst e0 e1 e2 e3 e4 e5 e6 e7
  have b0 := bounds_u8 w0
  have b1 := bounds_u8 w1
  have b2 := bounds_u8 w2
  have b3 := bounds_u64 w3
  have b4 := bounds_u64 w4
  have b5 := bounds_i64 w5
  have b6 := bounds_u64 w6
  have b7 := bounds_u64 w7
  obtain ⟨n0, rfl⟩ := Int.eq_ofNat_of_zero_le b0.1
  obtain ⟨n1, rfl⟩ := Int.eq_ofNat_of_zero_le b1.1
  obtain ⟨n2, rfl⟩ := Int.eq_ofNat_of_zero_le b2.1
  obtain ⟨n3, rfl⟩ := Int.eq_ofNat_of_zero_le b3.1
  obtain ⟨n4, rfl⟩ := Int.eq_ofNat_of_zero_le b4.1
  obtain ⟨n6, rfl⟩ := Int.eq_ofNat_of_zero_le b6.1
  obtain ⟨n7, rfl⟩ := Int.eq_ofNat_of_zero_le b7.1
  exact ⟨n0, n1, n2, n3, n4, n5, n6, n7, rfl, by omega, by omega, by omega, by omega, by omega, by omega, by omega, by omega⟩
end Go.Proofs.YtmnklonoelpidaaGreatDoor
/- Bytes in a row of one's own, of which one is turned. -/
namespace Go.Proofs.YtmnklonoelpidaaGreatDoor
open Go.RowKit

theorem xor_u8 (a b : Nat) (ha : a < 256) (hb : b < 256) : ∃ v : UInt8, bits .xor .u8 (a : Int) (b : Int) = (v.toNat : Int) := by
  have hx : a ^^^ b < 2 ^ 8 := Nat.xor_lt_two_pow (by omega) (by omega)
  have h1 : (BitVec.ofInt 8 (a : Int)).toNat = a := by
    rw [BitVec.ofInt_natCast, BitVec.toNat_ofNat]; exact Nat.mod_eq_of_lt (by omega)
  have h2 : (BitVec.ofInt 8 (b : Int)).toNat = b := by
    rw [BitVec.ofInt_natCast, BitVec.toNat_ofNat]; exact Nat.mod_eq_of_lt (by omega)
  refine ⟨UInt8.ofNat (a ^^^ b), ?_⟩
  show IntKind.u8.wrap ((BitVec.ofInt 8 (a : Int) ^^^ BitVec.ofInt 8 (b : Int)).toNat : Int) = _
  rw [BitVec.toNat_xor, h1, h2, UInt8.toNat_ofNat']
  simp only [IntKind.wrap, IntKind.bits, IntKind.signed]
  simp
/-- bytes in a row of one's own -/
structure Rw8 (b : Nat) (L : (List UInt8)) (w : World) : Prop where
  c : ∀ j (h : j < L.length), w.cell? ⟨b, j, none⟩ = some (.int .u8 (L[j].toNat : Int))
  f : ∀ j, j < L.length → w.frozen? ⟨b, j, none⟩ = false
theorem row8_own (S : (List UInt8)) (w : World) : ∃ cap w', (convert 9 64 (.string ⟨S.toArray⟩)).run Tryz.prog w = .ok (.slice (some ⟨w.heap.size, 0, none⟩) S.length cap) w' ∧ S.length ≤ cap ∧ Rw8 w.heap.size S w' ∧ Below w.heap.size w w' ∧ w.heap.size < w'.heap.size := by
  refine ⟨_, _, Lib.run_convert_string_bytes (P := Tryz.prog) w 9 64 5 ⟨S.toArray⟩ Tryz.underlying9 Tryz.underlying64 Tryz.underlying5, ?_, ⟨fun j hj => ?_, fun j hj => ?_⟩, ?_, ?_⟩
  · have : (⟨S.toArray⟩ : ByteArray).size = S.length := rfl
    rw [← this]
    exact grownCap_ge _ _ _ _
  · rw [Lib.bytesWorld_cell w 5 ⟨S.toArray⟩ j hj]
    simp [List.getD, List.getElem?_eq_getElem hj]
  · have h1 : (Lib.bytesWorld w 5 ⟨S.toArray⟩).heap[(⟨w.heap.size, j, none⟩ : Addr).block]? = _ := Lib.bytesWorld_at_new w 5 ⟨S.toArray⟩
    unfold World.frozen?
    rw [h1]
    have h2 : S.length ≤ (Lib.bytesCells w 5 ⟨S.toArray⟩).size := by simp [Lib.bytesCells]
    simp only [Bool.and_eq_false_iff, decide_eq_false_iff_not]
    left
    omega
  · exact ⟨rfl, rfl, rfl, by rw [Lib.bytesWorld_size]; omega, fun k hk => Lib.bytesWorld_at_old w 5 _ k hk⟩
  · rw [Lib.bytesWorld_size]; omega
theorem set_cells {b i : Nat} {L : (List UInt8)} {v : UInt8} {w : World} (h : Rw8 b L w) : Rw8 b (L.set i v) (w.setCell ⟨b, i, none⟩ (.int .u8 (v.toNat : Int))) := by
  refine ⟨fun j hj => ?_, fun j hj => ?_⟩
  · rw [List.length_set] at hj
    by_cases hji : i = j
    · subst hji
      rw [World.cell?_setCell_same _ _ _ (h.c i hj), List.getElem_set_self]
    · rw [World.cell?_setCell_other _ ⟨b, i, none⟩ ⟨b, j, none⟩ _ (fun e => hji (by cases e; rfl)), h.c j hj, List.getElem_set_ne hji]
  · rw [List.length_set] at hj
    rw [World.frozen?_setCell]
    exact h.f j hj
theorem Rw8.to {b : Nat} {L : (List UInt8)} {w w' : World} (h : Rw8 b L w) (hw : w'.heap[b]? = w.heap[b]?) : Rw8 b L w' := by
  refine ⟨fun j hj => (World.cell?_of_block (a := ⟨b, j, none⟩) hw).trans (h.c j hj), fun j hj => ?_⟩
  have h1 := h.f j hj
  unfold World.frozen? at *
  rw [show w'.heap[(⟨b, j, none⟩ : Addr).block]? = w.heap[b]? from hw]
  exact h1
end Go.Proofs.YtmnklonoelpidaaGreatDoor
/- Layer 14's law: turned. -/
namespace Go.Proofs.YtmnklonoelpidaaGreatDoor
open Go.RowKit

set_option maxRecDepth 100000 in
set_option maxHeartbeats 2000000 in
theorem turned14_any (s : (List UInt8)) (p y : Nat) (w : World) (hs : s.length ≤ 100000) (hp : p < 256) (hy : y < 256) : Calls Tryz.prog 57 #[.string ⟨s.toArray⟩, .int .u8 (p : Int), .int .u8 (y : Int)] w fun e w' => ∃ t : (List UInt8), e = .returned (.string ⟨t.toArray⟩) ∧ t.length = s.length ∧ Below w.heap.size w w' := by
  obtain ⟨cp, w1, hcv, hcp, hR, hb, hlt⟩ := row8_own s w
  obtain ⟨B, hB⟩ : ∃ B, B = w.heap.size := ⟨_, rfl⟩
  rw [← hB] at hcv hR
  have HB := Lib.hid hb
  have HBW := Lib.hid hB
  clear hb hlt hB
  have hwp : IntKind.i64.wrap (p : Int) = (p : Int) := IntWalk.i64_in _ (by omega)
  by_cases h0 : s.length = 0
  · have hl : s = [] := List.length_eq_zero_iff.1 h0
    subst hl
    have hbk : (convert 64 9 (.slice (some ⟨B, 0, none⟩) 0 cp)).run Tryz.prog w1 = .ok (.string ⟨#[]⟩) w1 := conv_bytes [] B cp w1 (fun j hj => by cases hj)
    go_enter Tryz.func57, Tryz.ntmps57
    go_wp2
    go_ret
    exact ⟨[], rfl, rfl, HB.out⟩
  · have g0 : (0 : Int) < (s.length : Int) := by omega
    obtain ⟨m, hm⟩ : ∃ m, m = p % s.length := ⟨_, rfl⟩
    have hms : m < s.length := by rw [hm]; exact Nat.mod_lt _ (by omega)
    have e1 : (p : Int) % (s.length : Int) = (m : Int) := by rw [hm]; exact (Int.natCast_emod p s.length).symm
    have e2 : (p : Int).tmod (s.length : Int) = (m : Int) := by rw [Int.tmod_eq_emod_of_nonneg (by omega)]; exact e1
    have e3 : ¬ (s.length : Int) = 0 := by omega
    have e4 : (0 : Int) ≤ (m : Int) := by omega
    have e5 : (m : Int) < (s.length : Int) := by omega
    have cm := hR.c m hms
    have fm := hR.f m hms
    obtain ⟨v, hv⟩ := xor_u8 (s[m]).toNat y (UInt8.toNat_lt _) hy
    have HR2 := Lib.hid (set_cells (i := m) (v := v) hR)
    obtain ⟨T, hT⟩ : ∃ T, T = s.set m v := ⟨_, rfl⟩
    have htl : T.length = s.length := by rw [hT, List.length_set]
    rw [← hT] at HR2
    have hbk : (convert 64 9 (.slice (some ⟨B, 0, none⟩) s.length cp)).run Tryz.prog (w1.setCell ⟨B, m, none⟩ (.int .u8 (v.toNat : Int))) = .ok (.string ⟨T.toArray⟩) (w1.setCell ⟨B, m, none⟩ (.int .u8 (v.toNat : Int))) := by
      have := conv_bytes T B cp _ (fun j hj => HR2.out.c j hj)
      rwa [htl] at this
    have HBS := Lib.hid (HB.out.setCell (p := ⟨B, m, none⟩) (by rw [HBW.out]; exact Nat.le_refl _) (.int .u8 (v.toNat : Int)))
    have HTL := Lib.hid htl
    generalize s[m] = u at *
    clear hm hms hR HR2 hT htl h0 hcp hy hp
    go_enter Tryz.func57, Tryz.ntmps57
    go_wp2
    go_ret
    exact ⟨T, rfl, HTL.out, HBS.out⟩
end Go.Proofs.YtmnklonoelpidaaGreatDoor
/- Layer 14's law: texts by letters; sizes, keys. -/
namespace Go.Proofs.YtmnklonoelpidaaGreatDoor
open Go.RowKit

def fillT (T : (List UInt8)) (n k : Nat) : (List UInt8) := T.take k ++ List.replicate (n - k) 0
theorem fillT_len {T : (List UInt8)} {n k : Nat} (hT : T.length = n) (hk : k ≤ n) : (fillT T n k).length = n := by rw [fillT, List.length_append, List.length_take, List.length_replicate]; omega
theorem fillT_set {T : (List UInt8)} {n k : Nat} (hT : T.length = n) (hk : k < n) : (fillT T n k).set k (T[k]'(by omega)) = fillT T n (k + 1) := by
  obtain ⟨m, hm⟩ : ∃ m, n - k = m + 1 := ⟨n - k - 1, by omega⟩
  have hl : (T.take k).length = k := by rw [List.length_take]; omega
  rw [fillT, fillT, hm, List.set_append_right _ _ (by omega), hl, Nat.sub_self, List.replicate_succ, List.set_cons_zero, show n - (k + 1) = m by omega, List.take_succ_eq_append_getElem (by omega), List.append_assoc]
  rfl
theorem fillT_0 (T : (List UInt8)) (n : Nat) : fillT T n 0 = List.replicate n 0 := by simp [fillT]
theorem fillT_n {T : (List UInt8)} {n : Nat} (hT : T.length = n) : fillT T n n = T := by rw [fillT, Nat.sub_self, List.take_of_length_le (by omega)]; simp
set_option maxRecDepth 100000 in
set_option maxHeartbeats 2000000 in
theorem text14_any (c n : Nat) (w : World) (_hc : c < 256) (hn : n ≤ 1000) : Calls Tryz.prog 9 #[.int .u8 (c : Int), .int .i64 (n : Int)] w fun e w' => e = .returned (.string ⟨(txtF c n).toArray⟩) ∧ Below w.heap.size w w' := by
  obtain ⟨T, hT⟩ : ∃ T, T = txtF c n := ⟨_, rfl⟩
  have hl : T.length = n := by rw [hT, txtF_len]
  have HG := Lib.hid (fun (k : Nat) (h : k < T.length) => show (T[k].toNat : Int) = (((c + k % 5) % 256 : Nat) : Int) by
    have h1 : T[k]? = some (UInt8.ofNat (c + k % 5)) := by rw [hT]; exact txtF_get c n k (by omega)
    rw [List.getElem?_eq_getElem h] at h1
    rw [Option.some.inj h1]; simp)
  rw [← hT]
  have hmk := fun w => make_bytes n (by omega) w
  rw [← fillT_0 T n] at hmk
  have HFS := Lib.hid (fun k (h : k < n) => fillT_set hl h)
  have HFL := Lib.hid (fun k (h : k ≤ n) => fillT_len hl h)
  have HFN := Lib.hid (fillT_n hl)
  have HL := Lib.hid hl
  obtain ⟨B, hB⟩ : ∃ B, B = w.heap.size := ⟨_, rfl⟩
  have HBW := Lib.hid hB
  have HB0 := Lib.hid (show Below B w (w.alloc (.cells (bytesC (fillT T n 0)).toArray 5)) by rw [hB]; exact by0 w _)
  have HX0 := Lib.hid (show (w.alloc (.cells (bytesC (fillT T n 0)).toArray 5)).heap[B]? = some (.cells (bytesC (fillT T n 0)).toArray 5 (0, 0)) by rw [hB]; exact heap_alloc_new w _)
  clear hT hB
  have hni : (n : Int) ≤ 1000 := by omega
  go_enter Tryz.func9, Tryz.ntmps9
  go_upto_region 3 with fail
  rw [← HBW.out]
  generalize w.alloc (.cells (bytesC (fillT T n 0)).toArray 5) = w1 at *
  clear hmk
  go_loopw [6] (fun v6 wr => ∃ k : Nat, k ≤ n ∧ v6 = .int .i64 (k : Int) ∧ Hid (wr.heap[B]? = some (.cells (bytesC (fillT T n k)).toArray 5 (0, 0))) ∧ Hid (Below B w wr)) (fun v6 _ => n - (intOf v6).toNat)
  case atStart => exact ⟨0, Nat.zero_le _, rfl, HX0, HB0⟩
  case round =>
    obtain ⟨k, hk, rfl, HX, HB⟩ := hrel
    by_cases hlt : k < n
    · have k0 : (0 : Int) ≤ (k : Int) := by omega
      have k1 : (k : Int) < (n : Int) := by omega
      have HLT := Lib.hid hlt
      have hkT : k < T.length := by rw [HL.out]; exact hlt
      have hcell : wr.cell? ⟨B, k, none⟩ = some (.int .u8 ((((fillT T n k)[k]'(by rw [HFL.out k hk]; exact hlt)).toNat : Nat) : Int)) := bytes_cell HX.out k (by rw [HFL.out k hk]; exact hlt)
      generalize (fillT T n k)[k]'(by rw [HFL.out k hk]; exact hlt) = q at *
      have hf := lit_free HX.out k
      have hv := HG.out k hkT
      have hset := lit_set (k := k) (.int .u8 (T[k].toNat : Int)) HX.out
      rw [show (bytesC (fillT T n k)).toArray.setIfInBounds k (.int .u8 (T[k].toNat : Int)) = (bytesC ((fillT T n k).set k T[k])).toArray by simp [bytesC, List.map_set], HFS.out k hlt, hv] at hset
      obtain ⟨m, hm⟩ : ∃ m, m = k % 5 := ⟨_, rfl⟩
      have m1 : (k : Int).tmod 5 = (m : Int) := by rw [Int.tmod_eq_emod_of_nonneg (by omega)]; omega
      have m2 : (k : Int) % 5 = (m : Int) := by omega
      have m3 : IntKind.u8.wrap (m : Int) = (m : Int) := IntWalk.u8_in _ (by omega)
      rw [← hm] at hset
      obtain ⟨v, hvv⟩ : ∃ v, v = (c + m) % 256 := ⟨_, rfl⟩
      rw [← hvv] at hset
      have m4 : IntKind.u8.wrap ((c : Int) + (m : Int)) = (v : Int) := by simp [IntKind.wrap, IntKind.bits, IntKind.signed]; omega
      have HS := Lib.hid hset
      have HBS := Lib.hid (HB.out.setCell (p := ⟨B, k, none⟩) (Nat.le_refl _) (.int .u8 (v : Int)))
      clear hset hv hm hvv hkT hlt hk
      go_wp2
      go_roundw
      case rel => exact ⟨k + 1, HLT.out, by go_num, HS, HBS⟩
      case measure => have := HLT.out; simp [intOf]; omega
    · have k1 : ¬ (k : Int) < (n : Int) := by omega
      have ek : k = n := by omega
      rw [ek, HFN.out] at HX
      have hcv : (convert 64 9 (.slice (some ⟨B, 0, none⟩) n n)).run Tryz.prog wr = .ok (.string ⟨T.toArray⟩) wr := by
        have := conv_bytes T B n wr (fun j hj => bytes_cell HX.out j hj)
        rwa [HL.out] at this
      clear ek hlt hk
      go_wp2
      go_ret
      exact ⟨rfl, by rw [← HBW.out]; exact HB.out⟩
end Go.Proofs.YtmnklonoelpidaaGreatDoor
