/- A list of texts that came in. -/
import Derived.Test.YtbkiijndhjmkdaaGreatDoorJ22
import Derived.ProofKit
import Derived.OpenShut
import Derived.Deep.DeepHandedRow
namespace Go.Proofs.YtbkiijndhjmkdaaGreatDoor
open Go.ChangeShapes Go.WideShapes Go.ChangeAt Go.RowKit

theorem cells9 : Tryz.prog.cellsOf 9 = 1 := by kernel_rfl
/-- what the reading of a list of texts gives -/
theorem strs_of {W : World} {a : Addr} {len : Nat} {ss : List ByteArray} (hcell : ∀ i, i < ss.length → W.cell? (a.add i) = some (.string (ss.getD i ByteArray.empty))) (hl : len ≤ ss.length) :
    Strs (some a) ((ss.take len).map fun s => s.data.toList) W := by
  by_cases h0 : len = 0
  · subst h0; exact .inl (by simp)
  · obtain ⟨b, off, sp⟩ := a
    have hc0 := hcell 0 (by omega)
    have hsp : sp = none := by
      cases sp with
      | none => rfl
      | some x =>
        exfalso
        have e : (⟨b, off, some x⟩ : Addr).add 0 = ⟨b, off, some x⟩ := rfl
        rw [e] at hc0
        unfold World.cell? at hc0
        split at hc0 <;> simp at hc0
    subst hsp
    refine .inr ⟨b, off, rfl, World.block_lt_of_cell? W _ (by rw [show (⟨b, off, none⟩ : Addr).add 0 = ⟨b, off, none⟩ from rfl] at hc0; exact hc0), fun i hi => ?_⟩
    have hi2 : i < len := by simpa [Nat.min_eq_left hl] using hi
    have := hcell i (by omega)
    rw [Addr.add_mid] at this
    rw [this, List.getElem_map, List.getElem_take, List.getD_eq_getElem?_getD, List.getElem?_eq_getElem (by omega)]
    rw [str_eta]
    rfl

/-- a list of texts that came in -/
theorem opened {H : Type} {enc : TypeId × Value → H} {W : World} {a0 : Option Addr} {len cap : Nat} {d0 : DataW H} {p0 : List MemPlace} (h : DataW.Trod enc Tryz.prog W 0 (fun _ => true) true 44 (.slice a0 len cap) d0 p0) :
    ∃ L : List (List UInt8), L.length = len ∧ L.length ≤ maxLen ∧ (∀ i (h : i < L.length), L[i].length ≤ maxLen) ∧ Strs a0 L W := by
  obtain ⟨fuel, hf⟩ := h
  rcases open_strings Tryz.underlying44 Tryz.underlying9 cells9 hf with ⟨hcs, hx⟩ | ⟨a, len', cap', ss, hcs, _, hl, hm, hz, hx, hcell, hws⟩
  · simp [Value.cells] at hcs
    obtain ⟨rfl, rfl, rfl⟩ := hcs
    exact ⟨[], rfl, Nat.zero_le _, fun i h => by simp at h, .inl rfl⟩
  · simp [Value.cells] at hcs
    obtain ⟨rfl, rfl, rfl⟩ := hcs
    have hz' : ss.length = cap := by simpa using hz
    refine ⟨(ss.take len).map fun s => s.data.toList, by simp; omega, by simp; omega, fun i h => ?_, strs_of hcell (by omega)⟩
    rw [List.getElem_map]
    exact hws _ (List.mem_of_mem_take (List.getElem_mem _))
end Go.Proofs.YtbkiijndhjmkdaaGreatDoor
/- Layer 7's things that came in by value: opened. -/
namespace Go.Proofs.YtbkiijndhjmkdaaGreatDoor
open Go.ChangeShapes Go.WideShapes Go.ChangeAt Go.RowKit

theorem ocells_n : Tryz.prog.cellsOf 22 = 1 := by kernel_rfl
theorem ocells_b : Tryz.prog.cellsOf 4 = 1 := by kernel_rfl
theorem ocells_l : Tryz.prog.cellsOf 44 = 1 := by kernel_rfl
theorem ocells_part : Tryz.prog.cellsOf 24 = 5 := by kernel_rfl
theorem ocells_sig : Tryz.prog.cellsOf 46 = 3 := by kernel_rfl
theorem ocells_slot : Tryz.prog.cellsOf 48 = 5 := by kernel_rfl
theorem ocells_msg : Tryz.prog.cellsOf 70 = 6 := by kernel_rfl
theorem ocells_hdr : Tryz.prog.cellsOf 72 = 4 := by kernel_rfl
theorem ocells_small : Tryz.prog.cellsOf 88 = 20 := by kernel_rfl
theorem olist3 {α : Type} (l : List α) (h : l.length = 3) : ∃ a b c, l = [a, b, c] := by
  match l, h with
  | [a, b, c], _ => exact ⟨a, b, c, rfl⟩
theorem olist4 {α : Type} (l : List α) (h : l.length = 4) : ∃ a b c d, l = [a, b, c, d] := by
  match l, h with
  | [a, b, c, d], _ => exact ⟨a, b, c, d, rfl⟩
theorem olist5 {α : Type} (l : List α) (h : l.length = 5) : ∃ a b c d e, l = [a, b, c, d, e] := by
  match l, h with
  | [a, b, c, d, e], _ => exact ⟨a, b, c, d, e, rfl⟩
theorem olist6 {α : Type} (l : List α) (h : l.length = 6) : ∃ a b c d e f, l = [a, b, c, d, e, f] := by
  match l, h with
  | [a, b, c, d, e, f], _ => exact ⟨a, b, c, d, e, f, rfl⟩

section
variable {H : Type} {enc : TypeId × Value → H} {W : World} {base : Nat} {spare : Nat → Bool} {held : Bool} {fuel : Nat} {cs : List Value} {y : DataW H × List MemPlace}
theorem inner_num (h : DataW.trod enc Tryz.prog W base spare held fuel 22 cs = some y) : ∃ n : Nat, cs = [.int .u64 (n : Int)] ∧ n < 18446744073709551616 := by
  obtain ⟨n, e, _, wf⟩ := DataW.trod_int Tryz.underlying22 h
  have b := bounds_u64 wf
  obtain ⟨n, rfl⟩ := Int.eq_ofNat_of_zero_le b.1
  exact ⟨n, e, by omega⟩
theorem inner_bool (h : DataW.trod enc Tryz.prog W base spare held fuel 4 cs = some y) : ∃ b : Bool, cs = [.bool b] := by
  obtain ⟨b, e, _⟩ := DataW.trod_bool Tryz.underlying4 h
  exact ⟨b, e⟩
theorem inner_txt (h : DataW.trod enc Tryz.prog W base spare held fuel 9 cs = some y) : ∃ S : (List UInt8), cs = [.string ⟨S.toArray⟩] ∧ S.length ≤ maxLen := by
  obtain ⟨S, e, _, wf⟩ := DataW.trod_string Tryz.underlying9 h
  exact ⟨S.data.toList, by rw [e, str_eta], wf⟩
theorem inner_strs (h : DataW.trod enc Tryz.prog W base spare held fuel 44 cs = some y) : ∃ (ao : Option Addr) (cp : Nat) (L : List (List UInt8)), cs = [.slice ao L.length cp] ∧ L.length ≤ maxLen ∧ (∀ i (h : i < L.length), L[i].length ≤ maxLen) ∧ Strs ao L W := by
  rcases open_strings Tryz.underlying44 Tryz.underlying9 cells9 h with ⟨hcs, hx⟩ | ⟨a, len', cap', ss, hcs, _, hl, hm, hz, hx, hcell, hws⟩
  · exact ⟨none, 0, [], hcs, Nat.zero_le _, fun i h => by simp at h, .inl rfl⟩
  · have hz' : len' ≤ ss.length := by rw [hz]; split <;> omega
    refine ⟨some a, cap', (ss.take len').map fun s => s.data.toList, by rw [hcs, List.length_map, List.length_take, Nat.min_eq_left hz'], by simp; omega, fun i h => ?_, strs_of hcell hz'⟩
    rw [List.getElem_map]
    exact hws _ (List.mem_of_mem_take (List.getElem_mem _))
theorem inner_part (h : DataW.trod enc Tryz.prog W base spare held fuel 24 cs = some y) : ∃ p : PartR, cs = partQ p ∧ PartIn p ∧ p.root.length ≤ maxLen := by
  obtain ⟨xs, m, _, rfl, hcl, hl, hy⟩ := DataW.trod_struct Tryz.underlying24 h
  rw [ocells_part] at hcl
  obtain ⟨c0, c1, c2, c3, c4, rfl⟩ := olist5 cs hcl
  obtain ⟨y0, y1, y2, y3, y4, rfl⟩ := olist5 xs hl
  obtain ⟨r, e0, w0⟩ := inner_txt (hy 0 _ rfl)
  obtain ⟨n1, e1, w1⟩ := inner_num (hy 1 _ rfl)
  obtain ⟨n2, e2, w2⟩ := inner_num (hy 2 _ rfl)
  obtain ⟨n3, e3, w3⟩ := inner_num (hy 3 _ rfl)
  obtain ⟨n4, e4, w4⟩ := inner_num (hy 4 _ rfl)
  simp [ocells_n, cells9] at e0 e1 e2 e3 e4
  subst e0 e1 e2 e3 e4
  exact ⟨⟨r, n1, n2, n3, n4⟩, rfl, ⟨w1, w2, w3, w4⟩, w0⟩
theorem inner_msg (h : DataW.trod enc Tryz.prog W base spare held fuel 70 cs = some y) : ∃ p : MsgR, cs = msgQ p ∧ MsgIn p ∧ p.headers.length ≤ maxLen ∧ p.parts.length ≤ maxLen := by
  obtain ⟨xs, m, _, rfl, hcl, hl, hy⟩ := DataW.trod_struct Tryz.underlying70 h
  rw [ocells_msg] at hcl
  obtain ⟨c0, c1, c2, c3, c4, c5, rfl⟩ := olist6 cs hcl
  obtain ⟨y0, y1, y2, y3, y4, y5, rfl⟩ := olist6 xs hl
  obtain ⟨r, e0, w0⟩ := inner_txt (hy 0 _ rfl)
  obtain ⟨n1, e1, w1⟩ := inner_txt (hy 1 _ rfl)
  obtain ⟨n2, e2, w2⟩ := inner_num (hy 2 _ rfl)
  obtain ⟨n3, e3, w3⟩ := inner_num (hy 3 _ rfl)
  obtain ⟨n4, e4, w4⟩ := inner_num (hy 4 _ rfl)
  obtain ⟨n5, e5, w5⟩ := inner_num (hy 5 _ rfl)
  simp [ocells_n, cells9] at e0 e1 e2 e3 e4 e5
  subst e0 e1 e2 e3 e4 e5
  exact ⟨⟨r, n1, n2, n3, n4, n5⟩, rfl, ⟨w2, w3, w4, w5⟩, w0, w1⟩
theorem inner_hdr (h : DataW.trod enc Tryz.prog W base spare held fuel 72 cs = some y) : ∃ p : HdrR, cs = hdrQ p ∧ p.round < 18446744073709551616 ∧ p.prev.length ≤ maxLen ∧ p.txns.length ≤ maxLen ∧ p.seed.length ≤ maxLen := by
  obtain ⟨xs, m, _, rfl, hcl, hl, hy⟩ := DataW.trod_struct Tryz.underlying72 h
  rw [ocells_hdr] at hcl
  obtain ⟨c0, c1, c2, c3, rfl⟩ := olist4 cs hcl
  obtain ⟨y0, y1, y2, y3, rfl⟩ := olist4 xs hl
  obtain ⟨n0, e0, w0⟩ := inner_num (hy 0 _ rfl)
  obtain ⟨n1, e1, w1⟩ := inner_txt (hy 1 _ rfl)
  obtain ⟨n2, e2, w2⟩ := inner_txt (hy 2 _ rfl)
  obtain ⟨n3, e3, w3⟩ := inner_txt (hy 3 _ rfl)
  simp [ocells_n, cells9] at e0 e1 e2 e3
  subst e0 e1 e2 e3
  exact ⟨⟨n0, n1, n2, n3⟩, rfl, w0, w1, w2, w3⟩
/-- a Slot's lists that came in -/
structure SlotT (x : SlotE) (w : World) : Prop where
  m : SlotM x w
  wl : x.r.sig.wots.length ≤ maxLen
  we : ∀ i (h : i < x.r.sig.wots.length), x.r.sig.wots[i].length ≤ maxLen
  pl : x.r.sig.path.length ≤ maxLen
  pe : ∀ i (h : i < x.r.sig.path.length), x.r.sig.path[i].length ≤ maxLen
theorem inner_slot (h : DataW.trod enc Tryz.prog W base spare held fuel 48 cs = some y) : ∃ x : SlotE, cs = slotQ x ∧ SlotIn x.r ∧ SlotT x W := by
  obtain ⟨xs, m, _, rfl, hcl, hl, hy⟩ := DataW.trod_struct Tryz.underlying48 h
  rw [ocells_slot] at hcl
  obtain ⟨c0, c1, c2, c3, c4, rfl⟩ := olist5 cs hcl
  obtain ⟨y0, y1, y2, rfl⟩ := olist3 xs hl
  obtain ⟨n0, e0, w0⟩ := inner_num (hy 0 _ rfl)
  obtain ⟨b, e1⟩ := inner_bool (hy 1 _ rfl)
  obtain ⟨zs, m2, _, _, _, hl2, hz⟩ := DataW.trod_struct Tryz.underlying46 (hy 2 _ rfl)
  obtain ⟨z0, z1, z2, rfl⟩ := olist3 zs hl2
  obtain ⟨n2, e2, w2⟩ := inner_num (hz 0 _ rfl)
  obtain ⟨wa, wc, ws, e3, w3, w4, w5⟩ := inner_strs (hz 1 _ rfl)
  obtain ⟨pa, pc, ps, e4, w6, w7, w8⟩ := inner_strs (hz 2 _ rfl)
  simp [ocells_n, ocells_b, ocells_l, ocells_sig] at e0 e1 e2 e3 e4
  subst e0 e1 e2 e3 e4
  have hm : maxLen ≤ 9223372036854775807 := by unfold maxLen; omega
  exact ⟨⟨⟨n0, b, ⟨n2, ws, ps⟩⟩, wa, wc, pa, pc⟩, rfl, ⟨w0, ⟨w2, Nat.le_trans w3 hm, Nat.le_trans w6 hm⟩⟩, ⟨⟨w5, w8⟩, w3, w4, w6, w7⟩⟩
abbrev smallV (p : PartR) (x : SlotE) (m : MsgR) (h : HdrR) : Value := .agg #[.string ⟨p.root.toArray⟩, .int .u64 (p.weight : Int), .int .u64 (p.first : Int), .int .u64 (p.life : Int), .int .u64 (p.keys : Int),
  .int .u64 (x.r.l : Int), .bool x.r.signed, .int .u64 (x.r.sig.index : Int), .slice x.wa x.r.sig.wots.length x.wc, .slice x.pa x.r.sig.path.length x.pc,
  .string ⟨m.headers.toArray⟩, .string ⟨m.parts.toArray⟩, .int .u64 (m.count : Int), .int .u64 (m.proven : Int), .int .u64 (m.first : Int), .int .u64 (m.last : Int),
  .int .u64 (h.round : Int), .string ⟨h.prev.toArray⟩, .string ⟨h.txns.toArray⟩, .string ⟨h.seed.toArray⟩]
theorem cut20 (l : List Value) (h : l.length = 20) : l = (l.drop 0).take 5 ++ ((l.drop 5).take 5 ++ ((l.drop 10).take 6 ++ (l.drop 16).take 4)) := by
  have h4 : (l.drop 16).take 4 = l.drop 16 := List.take_of_length_le (by rw [List.length_drop]; omega)
  have h3 : (l.drop 10).take 6 ++ l.drop 16 = l.drop 10 := by
    have k := List.take_append_drop 6 (l.drop 10)
    rw [List.drop_drop] at k
    exact k
  have h2 : (l.drop 5).take 5 ++ l.drop 10 = l.drop 5 := by
    have k := List.take_append_drop 5 (l.drop 5)
    rw [List.drop_drop] at k
    exact k
  rw [h4, h3, h2, List.drop_zero, List.take_append_drop]
end
set_option maxRecDepth 100000 in
theorem open_small {H : Type} {enc : TypeId × Value → H} {W : World} {base : Nat} {v : Value} {dv : DataW H} {p : List MemPlace} (hv : Value.okWide Tryz.prog W .any base 88 v)
    (h : DataW.Trod enc Tryz.prog W 0 (fun _ => true) true 88 v dv p) :
    ∃ (q : PartR) (x : SlotE) (m : MsgR) (t : HdrR), v = smallV q x m t ∧ PartIn q ∧ SlotIn x.r ∧ SlotT x W ∧ MsgIn m ∧ t.round < 18446744073709551616
      ∧ q.root.length ≤ maxLen ∧ m.headers.length ≤ maxLen ∧ m.parts.length ≤ maxLen ∧ t.prev.length ≤ maxLen ∧ t.txns.length ≤ maxLen ∧ t.seed.length ≤ maxLen := by
  obtain ⟨cs, rfl, hsz⟩ := okWide_struct Tryz.underlying88 hv
  obtain ⟨l⟩ := cs
  obtain ⟨fuel, hf⟩ := h
  obtain ⟨xs, n, _, _, hcl, hl, hy⟩ := DataW.trod_struct Tryz.underlying88 hf
  rw [ocells_small] at hcl
  obtain ⟨y0, y1, y2, y3, rfl⟩ := olist4 xs hl
  obtain ⟨q, e0, i0, j0⟩ := inner_part (hy 0 _ rfl)
  obtain ⟨x, e1, i1, j1⟩ := inner_slot (hy 1 _ rfl)
  obtain ⟨m, e2, i2, j2, k2⟩ := inner_msg (hy 2 _ rfl)
  obtain ⟨t, e3, i3, j3, k3, l3⟩ := inner_hdr (hy 3 _ rfl)
  replace e0 : (l.drop 0).take (Tryz.prog.cellsOf 24) = partQ q := e0
  replace e1 : (l.drop 5).take (Tryz.prog.cellsOf 48) = slotQ x := e1
  replace e2 : (l.drop 10).take (Tryz.prog.cellsOf 70) = msgQ m := e2
  replace e3 : (l.drop 16).take (Tryz.prog.cellsOf 72) = hdrQ t := e3
  rw [ocells_part] at e0
  rw [ocells_slot] at e1
  rw [ocells_msg] at e2
  rw [ocells_hdr] at e3
  refine ⟨q, x, m, t, ?_, i0, i1, j1, i2, i3, j0, j2, k2, j3, k3, l3⟩
  have el : l = partQ q ++ (slotQ x ++ (msgQ m ++ hdrQ t)) := by
    have k := cut20 l hcl
    rw [e0, e1, e2, e3] at k
    exact k
  rw [el]
  rfl
end Go.Proofs.YtbkiijndhjmkdaaGreatDoor
