/- Arrays that came in by value, and a list of arrays of two bytes: opened. -/
import Derived.Test.YtdobmhbfadijoaaDoorBa
import Derived.OpenShut
import Derived.ProofKit
namespace Go.Proofs.YtdobmhbfadijoaaDoor
open Go.ChangeShapes Go.WideShapes Go.ChangeAt Go.RowKit

theorem okWide_arr {P : Program} {w : World} {r : Reach} {base : Nat} {t e : TypeId} {n : Nat} {v : Value} (ht : P.underlying t = some (.array n e)) (h : Value.okWide P w r base t v) : ∃ cs, v = .agg cs ∧ cs.size = P.cellsOf t := by
  simp only [Value.okWide, ht] at h
  obtain ⟨cs, h1, h2, _⟩ := h
  exact ⟨cs, h1, h2⟩
theorem ecells_i : Tryd.prog.cellsOf 3 = 1 := by kernel_rfl
theorem ecells_b : Tryd.prog.cellsOf 5 = 1 := by kernel_rfl
theorem elist2 {α : Type} (l : List α) (h : l.length = 2) : ∃ a b, l = [a, b] := by
  match l, h with
  | [a, b], _ => exact ⟨a, b, rfl⟩
theorem elist3 {α : Type} (l : List α) (h : l.length = 3) : ∃ a b c, l = [a, b, c] := by
  match l, h with
  | [a, b, c], _ => exact ⟨a, b, c, rfl⟩
theorem elist4 {α : Type} (l : List α) (h : l.length = 4) : ∃ a b c d, l = [a, b, c, d] := by
  match l, h with
  | [a, b, c, d], _ => exact ⟨a, b, c, d, rfl⟩
section
variable {H : Type} {enc : TypeId × Value → H} {W : World} {base : Nat} {spare : Nat → Bool} {held : Bool} {fuel : Nat} {cs : List Value} {y : DataW H × List MemPlace}
theorem ein_int (h : DataW.trod enc Tryd.prog W base spare held fuel 3 cs = some y) : ∃ n : Int, cs = [.int .i64 n] ∧ -9223372036854775808 ≤ n ∧ n ≤ 9223372036854775807 := by
  obtain ⟨n, e, _, wf⟩ := DataW.trod_int Tryd.underlying3 h
  have b := bounds_i64 wf
  exact ⟨n, e, b.1, b.2⟩
theorem ein_byte (h : DataW.trod enc Tryd.prog W base spare held fuel 5 cs = some y) : ∃ n : Nat, cs = [.int .u8 (n : Int)] ∧ n < 256 := by
  obtain ⟨n, e, _, wf⟩ := DataW.trod_int Tryd.underlying5 h
  have b := bounds_u8 wf
  exact ⟨n.toNat, by rw [e, Int.toNat_of_nonneg b.1], by omega⟩
end
theorem acells_3 : Tryd.prog.cellsOf 27 = 3 := by kernel_rfl
theorem acells_4 : Tryd.prog.cellsOf 34 = 4 := by kernel_rfl
theorem acells_2 : Tryd.prog.cellsOf 32 = 2 := by kernel_rfl
theorem open_int3 {H : Type} {enc : TypeId × Value → H} {W : World} {base : Nat} {v : Value} {dv : DataW H} {p : List MemPlace} (hv : Value.okWide Tryd.prog W .any base 27 v)
    (h : DataW.Trod enc Tryd.prog W 0 (fun _ => true) true 27 v dv p) : ∃ a b c : Int, v = .agg #[.int .i64 a, .int .i64 b, .int .i64 c] ∧ (-9223372036854775808 ≤ a ∧ a ≤ 9223372036854775807) ∧ (-9223372036854775808 ≤ b ∧ b ≤ 9223372036854775807) ∧ (-9223372036854775808 ≤ c ∧ c ≤ 9223372036854775807) := by
  obtain ⟨cs, rfl, hsz⟩ := okWide_arr Tryd.underlying27 hv
  obtain ⟨l⟩ := cs
  obtain ⟨fuel, hf⟩ := h
  obtain ⟨xs, m, _, hxx, hcl, hl, hy⟩ := DataW.trod_array Tryd.underlying27 hf
  rw [acells_3] at hcl
  obtain ⟨c0, c1, c2, e⟩ := elist3 _ hcl
  have e' : l = [c0, c1, c2] := e
  subst e'
  obtain ⟨y0, y1, y2, rfl⟩ := elist3 xs hl
  obtain ⟨n0, e0, w0⟩ := ein_int (hy 0 (by decide))
  obtain ⟨n1, e1, w1⟩ := ein_int (hy 1 (by decide))
  obtain ⟨n2, e2, w2⟩ := ein_int (hy 2 (by decide))
  simp [ecells_i, Value.cells] at e0 e1 e2
  subst e0 e1 e2
  exact ⟨n0, n1, n2, rfl, w0, w1, w2⟩
theorem open_byte4 {H : Type} {enc : TypeId × Value → H} {W : World} {base : Nat} {v : Value} {dv : DataW H} {p : List MemPlace} (hv : Value.okWide Tryd.prog W .any base 34 v)
    (h : DataW.Trod enc Tryd.prog W 0 (fun _ => true) true 34 v dv p) : ∃ a b c d : Nat, v = .agg #[.int .u8 (a : Int), .int .u8 (b : Int), .int .u8 (c : Int), .int .u8 (d : Int)] ∧ a < 256 ∧ b < 256 ∧ c < 256 ∧ d < 256 := by
  obtain ⟨cs, rfl, hsz⟩ := okWide_arr Tryd.underlying34 hv
  obtain ⟨l⟩ := cs
  obtain ⟨fuel, hf⟩ := h
  obtain ⟨xs, m, _, hxx, hcl, hl, hy⟩ := DataW.trod_array Tryd.underlying34 hf
  rw [acells_4] at hcl
  obtain ⟨c0, c1, c2, c3, e⟩ := elist4 _ hcl
  have e' : l = [c0, c1, c2, c3] := e
  subst e'
  obtain ⟨y0, y1, y2, y3, rfl⟩ := elist4 xs hl
  obtain ⟨n0, e0, w0⟩ := ein_byte (hy 0 (by decide))
  obtain ⟨n1, e1, w1⟩ := ein_byte (hy 1 (by decide))
  obtain ⟨n2, e2, w2⟩ := ein_byte (hy 2 (by decide))
  obtain ⟨n3, e3, w3⟩ := ein_byte (hy 3 (by decide))
  simp [ecells_b, Value.cells] at e0 e1 e2 e3
  subst e0 e1 e2 e3
  exact ⟨n0, n1, n2, n3, rfl, w0, w1, w2, w3⟩
/-- an array of two bytes -/
def prL (x : Nat × Nat) : List Value := [.int .u8 (x.1 : Int), .int .u8 (x.2 : Int)]
theorem inner_pr {H : Type} {enc : TypeId × Value → H} {W : World} {base : Nat} {spare : Nat → Bool} {held : Bool} {fuel : Nat} {cs : List Value} {y : DataW H × List MemPlace} (h : DataW.trod enc Tryd.prog W base spare held fuel 32 cs = some y) :
    ∃ x : Nat × Nat, cs = prL x ∧ x.1 < 256 ∧ x.2 < 256 := by
  obtain ⟨xs, m, _, rfl, hcl, hl, hy⟩ := DataW.trod_array Tryd.underlying32 h
  rw [acells_2] at hcl
  obtain ⟨c1, c2, rfl⟩ := elist2 cs hcl
  obtain ⟨y1, y2, rfl⟩ := elist2 xs hl
  obtain ⟨n, e1, w1⟩ := ein_byte (hy 0 (by decide))
  obtain ⟨k, e2, w2⟩ := ein_byte (hy 1 (by decide))
  simp [ecells_b] at e1 e2
  subst e1 e2
  exact ⟨(n, k), rfl, w1, w2⟩
/-- the slice at ao holds these arrays -/
def Prs (ao : Option Addr) (l : List (Nat × Nat)) (w : World) : Prop :=
  l = [] ∨ ∃ b off, ao = some ⟨b, off, none⟩ ∧ b < w.heap.size ∧ ∀ i (h : i < l.length) j, j < 2 → w.cell? ⟨b, off + (i * 2 + j), none⟩ = (prL l[i])[j]?
theorem Prs.below {ao : Option Addr} {l : List (Nat × Nat)} {w w' : World} {B : Nat} (h : Prs ao l w) (hB : w.heap.size ≤ B) (hb : Below B w w') : Prs ao l w' := by
  rcases h with h | ⟨b, off, h1, h2, h3⟩
  · exact .inl h
  · exact .inr ⟨b, off, h1, by have := hb.size; omega, fun i hi j hj => (hb.cell (p := ⟨b, off + (i * 2 + j), none⟩) (by show b < B; omega)).trans (h3 i hi j hj)⟩
theorem opened_pairs8 {H : Type} {enc : TypeId × Value → H} {W : World} {a0 : Option Addr} {len cap : Nat} {d0 : DataW H} {p0 : List MemPlace} (h : DataW.Trod enc Tryd.prog W 0 (fun _ => true) true 30 (.slice a0 len cap) d0 p0) :
    ∃ l : List (Nat × Nat), l.length = len ∧ l.length ≤ cap ∧ l.length ≤ maxLen ∧ (∀ i (h : i < l.length), l[i].1 < 256 ∧ l[i].2 < 256) ∧ Prs a0 l W := by
  obtain ⟨fuel, hf⟩ := h
  rcases DataW.trod_slice Tryd.underlying30 hf with ⟨hcs, hx⟩ | ⟨a, len', cap', elems, rest, m, _, hcs, hx, _, hl, hm, hz, he, _, _⟩
  · simp [Value.cells] at hcs
    obtain ⟨rfl, rfl, rfl⟩ := hcs
    exact ⟨[], rfl, Nat.zero_le _, Nat.zero_le _, fun i h => by simp at h, .inl rfl⟩
  · simp [Value.cells] at hcs
    obtain ⟨rfl, rfl, rfl⟩ := hcs
    rw [acells_2] at he
    have hx : ∀ i, ∃ t : Nat × Nat, i < len → (t.1 < 256 ∧ t.2 < 256) ∧ ∀ j, j < 2 → W.cell? ((a.add (i * 2)).add j) = (prL t)[j]? := by
      intro i
      by_cases hi : i < len
      · have k := he i hi
        rw [List.getElem?_eq_getElem (by omega)] at k
        obtain ⟨cs, k1, k2⟩ := Option.bind_eq_some_iff.1 k
        obtain ⟨x, e, hin⟩ := inner_pr k2
        obtain ⟨_, _, k3⟩ := World.cells?_some k1
        exact ⟨x, fun _ => ⟨hin, fun j hj => by rw [k3 j hj, e]⟩⟩
      · exact ⟨(0, 0), fun c => absurd c hi⟩
    obtain ⟨f, hf⟩ := Classical.axiomOfChoice hx
    refine ⟨(List.range len).map f, by simp, by simp; omega, by simp; omega, fun i h => ?_, ?_⟩
    · rw [List.getElem_map, List.getElem_range]
      exact (hf i (by simpa using h)).1
    · by_cases h0 : len = 0
      · subst h0; exact .inl rfl
      · obtain ⟨b, off, sp⟩ := a
        have hc0 := (hf 0 (by omega)).2 0 (by omega)
        have hsp : sp = none := by
          cases sp with
          | none => rfl
          | some x =>
            exfalso
            have e : ((⟨b, off, some x⟩ : Addr).add (0 * 2)).add 0 = ⟨b, off, some x⟩ := rfl
            rw [e] at hc0
            unfold World.cell? at hc0
            split at hc0 <;> simp [prL] at hc0
        subst hsp
        refine .inr ⟨b, off, rfl, ?_, fun i hi j hj => ?_⟩
        · have e : ((⟨b, off, none⟩ : Addr).add (0 * 2)).add 0 = ⟨b, off, none⟩ := rfl
          rw [e] at hc0
          exact World.block_lt_of_cell? W _ hc0
        · have hi2 : i < len := by simpa using hi
          have k := (hf i hi2).2 j hj
          rw [Addr.add_mid, Addr.add_mid, Nat.add_assoc] at k
          rw [k, List.getElem_map, List.getElem_range]
end Go.Proofs.YtdobmhbfadijoaaDoor
