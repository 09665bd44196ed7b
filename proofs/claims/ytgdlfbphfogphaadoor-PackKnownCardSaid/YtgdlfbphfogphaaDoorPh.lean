/- A thing that came in by value, and a list of things: opened, and shut again. -/
import Derived.Test.YtgdlfbphfogphaaDoorPe
import Derived.OpenShut
import Derived.ProofKit
namespace Go.Proofs.YtgdlfbphfogphaaDoor
open Go.ChangeShapes Go.WideShapes Go.ChangeAt Go.RowKit

theorem cells_thing : Tryd.prog.cellsOf 30 = 4 := by kernel_rfl
theorem cells_n : Tryd.prog.cellsOf 27 = 1 := by kernel_rfl
theorem cells_s : Tryd.prog.cellsOf 9 = 1 := by kernel_rfl
theorem cells_i : Tryd.prog.cellsOf 3 = 1 := by kernel_rfl
theorem cells_z : Tryd.prog.cellsOf 28 = 1 := by kernel_rfl
theorem str_eta (s : ByteArray) : (⟨s.data.toList.toArray⟩ : ByteArray) = s := by
  cases s; simp
theorem list4 {α : Type} (l : List α) (h : l.length = 4) : ∃ a b c d, l = [a, b, c, d] := by
  match l, h with
  | [a, b, c, d], _ => exact ⟨a, b, c, d, rfl⟩
/-- a thing's four cells -/
def thL (s : Int) (n : Nat) (S : List UInt8) (z : Nat) : List Value := [.int .i64 s, .int .u64 (n : Int), .string ⟨S.toArray⟩, .int .u32 (z : Int)]
/-- what a thing's parts may be -/
structure ThIn (s : Int) (n : Nat) (S : List UInt8) (z : Nat) : Prop where
  s0 : -9223372036854775808 ≤ s
  s1 : s ≤ 9223372036854775807
  n1 : n < 18446744073709551616
  S1 : S.length ≤ maxLen
  z1 : z < 4294967296
theorem inner_thing {H : Type} {enc : TypeId × Value → H} {W : World} {base : Nat} {spare : Nat → Bool} {held : Bool} {fuel : Nat} {cs : List Value} {y : DataW H × List MemPlace} (h : DataW.trod enc Tryd.prog W base spare held fuel 30 cs = some y) :
    ∃ s n S z, cs = thL s n S z ∧ ThIn s n S z ∧ y.2 = [] ∧ ∀ (W' : World) (sp : Nat → Bool) (b : Nat), DataW.trod enc Tryd.prog W' b sp held 2 30 cs = some y := by
  obtain ⟨xs, m, _, rfl, hcl, hl, hy⟩ := DataW.trod_struct Tryd.underlying30 h
  rw [cells_thing] at hcl
  obtain ⟨c0, c1, c2, c3, rfl⟩ := list4 cs hcl
  obtain ⟨y0, y1, y2, y3, rfl⟩ := list4 xs hl
  obtain ⟨s, e0, f0, w0⟩ := DataW.trod_int Tryd.underlying3 (hy 0 _ rfl)
  obtain ⟨n, e1, f1, w1⟩ := DataW.trod_int Tryd.underlying27 (hy 1 _ rfl)
  obtain ⟨S, e2, f2, w2⟩ := DataW.trod_string Tryd.underlying9 (hy 2 _ rfl)
  obtain ⟨z, e3, f3, w3⟩ := DataW.trod_int Tryd.underlying28 (hy 3 _ rfl)
  simp [cells_i, cells_n, cells_s, cells_z] at e0 e1 e2 e3 f0 f1 f2 f3
  subst e0 e1 e2 e3 f0 f1 f2 f3
  have b0 := bounds_i64 w0
  have b1 := bounds_u64 w1
  have b3 := bounds_u32 w3
  obtain ⟨n, rfl⟩ := Int.eq_ofNat_of_zero_le b1.1
  obtain ⟨z, rfl⟩ := Int.eq_ofNat_of_zero_le b3.1
  refine ⟨s, n, S.data.toList, z, by rw [thL, str_eta], ⟨b0.1, b0.2, by omega, w2, by omega⟩, rfl, fun W' sp b => ?_⟩
  simp [DataW.trod, Tryd.underlying30, Tryd.underlying3, Tryd.underlying9, Tryd.underlying27, Tryd.underlying28, cells_thing, cells_i, cells_n, cells_s, cells_z, w0, w1, w2, w3]
theorem open_thing {H : Type} {enc : TypeId × Value → H} {W : World} {base : Nat} {v : Value} {dv : DataW H} {p : List MemPlace} (hv : Value.okWide Tryd.prog W .any base 30 v)
    (h : DataW.Trod enc Tryd.prog W 0 (fun _ => true) true 30 v dv p) :
    ∃ s n S z, ThIn s n S z ∧ v = .agg ⟨thL s n S z⟩ ∧ p = [] ∧ ∀ (W' : World) (sp : Nat → Bool), DataW.Trod enc Tryd.prog W' 0 sp true 30 v dv [] := by
  obtain ⟨cs, rfl, hsz⟩ := okWide_struct Tryd.underlying30 hv
  obtain ⟨l⟩ := cs
  obtain ⟨fuel, hf⟩ := h
  obtain ⟨s, n, S, z, e, hi, hp, hr⟩ := inner_thing hf
  have el : l = thL s n S z := e
  subst el
  have hp' : p = [] := hp
  subst hp'
  exact ⟨s, n, S, z, hi, rfl, rfl, fun W' sp => ⟨2, hr W' sp 0⟩⟩

/-- a thing as one -/
def T4 : Type := Int × Nat × List UInt8 × Nat
/-- the slice at ao holds the things l -/
def Ths (ao : Option Addr) (l : List T4) (w : World) : Prop :=
  l = [] ∨ ∃ b off, ao = some ⟨b, off, none⟩ ∧ b < w.heap.size ∧ ∀ i (h : i < l.length) j, j < 4 → w.cell? ⟨b, off + (i * 4 + j), none⟩ = (thL l[i].1 l[i].2.1 l[i].2.2.1 l[i].2.2.2)[j]?
theorem Ths.below {ao : Option Addr} {l : List T4} {w w' : World} {B : Nat} (h : Ths ao l w) (hB : w.heap.size ≤ B) (hb : Below B w w') : Ths ao l w' := by
  rcases h with h | ⟨b, off, h1, h2, h3⟩
  · exact .inl h
  · exact .inr ⟨b, off, h1, by have := hb.size; omega, fun i hi j hj => (hb.cell (p := ⟨b, off + (i * 4 + j), none⟩) (by show b < B; omega)).trans (h3 i hi j hj)⟩
theorem opened_things {H : Type} {enc : TypeId × Value → H} {W : World} {a0 : Option Addr} {len cap : Nat} {d0 : DataW H} {p0 : List MemPlace} (h : DataW.Trod enc Tryd.prog W 0 (fun _ => true) true 22 (.slice a0 len cap) d0 p0) :
    ∃ l : List T4, l.length = len ∧ l.length ≤ maxLen ∧ (∀ i (h : i < l.length), ThIn l[i].1 l[i].2.1 l[i].2.2.1 l[i].2.2.2) ∧ Ths a0 l W := by
  obtain ⟨fuel, hf⟩ := h
  rcases DataW.trod_slice Tryd.underlying22 hf with ⟨hcs, hx⟩ | ⟨a, len', cap', elems, rest, m, _, hcs, hx, _, hl, hm, hz, he, _, _⟩
  · simp [Value.cells] at hcs
    obtain ⟨rfl, rfl, rfl⟩ := hcs
    exact ⟨[], rfl, Nat.zero_le _, fun i h => by simp at h, .inl rfl⟩
  · simp [Value.cells] at hcs
    obtain ⟨rfl, rfl, rfl⟩ := hcs
    rw [cells_thing] at he
    have hx : ∀ i, ∃ t : T4, i < len → ThIn t.1 t.2.1 t.2.2.1 t.2.2.2 ∧ ∀ j, j < 4 → W.cell? ((a.add (i * 4)).add j) = (thL t.1 t.2.1 t.2.2.1 t.2.2.2)[j]? := by
      intro i
      by_cases hi : i < len
      · have k := he i hi
        rw [List.getElem?_eq_getElem (by omega)] at k
        obtain ⟨cs, k1, k2⟩ := Option.bind_eq_some_iff.1 k
        obtain ⟨s, n, S, z, e, hin, _, _⟩ := inner_thing k2
        obtain ⟨_, _, k3⟩ := World.cells?_some k1
        exact ⟨(s, n, S, z), fun _ => ⟨hin, fun j hj => by rw [k3 j hj, e]⟩⟩
      · exact ⟨(0, 0, [], 0), fun c => absurd c hi⟩
    obtain ⟨f, hf⟩ := Classical.axiomOfChoice hx
    refine ⟨(List.range len).map f, by simp, by simp; omega, fun i h => ?_, ?_⟩
    · rw [List.getElem_map, List.getElem_range]
      exact (hf i (by simpa using h)).1
    · by_cases h0 : len = 0
      · subst h0; exact .inl rfl
      · obtain ⟨b, off, sp⟩ := a
        have hc0 := (hf 0 (by omega)).2 0 (by omega)
        have hsp : sp = none := by
          cases sp with
          | none => rfl
          | some x =>
            exfalso
            have e : ((⟨b, off, some x⟩ : Addr).add (0 * 4)).add 0 = ⟨b, off, some x⟩ := rfl
            rw [e] at hc0
            unfold World.cell? at hc0
            split at hc0 <;> simp [thL] at hc0
        subst hsp
        refine .inr ⟨b, off, rfl, ?_, fun i hi j hj => ?_⟩
        · have e : ((⟨b, off, none⟩ : Addr).add (0 * 4)).add 0 = ⟨b, off, none⟩ := rfl
          rw [e] at hc0
          exact World.block_lt_of_cell? W _ hc0
        · have hi2 : i < len := by simpa using hi
          have k := (hf i hi2).2 j hj
          rw [Addr.add_mid, Addr.add_mid, Nat.add_assoc] at k
          rw [k, List.getElem_map, List.getElem_range]
end Go.Proofs.YtgdlfbphfogphaaDoor
