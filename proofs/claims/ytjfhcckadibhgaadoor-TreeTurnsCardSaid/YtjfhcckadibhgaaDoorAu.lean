/- A list of law 09's turns that came in: opened. -/
import Derived.Test.YtjfhcckadibhgaaDoorBa
import Derived.OpenShut
import Derived.ProofKit
namespace Go.Proofs.YtjfhcckadibhgaaDoor
open Go.ChangeShapes Go.WideShapes Go.ChangeAt Go.RowKit

theorem tcells9_thing : Tryd.prog.cellsOf 40 = 2 := by kernel_rfl
theorem tcells9_n : Tryd.prog.cellsOf 23 = 1 := by kernel_rfl
theorem tcells9_s : Tryd.prog.cellsOf 9 = 1 := by kernel_rfl
theorem list2 {α : Type} (l : List α) (h : l.length = 2) : ∃ a b, l = [a, b] := by
  match l, h with
  | [a, b], _ => exact ⟨a, b, rfl⟩
/-- a turn's two cells -/
def tuL (n : Nat) (S : List UInt8) : List Value := [.int .u64 (n : Int), .string ⟨S.toArray⟩]
/-- what a thing's parts may be -/
structure TuIn (n : Nat) (S : List UInt8) : Prop where
  n1 : n < 18446744073709551616
  S1 : S.length ≤ maxLen
theorem inner_turn9 {H : Type} {enc : TypeId × Value → H} {W : World} {base : Nat} {spare : Nat → Bool} {held : Bool} {fuel : Nat} {cs : List Value} {y : DataW H × List MemPlace} (h : DataW.trod enc Tryd.prog W base spare held fuel 40 cs = some y) :
    ∃ n S, cs = tuL n S ∧ TuIn n S := by
  obtain ⟨xs, m, _, rfl, hcl, hl, hy⟩ := DataW.trod_struct Tryd.underlying40 h
  rw [tcells9_thing] at hcl
  obtain ⟨c1, c2, rfl⟩ := list2 cs hcl
  obtain ⟨y1, y2, rfl⟩ := list2 xs hl
  obtain ⟨n, e1, f1, w1⟩ := DataW.trod_int Tryd.underlying23 (hy 0 _ rfl)
  obtain ⟨S, e2, f2, w2⟩ := DataW.trod_string Tryd.underlying9 (hy 1 _ rfl)
  simp [tcells9_n, tcells9_s] at e1 e2
  subst e1 e2
  have b1 := bounds_u64 w1
  obtain ⟨n, rfl⟩ := Int.eq_ofNat_of_zero_le b1.1
  exact ⟨n, S.data.toList, by rw [tuL, str_eta], ⟨by omega, w2⟩⟩
/-- a turn as one -/
def TU9 : Type := Nat × List UInt8
/-- the slice at ao holds the turns l -/
def Tus (ao : Option Addr) (l : List TU9) (w : World) : Prop :=
  l = [] ∨ ∃ b off, ao = some ⟨b, off, none⟩ ∧ b < w.heap.size ∧ ∀ i (h : i < l.length) j, j < 2 → w.cell? ⟨b, off + (i * 2 + j), none⟩ = (tuL l[i].1 l[i].2)[j]?
theorem Tus.below {ao : Option Addr} {l : List TU9} {w w' : World} {B : Nat} (h : Tus ao l w) (hB : w.heap.size ≤ B) (hb : Below B w w') : Tus ao l w' := by
  rcases h with h | ⟨b, off, h1, h2, h3⟩
  · exact .inl h
  · exact .inr ⟨b, off, h1, by have := hb.size; omega, fun i hi j hj => (hb.cell (p := ⟨b, off + (i * 2 + j), none⟩) (by show b < B; omega)).trans (h3 i hi j hj)⟩
theorem opened_turns9 {H : Type} {enc : TypeId × Value → H} {W : World} {a0 : Option Addr} {len cap : Nat} {d0 : DataW H} {p0 : List MemPlace} (h : DataW.Trod enc Tryd.prog W 0 (fun _ => true) true 38 (.slice a0 len cap) d0 p0) :
    ∃ l : List TU9, l.length = len ∧ l.length ≤ cap ∧ l.length ≤ maxLen ∧ (∀ i (h : i < l.length), TuIn l[i].1 l[i].2) ∧ Tus a0 l W := by
  obtain ⟨fuel, hf⟩ := h
  rcases DataW.trod_slice Tryd.underlying38 hf with ⟨hcs, hx⟩ | ⟨a, len', cap', elems, rest, m, _, hcs, hx, _, hl, hm, hz, he, _, _⟩
  · simp [Value.cells] at hcs
    obtain ⟨rfl, rfl, rfl⟩ := hcs
    exact ⟨[], rfl, Nat.zero_le _, Nat.zero_le _, fun i h => by simp at h, .inl rfl⟩
  · simp [Value.cells] at hcs
    obtain ⟨rfl, rfl, rfl⟩ := hcs
    rw [tcells9_thing] at he
    have hx : ∀ i, ∃ t : TU9, i < len → TuIn t.1 t.2 ∧ ∀ j, j < 2 → W.cell? ((a.add (i * 2)).add j) = (tuL t.1 t.2)[j]? := by
      intro i
      by_cases hi : i < len
      · have k := he i hi
        rw [List.getElem?_eq_getElem (by omega)] at k
        obtain ⟨cs, k1, k2⟩ := Option.bind_eq_some_iff.1 k
        obtain ⟨n, S, e, hin⟩ := inner_turn9 k2
        obtain ⟨_, _, k3⟩ := World.cells?_some k1
        exact ⟨(n, S), fun _ => ⟨hin, fun j hj => by rw [k3 j hj, e]⟩⟩
      · exact ⟨(0, []), fun c => absurd c hi⟩
    obtain ⟨f, hf⟩ := Classical.axiomOfChoice hx
    refine ⟨(List.range len).map f, by simp, by simp; omega, by simp; omega, fun i h => ?_, ?_⟩
    · rw [List.getElem_map, List.getElem_range]
      exact (hf i (by simpa using h)).1
    · by_cases h0 : len = 0
      · subst h0; exact .inl rfl
      · obtain ⟨b, off, sp⟩ := a
        have hc0 := (hf 0 (by omega)).2 0 (by omega)
        have hsp : sp = none := by
          cases sp with
          | none => rfl
          | some x =>
            exfalso
            have e : ((⟨b, off, some x⟩ : Addr).add (0 * 2)).add 0 = ⟨b, off, some x⟩ := rfl
            rw [e] at hc0
            unfold World.cell? at hc0
            split at hc0 <;> simp [tuL] at hc0
        subst hsp
        refine .inr ⟨b, off, rfl, ?_, fun i hi j hj => ?_⟩
        · have e : ((⟨b, off, none⟩ : Addr).add (0 * 2)).add 0 = ⟨b, off, none⟩ := rfl
          rw [e] at hc0
          exact World.block_lt_of_cell? W _ hc0
        · have hi2 : i < len := by simpa using hi
          have k := (hf i hi2).2 j hj
          rw [Addr.add_mid, Addr.add_mid, Nat.add_assoc] at k
          rw [k, List.getElem_map, List.getElem_range]

end Go.Proofs.YtjfhcckadibhgaaDoor
