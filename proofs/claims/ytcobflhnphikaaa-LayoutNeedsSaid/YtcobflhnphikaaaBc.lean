/- A list of bytes in memory; one that came in. -/
import Derived.Test.YtcobflhnphikaaaBa
import Derived.ProofKit
import Derived.OpenShut
import Derived.Deep.DeepHandedRow
namespace Go.Proofs.Ytcobflhnphikaaa
open Go.ChangeShapes Go.WideShapes Go.ChangeAt Go.RowKit

/-- the slice at ao lays the bytes L -/
def Byts (ao : Option Addr) (L : List UInt8) (w : World) : Prop :=
  L = [] ∨ ∃ b off, ao = some ⟨b, off, none⟩ ∧ b < w.heap.size ∧ ∀ i (h : i < L.length), w.cell? ⟨b, off + i, none⟩ = some (.int .u8 (L[i].toNat : Int))
theorem Byts.below {ao : Option Addr} {L : List UInt8} {w w' : World} {B : Nat} (h : Byts ao L w) (hB : w.heap.size ≤ B) (hb : Below B w w') : Byts ao L w' := by
  rcases h with h | ⟨b, off, h1, h2, h3⟩
  · exact .inl h
  · exact .inr ⟨b, off, h1, by have := hb.size; omega, fun i hi => (hb.cell (p := ⟨b, off + i, none⟩) (by show b < B; omega)).trans (h3 i hi)⟩
theorem Byts.cell {ao : Option Addr} {L : List UInt8} {w : World} (h : Byts ao L w) (k : Nat) (hk : k < L.length) : ∃ b off, ao = some ⟨b, off, none⟩ ∧ w.cell? ⟨b, off + k, none⟩ = some (.int .u8 (L[k].toNat : Int)) := by
  rcases h with h | ⟨b, off, h1, h2, h3⟩
  · subst h; simp at hk
  · exact ⟨b, off, h1, h3 k hk⟩

theorem cells5 : Try.prog.cellsOf 5 = 1 := by kernel_rfl

theorem byts_of {W : World} {a : Addr} {len : Nat} {zs : List Int} (hcell : ∀ i, i < zs.length → W.cell? (a.add i) = some (.int .u8 (zs.getD i 0))) (hl : len ≤ zs.length) (hw : ∀ n ∈ zs, (Lit.int .u8 n).wf = true) :
    Byts (some a) ((zs.take len).map fun z => UInt8.ofNat z.toNat) W := by
  by_cases h0 : len = 0
  · subst h0; exact .inl (by simp)
  · obtain ⟨b, off, sp⟩ := a
    have hc0 := hcell 0 (by omega)
    have hsp : sp = none := by
      cases sp with
      | none => rfl
      | some x =>
        exfalso
        have e : (⟨b, off, some x⟩ : Addr).add 0 = ⟨b, off, some x⟩ := rfl
        rw [e] at hc0
        unfold World.cell? at hc0
        split at hc0 <;> simp at hc0
    subst hsp
    refine .inr ⟨b, off, rfl, World.block_lt_of_cell? W _ (by rw [show (⟨b, off, none⟩ : Addr).add 0 = ⟨b, off, none⟩ from rfl] at hc0; exact hc0), fun i hi => ?_⟩
    have hi2 : i < len := by simpa [Nat.min_eq_left hl] using hi
    have := hcell i (by omega)
    rw [Addr.add_mid] at this
    have hb := bounds_u8 (hw _ (List.getElem_mem (l := zs) (n := i) (by omega)))
    rw [this, List.getElem_map, List.getElem_take, List.getD_eq_getElem?_getD, List.getElem?_eq_getElem (by omega)]
    congr 2
    simp only [Option.getD_some, UInt8.toNat_ofNat']
    omega

theorem openedB {H : Type} {enc : TypeId × Value → H} {W : World} {a0 : Option Addr} {len cap : Nat} {d0 : DataW H} {p0 : List MemPlace} (h : DataW.Trod enc Try.prog W 0 (fun _ => true) true 35 (.slice a0 len cap) d0 p0) :
    ∃ L : List UInt8, L.length = len ∧ L.length ≤ maxLen ∧ Byts a0 L W := by
  obtain ⟨fuel, hf⟩ := h
  rcases open_ints Try.underlying35 Try.underlying5 cells5 hf with ⟨hcs, hx⟩ | ⟨a, len', cap', zs, hcs, _, hl, hm, hz, hx, hcell, hws⟩
  · simp [Value.cells] at hcs
    obtain ⟨rfl, rfl, rfl⟩ := hcs
    exact ⟨[], rfl, Nat.zero_le _, .inl rfl⟩
  · simp [Value.cells] at hcs
    obtain ⟨rfl, rfl, rfl⟩ := hcs
    have hz' : zs.length = cap := by simpa using hz
    exact ⟨(zs.take len).map fun z => UInt8.ofNat z.toNat, by simp; omega, by simp; omega, byts_of hcell (by omega) hws⟩
end Go.Proofs.Ytcobflhnphikaaa
