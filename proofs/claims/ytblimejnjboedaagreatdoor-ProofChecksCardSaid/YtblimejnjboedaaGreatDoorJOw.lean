/- A list of numbers that came in. -/
import Derived.Test.YtblimejnjboedaaGreatDoorJ8
import Derived.Test.YtblimejnjboedaaGreatDoorJBe
import Derived.ProofKit
import Derived.OpenShut
import Derived.Deep.DeepHandedRow
namespace Go.Proofs.YtblimejnjboedaaGreatDoor
open Go.ChangeShapes Go.WideShapes Go.ChangeAt Go.RowKit Go.Sort

theorem cellsW : Tryz.prog.cellsOf 33 = 1 := by kernel_rfl
theorem openedW {H : Type} {enc : TypeId × Value → H} {W : World} {a0 : Option Addr} {len cap : Nat} {d0 : DataW H} {p0 : List MemPlace} (h : DataW.Trod enc Tryz.prog W 0 (fun _ => true) true 22 (.slice a0 len cap) d0 p0) :
    ∃ L : List Nat, L.length = len ∧ L.length ≤ maxLen ∧ ((∀ x ∈ L, x < 18446744073709551616) ∧ L.length ≤ cap) ∧ Nums a0 L W := by
  obtain ⟨fuel, hf⟩ := h
  rcases open_ints Tryz.underlying22 Tryz.underlying33 cellsW hf with ⟨hcs, hx⟩ | ⟨a, len', cap', zs, hcs, _, hl, hm, hz, hx, hcell, hws⟩
  · simp [Value.cells] at hcs
    obtain ⟨rfl, rfl, rfl⟩ := hcs
    exact ⟨[], rfl, Nat.zero_le _, ⟨by simp, Nat.zero_le _⟩, .inl rfl⟩
  · simp [Value.cells] at hcs
    obtain ⟨rfl, rfl, rfl⟩ := hcs
    have hz' : zs.length = cap := by simpa using hz
    have hb : ∀ z ∈ zs, 0 ≤ z ∧ z < 18446744073709551616 := fun z hz => by have := bounds_u64 (hws z hz); omega
    refine ⟨(zs.take len).map Int.toNat, by simp; omega, by simp; omega, ⟨fun x hx => ?_, by simp; omega⟩, ?_⟩
    · obtain ⟨z, hz, rfl⟩ := List.mem_map.1 hx
      have := hb z (List.mem_of_mem_take hz)
      omega
    · by_cases h0 : len = 0
      · subst h0; exact .inl (by simp)
      · obtain ⟨b, off, sp⟩ := a
        have hc0 := hcell 0 (by omega)
        have hsp : sp = none := by
          cases sp with
          | none => rfl
          | some x =>
            exfalso
            have e : (⟨b, off, some x⟩ : Addr).add 0 = ⟨b, off, some x⟩ := rfl
            rw [e] at hc0
            unfold World.cell? at hc0
            split at hc0 <;> simp at hc0
        subst hsp
        refine .inr ⟨b, off, rfl, World.block_lt_of_cell? W _ (by rw [show (⟨b, off, none⟩ : Addr).add 0 = ⟨b, off, none⟩ from rfl] at hc0; exact hc0), fun i hi => ?_⟩
        have hi2 : i < len := by have h := hi; simp at h; omega
        have := hcell i (by omega)
        rw [Addr.add_mid] at this
        have hbb := hb _ (List.getElem_mem (l := zs) (n := i) (by omega))
        rw [this, List.getElem_map, List.getElem_take, List.getD_eq_getElem?_getD, List.getElem?_eq_getElem (by omega)]
        congr 2
        simp only [Option.getD_some]
        omega
end Go.Proofs.YtblimejnjboedaaGreatDoor
