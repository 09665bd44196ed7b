/- How long a Cert's rows are that may be: the bounds that 'put' of the reference asks. -/
import Derived.Test.YtlhmmplkdjibkaaGreatDoorJZd
namespace Go.Proofs.YtlhmmplkdjibkaaGreatDoor
open Go.RowKit

theorem dig32 {s : (List UInt8)} (h : digB s = true) : s.length = 32 := by simpa [digB] using h
theorem mayB_b {L : List (List UInt8)} {n : Nat} (h : mayB L n = true) : L.length ≤ n ∧ ∀ x ∈ L, x.length ≤ 32 := by
  rw [mayB, Bool.and_eq_true] at h
  exact ⟨of_decide_eq_true h.2, fun x hx => Nat.le_of_eq (dig32 (List.all_eq_true.1 h.1 x hx))⟩
theorem digsB_32 {L : List (List UInt8)} {n : Nat} (h : mayB L n = true) : (digsP L).length ≤ 3 + n * 35 := by
  obtain ⟨h1, h2⟩ := mayB_b h
  have h3 := digs_len 32 L h2
  have h4 := Nat.mul_le_mul_right 35 h1
  have h5 := headP_len 3 L.length
  unfold digsP
  split
  · simp
  · rw [List.length_append]; omega
theorem revM_b {r : RevR} (h : mayRevB r = true) : (mapP (revF r)).length ≤ 100000 := by
  rw [mayRevB, maySigB, Bool.and_eq_true, Bool.and_eq_true] at h
  obtain ⟨h1, h2, h3⟩ := h
  have p1 := digsB_32 h2
  have p2 := digsB_32 h3
  have p3 := numZ_b r.slot.sig.index
  have p4 : (mapP (sigF r.slot.sig)).length ≤ 13000 := by
    refine mapP_b _ 12997 ?_
    simp only [sigF, List.map_cons, List.map_nil, List.sum_cons, List.sum_nil]
    have := numZ_len r.slot.sig.index
    omega
  have p5 := small_b _ _ p4
  have p6 : (mapP (slotF r.slot)).length ≤ 33100 := by
    refine mapP_b _ 33097 ?_
    have h2 := numZ_b r.slot.l; have h3 := numZ_b 1
    simp only [slotF, List.map_cons, List.map_nil, List.sum_cons, List.sum_nil]
    have h4 : (if r.slot.signed = true then numZ 1 else []).length ≤ 10000 := by split <;> first | omega | simp
    omega
  have p7 := small_b _ _ p6
  have p8 := partM_b r.part (by have := dig32 h1; omega)
  refine mapP_b _ 99997 ?_
  have p9 := numZ_b r.pos
  simp only [revF, List.map_cons, List.map_nil, List.sum_cons, List.sum_nil]
  omega
theorem flat_b {α : Type} (f : α → (List UInt8)) (M : Nat) : ∀ L : List α, (∀ x ∈ L, (f x).length ≤ M) → (L.flatMap f).length ≤ L.length * M
  | [], _ => by simp
  | x :: L, h => by
    have h1 := flat_b f M L fun y hy => h y (List.mem_cons_of_mem _ hy)
    have h2 := h x (List.mem_cons_self ..)
    rw [List.flatMap_cons, List.length_append, List.length_cons, Nat.succ_mul]
    omega
theorem take_flat {α : Type} (f : α → (List UInt8)) (L : List α) (k : Nat) (hk : k < L.length) : (L.take (k + 1)).flatMap f = (L.take k).flatMap f ++ f L[k] := by
  rw [List.take_succ_eq_append_getElem hk, List.flatMap_append]; simp
theorem take_b {α : Type} (f : α → (List UInt8)) (M k : Nat) (L : List α) (h : ∀ x ∈ L, (f x).length ≤ M) : ((L.take k).flatMap f).length ≤ L.length * M := by
  refine Nat.le_trans (flat_b f M _ fun x hx => h x (List.mem_of_mem_take hx)) (Nat.mul_le_mul_right _ ?_)
  rw [List.length_take]; omega
end Go.Proofs.YtlhmmplkdjibkaaGreatDoor
