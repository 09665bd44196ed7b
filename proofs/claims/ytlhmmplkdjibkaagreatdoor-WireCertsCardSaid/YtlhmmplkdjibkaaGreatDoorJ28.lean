/- The law's WireBack: certificates come back; bytes that are read are laid again just so. -/
import Derived.Test.YtlhmmplkdjibkaaGreatDoorJ26
import Derived.Test.YtlhmmplkdjibkaaGreatDoorJ27
import Derived.Test.YtlhmmplkdjibkaaGreatDoorJ22
import Derived.Deep.Cut
namespace Go.Proofs.YtlhmmplkdjibkaaGreatDoor
open Go.RowKit

theorem cut5000 (S : (List UInt8)) : ∃ m : Nat, min (S.length : Int) 5000 = (m : Int) ∧ m ≤ S.length ∧ (⟨S.toArray⟩ : ByteArray).extract 0 m = ⟨(S.take 5000).toArray⟩ := by
  refine ⟨min S.length 5000, by omega, by omega, ?_⟩
  rw [extract_list, List.drop_zero]
  congr 2
  by_cases h : S.length ≤ 5000
  · rw [Nat.min_eq_left h, List.take_of_length_le (Nat.le_refl _), List.take_of_length_le h]
  · rw [Nat.min_eq_right (by omega)]
theorem bk_drew {B : Nat} {w w1 : World} (h : Below B w.drew w1) : Below B w w1 := ⟨h.os, h.tape, h.output, h.size, h.block⟩
section
variable {w w1 : World} {b c : Nat} {x y z u0 u1 u2 : Value} {o : Obj}
theorem bkA (h : w.cell? ⟨b, 0, none⟩ = some x ∧ w.cell? ⟨b, 1, none⟩ = some y ∧ w.cell? ⟨b, 2, none⟩ = some z ∧ b < w.heap.size) : (w.alloc o).cell? ⟨b, 0, none⟩ = some x ∧ (w.alloc o).cell? ⟨b, 1, none⟩ = some y ∧ (w.alloc o).cell? ⟨b, 2, none⟩ = some z ∧ b < (w.alloc o).heap.size :=
  ⟨((by0 w o).cell (p := ⟨b, 0, none⟩) h.2.2.2).trans h.1, ((by0 w o).cell (p := ⟨b, 1, none⟩) h.2.2.2).trans h.2.1, ((by0 w o).cell (p := ⟨b, 2, none⟩) h.2.2.2).trans h.2.2.1, by rw [World.size_alloc]; have := h.2.2.2; omega⟩
theorem bkB (h : w.cell? ⟨b, 0, none⟩ = some x ∧ w.cell? ⟨b, 1, none⟩ = some y ∧ w.cell? ⟨b, 2, none⟩ = some z ∧ b < w.heap.size) (h1 : Below w.heap.size w w1) : w1.cell? ⟨b, 0, none⟩ = some x ∧ w1.cell? ⟨b, 1, none⟩ = some y ∧ w1.cell? ⟨b, 2, none⟩ = some z ∧ b < w1.heap.size :=
  ⟨(h1.cell (p := ⟨b, 0, none⟩) h.2.2.2).trans h.1, (h1.cell (p := ⟨b, 1, none⟩) h.2.2.2).trans h.2.1, (h1.cell (p := ⟨b, 2, none⟩) h.2.2.2).trans h.2.2.1, Nat.lt_of_lt_of_le h.2.2.2 h1.size⟩
theorem bkC (hne : c ≠ b) (h : w.cell? ⟨b, 0, none⟩ = some x ∧ w.cell? ⟨b, 1, none⟩ = some y ∧ w.cell? ⟨b, 2, none⟩ = some z ∧ b < w.heap.size) : (((w.setCell ⟨c, 0, none⟩ u0).setCell ⟨c, 1, none⟩ u1).setCell ⟨c, 2, none⟩ u2).cell? ⟨b, 0, none⟩ = some x ∧ (((w.setCell ⟨c, 0, none⟩ u0).setCell ⟨c, 1, none⟩ u1).setCell ⟨c, 2, none⟩ u2).cell? ⟨b, 1, none⟩ = some y ∧ (((w.setCell ⟨c, 0, none⟩ u0).setCell ⟨c, 1, none⟩ u1).setCell ⟨c, 2, none⟩ u2).cell? ⟨b, 2, none⟩ = some z ∧ b < (((w.setCell ⟨c, 0, none⟩ u0).setCell ⟨c, 1, none⟩ u1).setCell ⟨c, 2, none⟩ u2).heap.size := by
  refine ⟨?_, ?_, ?_, by rw [World.size_setCell, World.size_setCell, World.size_setCell]; exact h.2.2.2⟩
  · exact (World.cell?_setCell_far _ _ _ _ hne).trans ((World.cell?_setCell_far _ _ _ _ hne).trans ((World.cell?_setCell_far _ _ _ _ hne).trans h.1))
  · exact (World.cell?_setCell_far _ _ _ _ hne).trans ((World.cell?_setCell_far _ _ _ _ hne).trans ((World.cell?_setCell_far _ _ _ _ hne).trans h.2.1))
  · exact (World.cell?_setCell_far _ _ _ _ hne).trans ((World.cell?_setCell_far _ _ _ _ hne).trans ((World.cell?_setCell_far _ _ _ _ hne).trans h.2.2.1))
theorem bkD (h0 : w.cell? ⟨b, 0, none⟩ = some x) (h1 : w.cell? ⟨b, 1, none⟩ = some y) (h2 : w.cell? ⟨b, 2, none⟩ = some z) (h3 : b < w.heap.size) : w.drew.cell? ⟨b, 0, none⟩ = some x ∧ w.drew.cell? ⟨b, 1, none⟩ = some y ∧ w.drew.cell? ⟨b, 2, none⟩ = some z ∧ b < w.drew.heap.size := ⟨h0, h1, h2, h3⟩
theorem bkE (h0 : w.cell? ⟨b, 0, none⟩ = some x) (h1 : w.cell? ⟨b, 1, none⟩ = some y) (h2 : w.cell? ⟨b, 2, none⟩ = some z) (h3 : b < w.heap.size) : (w.alloc o).drew.cell? ⟨b, 0, none⟩ = some x ∧ (w.alloc o).drew.cell? ⟨b, 1, none⟩ = some y ∧ (w.alloc o).drew.cell? ⟨b, 2, none⟩ = some z ∧ b < (w.alloc o).drew.heap.size := bkA ⟨h0, h1, h2, h3⟩
theorem bkZ {cs : Array Value} {t : TypeId} (h : Below (w.alloc (.cells cs t)).drew.heap.size (w.alloc (.cells cs t)).drew w1) : w1.heap[w.heap.size]? = some (.cells cs t (0, 0)) := (h.block _ (by show _ < (w.alloc _).heap.size; simp)).trans (heap_alloc_new w _)
end
theorem bk_endA {w3 w4 : World} {t : TypeId} (b : Below w3.drew.heap.size w3.drew w4) (C : Array Value) : Below w3.heap.size w3 (w4.alloc (.cells C t)) ∧ (w4.alloc (.cells C t)).heap[w4.heap.size]? = some (.cells C t (0, 0)) := by
  have b1 := bk_drew b
  exact ⟨Below.trans b1 ((by0 w4 _).mono b1.size), heap_alloc_new w4 _⟩
theorem bk_endB {w3 w4 : World} {t : TypeId} {z0 z1 z2 : Value} (b : Below (w3.alloc (.cells #[z0, z1, z2] t)).drew.heap.size (w3.alloc (.cells #[z0, z1, z2] t)).drew w4) (x y z : Value) :
    Below w3.heap.size w3 (((w4.setCell ⟨w3.heap.size, 0, none⟩ x).setCell ⟨w3.heap.size, 1, none⟩ y).setCell ⟨w3.heap.size, 2, none⟩ z) ∧ (((w4.setCell ⟨w3.heap.size, 0, none⟩ x).setCell ⟨w3.heap.size, 1, none⟩ y).setCell ⟨w3.heap.size, 2, none⟩ z).heap[w3.heap.size]? = some (.cells #[x, y, z] t (0, 0)) := by
  have b1 := bk_drew b
  have b2 : Below w3.heap.size w3 w4 := (by0 w3 (.cells #[z0, z1, z2] t)).trans (b1.mono (by show _ ≤ (w3.alloc _).heap.size; simp))
  have hz : w4.heap[w3.heap.size]? = some (.cells #[z0, z1, z2] t (0, 0)) := (b1.block _ (by show _ < (w3.alloc _).heap.size; simp)).trans (heap_alloc_new w3 _)
  have ho := ((Only.set w3.heap.size 0 x w4).trans (Only.set w3.heap.size 1 y _)).trans (Only.set w3.heap.size 2 z _)
  exact ⟨b2.trans (ho.below (Nat.le_refl _) b2.size), lit_set (k := 2) z (lit_set (k := 1) y (lit_set (k := 0) x hz))⟩
theorem revs_put {lo B0 : Nat} {ao : Option Addr} {L : List RevE} {w w' : World} (h : Revs ao L w) (hf : FarS lo ao L) (hB : B0 < lo) (hk : ∀ q, q ≠ B0 → w'.heap[q]? = w.heap[q]?) (hs : w.heap.size ≤ w'.heap.size) : Revs ao L w' := by
  rcases h with h | ⟨b, off, h1, h2, h3⟩
  · exact .inl h
  · rcases hf with hf | ⟨b', off', h4, h5⟩
    · exact .inl hf
    · rw [h1] at h4
      cases h4
      exact .inr ⟨b, off, h1, by omega, fun i x hx j hj => (World.cell?_of_block (a := ⟨b, off + (i * 11 + j), none⟩) (hk b (by omega))).trans (h3 i x hx j hj)⟩
theorem strs_put {lo B0 : Nat} {ao : Option Addr} {L : List (List UInt8)} {w w' : World} (h : Strs ao L w) (hf : FarS lo ao L) (hB : B0 < lo) (hk : ∀ q, q ≠ B0 → w'.heap[q]? = w.heap[q]?) (hs : w.heap.size ≤ w'.heap.size) : Strs ao L w' := by
  rcases h with h | ⟨b, off, h1, h2, h3⟩
  · exact .inl h
  · rcases hf with hf | ⟨b', off', h4, h5⟩
    · exact .inl hf
    · rw [h1] at h4
      cases h4
      exact .inr ⟨b, off, h1, by omega, fun i hi => (World.cell?_of_block (a := ⟨b, off + i, none⟩) (hk b (by omega))).trans (h3 i hi)⟩
theorem cert_putM {lo B0 : Nat} {y : CertE} {w w' : World} (h : CertM y w) (hf : FarC lo y) (hB : B0 < lo) (hc : y.coins = [] ∨ ∃ b off, y.ca = some ⟨b, off, none⟩ ∧ b < B0) (hk : ∀ q, q ≠ B0 → w'.heap[q]? = w.heap[q]?) (hs : w.heap.size ≤ w'.heap.size) : CertM y w' := by
  refine ⟨revs_put h.r hf.r hB hk hs, fun x hx => ⟨strs_put (h.x x hx).1 (hf.x x hx).1 hB hk hs, strs_put (h.x x hx).2 (hf.x x hx).2 hB hk hs⟩, ?_, strs_put h.s hf.s hB hk hs, strs_put h.p hf.p hB hk hs⟩
  rcases h.co with h | ⟨b, off, h1, h2, h3⟩
  · exact .inl h
  · rcases hc with hc | ⟨b', off', h4, h5⟩
    · exact .inl hc
    · rw [h1] at h4
      cases h4
      exact .inr ⟨b, off, h1, by omega, fun i hi => (World.cell?_of_block (a := ⟨b, off + i, none⟩) (hk b (by omega))).trans (h3 i hi)⟩
theorem freshV_revs {lo : Nat} {ao : Option Addr} {L : List RevE} {w : World} (h : FreshV lo ao (L.flatMap revQ) w) : Revs ao L w := by
  rcases h with h | ⟨b, h1, _, h3, h4⟩
  · cases L with
    | nil => exact .inl rfl
    | cons x L => rw [List.flatMap_cons] at h; cases (List.append_eq_nil_iff.1 h).1
  · refine .inr ⟨b, 0, h1, h3, fun i x hx j hj => ?_⟩
    have e := revs_get x j hj L i hx
    have hj2 : ∃ u, (revQ x)[j]? = some u := ⟨(revQ x)[j]'(by simp [revQ]; omega), List.getElem?_eq_getElem _⟩
    obtain ⟨u, hu⟩ := hj2
    rw [Nat.zero_add, hu]
    exact h4 _ u (by rw [e, hu])
theorem freshV_nums {lo : Nat} {ao : Option Addr} {L : List Nat} {w : World} (h : FreshV lo ao (intV L) w) : Nums ao L w := by
  rcases h with h | ⟨b, h1, _, h3, h4⟩
  · cases L with
    | nil => exact .inl rfl
    | cons x L => simp [intV] at h
  · refine .inr ⟨b, 0, h1, h3, fun i hi => ?_⟩
    rw [Nat.zero_add]
    exact h4 i _ (by simp [intV, hi])
theorem FreshC.mem {lo : Nat} {y : CertE} {w : World} (h : FreshC lo y w) : CertM y w := ⟨freshV_revs h.r, fun x hx => ⟨(h.rs x hx).1.strs, (h.rs x hx).2.strs⟩, freshV_nums h.co, h.sp.strs, h.pp.strs⟩
theorem may_cert {c : CertR} {S : (List UInt8)} (h : layCertP c = (S, 0)) : mayCertB c = true := by
  unfold layCertP layOr at h
  cases hm : mayCertB c with
  | true => rfl
  | false => rw [hm] at h; cases h
def zCertE : CertE := ⟨[], 0, [], [], [], [], none, 0, none, 0, none, 0, none, 0⟩
theorem zCertE_l : CertL zCertE.r := ⟨by decide, by decide, by decide, by decide, fun r hr => by cases hr⟩
theorem zCertE_m (w : World) : CertM zCertE w := ⟨.inl rfl, (fun x hx => by cases hx), .inl rfl, .inl rfl, .inl rfl⟩
/-- what WireBack's walk keeps: the certificate that was cut, in its box, and the turn -/
structure Wb (w0 : World) (y : CertE) (ts : Array Value) (wz : World) : Prop where
  k : Wk w0 wz
  x : wz.heap[w0.heap.size]? = some (.cells (certQ y).toArray 27 (0, 0))
  t : wz.heap[w0.heap.size + 1]? = some (.cells ts 30 (0, 0))
  m : CertM y wz
theorem Wb.next {w0 wz wa : World} {y : CertE} {ts : Array Value} (h : Wb w0 y ts wz) (hb : Below wz.heap.size wz wa) : Wb w0 y ts wa := ⟨h.k.next hb, (hb.block _ (lit_lt h.x)).trans h.x, (hb.block _ (lit_lt h.t)).trans h.t, h.m.below hb⟩
end Go.Proofs.YtlhmmplkdjibkaaGreatDoor
