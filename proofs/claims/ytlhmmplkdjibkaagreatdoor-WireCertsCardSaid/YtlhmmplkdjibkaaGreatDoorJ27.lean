/- The law's WireParts. -/
import Derived.Test.YtlhmmplkdjibkaaGreatDoorJ17
import Derived.Test.YtlhmmplkdjibkaaGreatDoorJ22
import Derived.Test.YtlhmmplkdjibkaaGreatDoorJ21
import Derived.Test.YtlhmmplkdjibkaaGreatDoorJ18
import Derived.Deep.Cut
import Derived.Test.YtlhmmplkdjibkaaGreatDoorJ16
import Derived.Test.YtlhmmplkdjibkaaGreatDoorJ14
import Derived.Test.YtlhmmplkdjibkaaGreatDoorJ25
namespace Go.Proofs.YtlhmmplkdjibkaaGreatDoor
open Go.RowKit

theorem RdAns.det {ρ : Type} {g : (List UInt8) → Nat → Res ρ} {S : (List UInt8)} {z q q2 : ρ} {f f2 : Nat × Nat} (h : RdAns g S z q f) (h2 : RdAns g S z q2 f2) : q2 = q ∧ f2 = f := by
  unfold RdAns at h h2
  cases hw : wholeG g S with
  | error e => rw [hw] at h h2; exact ⟨h2.1.trans h.1.symm, h2.2.1.trans h.2.1.symm⟩
  | ok p => rw [hw] at h h2; exact ⟨h2.1.trans h.1.symm, h2.2.trans h.2.symm⟩
/-- what the program's reading answers, beside the document's -/
structure PrAns {ρ : Type} (g : (List UInt8) → Nat → Res ρ) (S : (List UInt8)) (z q : ρ) (f : Nat × Nat) (v : Value) (w w' : World) : Prop where
  r : RdAns g S z q f
  v : ErrV w.heap.size f.1 f.2 v w'
  b : Below w.heap.size w w'
theorem errV_nil (lo : Nat) (a : Int) (w : World) : ErrV lo 0 a .nilIface w := by unfold ErrV; rw [if_pos rfl]
/-- what the walk keeps, besides: the thing, boxed; the turn, boxed -/
structure Wt (w0 : World) (T : TypeId) (cs ts : Array Value) (wz : World) : Prop where
  k : Wk w0 wz
  x : wz.heap[w0.heap.size]? = some (.cells cs T (0, 0))
  t : wz.heap[w0.heap.size + 1]? = some (.cells ts 30 (0, 0))
theorem Wt.next {w0 wz wa : World} {T : TypeId} {cs ts : Array Value} (h : Wt w0 T cs ts wz) (hb : Below wz.heap.size wz wa) : Wt w0 T cs ts wa := ⟨h.k.next hb, (hb.block _ (lit_lt h.x)).trans h.x, (hb.block _ (lit_lt h.t)).trans h.t⟩
theorem Wt.start {w : World} (hg : GlobW w) (hgl : 4 ≤ w.heap.size) (T : TypeId) (cs ts : Array Value) : Wt w T cs ts ((w.alloc (.cells cs T)).alloc (.cells ts 30)) := by
  refine ⟨(show Wk w w from ⟨hg, hgl, Below.refl _ _⟩).next ((by0 w _).alloc (by simp) _), lit_old _ (heap_alloc_new w _), ?_⟩
  rw [show w.heap.size + 1 = (w.alloc (.cells cs T)).heap.size by simp]
  exact heap_alloc_new _ _
section
variable {w w1 : World} {b c : Nat} {x y z u0 u1 u2 : Value} {o : Obj}
end
end Go.Proofs.YtlhmmplkdjibkaaGreatDoor
/- The law's same, sameSlot: two lists of texts, two slots, that are alike. -/
namespace Go.Proofs.YtlhmmplkdjibkaaGreatDoor
open Go.RowKit

end Go.Proofs.YtlhmmplkdjibkaaGreatDoor
/- The law's sameSlot: two slots that are alike. -/
namespace Go.Proofs.YtlhmmplkdjibkaaGreatDoor
open Go.RowKit

end Go.Proofs.YtlhmmplkdjibkaaGreatDoor
/- A certificate's rows in memory, two certificates in boxes of their own. -/
namespace Go.Proofs.YtlhmmplkdjibkaaGreatDoor
open Go.RowKit

theorem revs_at {w : World} {ao : Option Addr} {L : List RevE} {k : Nat} (h : Revs ao L w) (hk : k < L.length) : ∃ b off, ao = some ⟨b, off, none⟩ ∧ b < w.heap.size ∧ ∀ j, j < 11 → w.cell? ⟨b, off + k * 11 + j, none⟩ = (revQ L[k])[j]? := by
  rcases h with rfl | ⟨b, off, h1, h2, h3⟩
  · simp at hk
  · exact ⟨b, off, h1, h2, fun j hj => by rw [Nat.add_assoc]; exact h3 k L[k] (List.getElem?_eq_getElem hk) j hj⟩
theorem nums_at {w : World} {ao : Option Addr} {L : List Nat} {k : Nat} (h : Nums ao L w) (hk : k < L.length) : ∃ b off, ao = some ⟨b, off, none⟩ ∧ w.cell? ⟨b, off + k, none⟩ = some (.int .u64 (L[k] : Int)) := by
  rcases h with rfl | ⟨b, off, h1, h2, h3⟩
  · simp at hk
  · exact ⟨b, off, h1, h3 k hk⟩
theorem Revs.below {w w' : World} {ao : Option Addr} {L : List RevE} (h : Revs ao L w) (hb : Below w.heap.size w w') : Revs ao L w' := by
  rcases h with h | ⟨b, off, h1, h2, h3⟩
  · exact .inl h
  · exact .inr ⟨b, off, h1, by have := hb.size; omega, fun i x hx j hj => (World.cell?_of_block (a := ⟨b, off + (i * 11 + j), none⟩) (hb.block b h2)).trans (h3 i x hx j hj)⟩
theorem Nums.belowN {w w' : World} {ao : Option Addr} {L : List Nat} (h : Nums ao L w) (hb : Below w.heap.size w w') : Nums ao L w' := by
  rcases h with h | ⟨b, off, h1, h2, h3⟩
  · exact .inl h
  · exact .inr ⟨b, off, h1, by have := hb.size; omega, fun i hi => (World.cell?_of_block (a := ⟨b, off + i, none⟩) (hb.block b h2)).trans (h3 i hi)⟩
theorem CertM.below {y : CertE} {w w' : World} (h : CertM y w) (hb : Below w.heap.size w w') : CertM y w' := ⟨h.r.below hb, fun x hx => ⟨(h.x x hx).1.below (Nat.le_refl _) hb, (h.x x hx).2.below (Nat.le_refl _) hb⟩, h.co.belowN hb, h.s.below (Nat.le_refl _) hb, h.p.below (Nat.le_refl _) hb⟩
/-- lists that are not too long -/
structure CertL (c : CertR) : Prop where
  r : c.reveals.length ≤ 100000
  co : c.coins.length ≤ 100000
  s : c.slotProof.length ≤ maxLen
  p : c.partProof.length ≤ maxLen
  w : ∀ r ∈ c.reveals, r.slot.sig.wots.length ≤ maxLen ∧ r.slot.sig.path.length ≤ maxLen
/-- what the walk keeps: both, in boxes of their own -/
structure Sc (w0 : World) (xa xb : CertE) (wz : World) : Prop where
  o : Below w0.heap.size w0 wz
  a : wz.heap[w0.heap.size]? = some (.cells (certQ xa).toArray 27 (0, 0))
  b : wz.heap[w0.heap.size + 1]? = some (.cells (certQ xb).toArray 27 (0, 0))
theorem Sc.next {w0 wz wa : World} {xa xb : CertE} (h : Sc w0 xa xb wz) (hb : Below wz.heap.size wz wa) : Sc w0 xa xb wa := ⟨h.o.trans (hb.mono h.o.size), (hb.block _ (lit_lt h.a)).trans h.a, (hb.block _ (lit_lt h.b)).trans h.b⟩
end Go.Proofs.YtlhmmplkdjibkaaGreatDoor
/- The law's sameCert: two certificates that are alike. -/
namespace Go.Proofs.YtlhmmplkdjibkaaGreatDoor
open Go.RowKit

end Go.Proofs.YtlhmmplkdjibkaaGreatDoor
