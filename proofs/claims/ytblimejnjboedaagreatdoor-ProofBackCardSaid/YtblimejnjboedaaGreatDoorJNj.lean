/- The law's ProofBack. -/
import Derived.Test.YtblimejnjboedaaGreatDoorJNd
import Derived.Test.YtblimejnjboedaaGreatDoorJNg
import Derived.Test.YtblimejnjboedaaGreatDoorJNh
import Derived.Test.YtblimejnjboedaaGreatDoorJNi
namespace Go.Proofs.YtblimejnjboedaaGreatDoor
open Go.RowKit Go.Sort

/-- what is kept behind the tree, the positions, and the proof -/
structure Kb (w : World) (L O R : List (List UInt8)) (P : List Nat) (t : Nat) (aL aO aP aR : Option Addr) (wz : World) : Prop where
  k : Wl w wz
  t : TreeM L wz t
  l : Strs aL L wz
  o : Strs aO O wz
  p : Nums aP P wz
  r : Strs aR R wz
theorem Kb.next {w wz wa : World} {L O R : List (List UInt8)} {P : List Nat} {t : Nat} {aL aO aP aR : Option Addr} (h : Kb w L O R P t aL aO aP aR wz) (hb : Below wz.heap.size wz wa) : Kb w L O R P t aL aO aP aR wa :=
  ⟨h.k.next hb, h.t.below hb, h.l.below (Nat.le_refl _) hb, h.o.below (Nat.le_refl _) hb, nums_next h.p hb, h.r.below (Nat.le_refl _) hb⟩
/-- the three rows, while they grow -/
structure Tri (w5 : World) (Z g c : Nat) (L : List (List UInt8)) (P : List Nat) (O : List (List UInt8)) (k : Nat) (u v : Value) (wr : World) : Prop where
  b : Below w5.heap.size w5 wr
  e : TRow Z (elemsTo L P k) u wr
  t : TRow Z (turnsTo L P O k) v wr
  o : TRow w5.heap.size (ownTo L P O k) (.slice (some ⟨g, 0, none⟩) L.length c) wr
  d : ∀ b, u.ownBlock = some b → v.ownBlock ≠ some b
  z : Z ≤ wr.heap.size
theorem row_at {B g cp i : Nat} {X : List (List UInt8)} {n : Nat} {w : World} (h : TRow B X (.slice (some ⟨g, 0, none⟩) n cp) w) (hi : i < X.length) : ∃ v, w.cell? ⟨g, i, none⟩ = some v ∧ w.frozen? ⟨g, i, none⟩ = false := by
  rcases h.2 with ⟨e, _⟩ | ⟨g', cp', cur, e, _, h2, h3, _, h5, _⟩
  · cases e
  · cases e
    exact ⟨cur[i], (lit_cell h2 i).trans (Array.getElem?_eq_getElem (by omega)), lit_free h2 i⟩
theorem Tri.adde {w5 wr w1 : World} {Z g c k g1 c1 : Nat} {L : List (List UInt8)} {P : List Nat} {O : List (List UInt8)} {u v : Value} (X : Tri w5 Z g c L P O k u v wr) (hg : g < Z) (h0 : w5.heap.size ≤ Z)
    (h1 : TRow Z (elemsTo L P k ++ [elemAt L P k]) (.slice (some ⟨g1, 0, none⟩) ((elemsTo L P k).length + 1) c1) w1) (h2 : wr.grownBy w1 u.ownBlock) (h3 : u.ownBlock = some g1 ∨ wr.heap.size ≤ g1) :
    Below w5.heap.size w5 w1 ∧ TRow Z (elemsTo L P (k + 1)) (.slice (some ⟨g1, 0, none⟩) ((elemsTo L P k).length + 1) c1) w1 ∧ TRow Z (turnsTo L P O k) v w1 ∧ TRow w5.heap.size (ownTo L P O k) (.slice (some ⟨g, 0, none⟩) L.length c) w1 ∧ (∀ b, v.ownBlock = some b → b ≠ g1) ∧ Z ≤ w1.heap.size := by
  refine ⟨X.b.grown h2 X.b.size (fun j e => Nat.le_trans h0 (X.e.lt j e).1), by rw [elemsTo_succ]; exact h1, trow_beside X.t X.d h2, trow_beside X.o (fun b hb e => ?_) h2, fun b hb e => ?_, Nat.le_trans X.z h2.size⟩
  · obtain rfl : g = b := by simpa [Value.ownBlock] using e
    have := (X.e.lt _ hb).1
    omega
  · subst e
    rcases h3 with h3 | h3
    · exact X.d _ h3 hb
    · have := (X.t.lt _ hb).2
      omega
theorem Tri.addt {w5 w1 w2 : World} {Z g c k g1 c1 g2 c2 n m : Nat} {L : List (List UInt8)} {P : List Nat} {O : List (List UInt8)} {v : Value} (hg : g < Z) (h0 : w5.heap.size ≤ Z) (hb : Below w5.heap.size w5 w1) (he : TRow Z (elemsTo L P (k + 1)) (.slice (some ⟨g1, 0, none⟩) n c1) w1) (ht : TRow Z (turnsTo L P O k) v w1) (ho : TRow w5.heap.size (ownTo L P O k) (.slice (some ⟨g, 0, none⟩) L.length c) w1) (hd : ∀ b, v.ownBlock = some b → b ≠ g1) (hz : Z ≤ w1.heap.size)
    (h1 : TRow Z (turnsTo L P O k ++ [turnAt L P O k]) (.slice (some ⟨g2, 0, none⟩) m c2) w2) (h2 : w1.grownBy w2 v.ownBlock) (h3 : v.ownBlock = some g2 ∨ w1.heap.size ≤ g2) :
    Tri w5 Z g c L P O (k + 1) (.slice (some ⟨g1, 0, none⟩) n c1) (.slice (some ⟨g2, 0, none⟩) m c2) (w2.setCell ⟨g, (P[k]?).getD 0, none⟩ (.string ⟨(turnAt L P O k).toArray⟩)) := by
  have he1 := (he.lt g1 rfl)
  have hg1 : g1 ≠ g := by omega
  have hg2 : g2 ≠ g := by
    have := (h1.lt g2 rfl).1
    omega
  have hk : Kept (fun j => j ≠ g) w2 (w2.setCell ⟨g, (P[k]?).getD 0, none⟩ (.string ⟨(turnAt L P O k).toArray⟩)) := (Kept.refl _ w2).setCell g _ _ (fun _ h => h rfl)
  have hgr : w2.grownBy (w2.setCell ⟨g, (P[k]?).getD 0, none⟩ (.string ⟨(turnAt L P O k).toArray⟩)) (some g) := hk.to_grown
  have hgw : w5.heap.size ≤ g := (ho.lt g rfl).1
  have ho2 : TRow w5.heap.size (ownTo L P O k) (.slice (some ⟨g, 0, none⟩) L.length c) w2 := trow_beside ho (fun b hb' e => by have e2 : g = b := (by simpa [Value.ownBlock] using e); subst e2; have := (ht.lt _ hb').1; omega) h2
  have ho3 : TRow w5.heap.size (ownTo L P O k) (.slice (some ⟨g, 0, none⟩) (ownTo L P O k).length c) w2 := by rw [ownTo_len]; exact ho2
  refine ⟨?_, (trow_beside he (fun b hb' e => hd b hb' (by cases e; rfl)) h2).kept hgr (.inr fun e => by cases e; exact hg1 rfl), ?_, ?_, fun b hb' e => ?_, Nat.le_trans hz (Nat.le_trans h2.size hk.size)⟩
  · exact (hb.grown h2 hb.size (fun j e => Nat.le_trans h0 (ht.lt j e).1)).grown hgr (Nat.le_trans hb.size h2.size) (fun j e => by cases e; exact hgw)
  · rw [turnsTo_succ]
    exact h1.kept hgr (.inr fun e => by cases e; exact hg2 rfl)
  · have := row_set (i := (P[k]?).getD 0) (t := turnAt L P O k) ho3
    rw [ownTo_len] at this
    exact this
  · cases hb'
    cases e
    rcases h3 with h3 | h3
    · exact hd _ h3 rfl
    · omega
end Go.Proofs.YtblimejnjboedaaGreatDoor
