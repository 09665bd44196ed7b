/- A tree's places: a leaf, a node, a side. -/
import Derived.Test.YtjfhcckadibhgaaDoorAa
import Derived.Deep.Cut
import Derived.Deep.RegionHeld3
namespace Go.Proofs.YtjfhcckadibhgaaDoor
open Go.RowKit

theorem tleaf_any (e : (List UInt8)) (w : World) (hg : Glob w) (he : e.length ≤ 10000000) :
    Calls Tryd.prog 34 #[.string ⟨e.toArray⟩] w fun r w' => ∃ b, r = .returned (.pointer (some ⟨b, 0, none⟩)) ∧ w'.heap[b]? = some (.cells #[.string ⟨(hashL leafT [e]).toArray⟩, .pointer none, .pointer none] 61 (0, 0)) ∧ w.heap.size ≤ b ∧ Below w.heap.size w w' := by
  have hsz := hg.size
  have HH := Lib.hid (fun w' hg' hs' => hash_any leafT (some ⟨w.heap.size, 0, none⟩) 1 [e] w' hg' hs' (by decide) (Nat.lt_of_lt_of_le (framed_short leafT [e] (by decide) (by simpa using he) (by simp)) (by decide)))
  clear he
  go_enter Tryd.func34, Tryd.ntmps34
  go_wp2_with fail
  have hb0 : Below w.heap.size w (w.alloc (.cells #[.string ⟨e.toArray⟩] 9)) := by0 w _
  refine (HH.out _ (hg.below (by omega) hb0) (strs_new w [e] _ rfl)).mono ?_
  rintro r w1 ⟨rfl, hb1⟩
  have hB1 : Below w.heap.size w w1 := hb0.trans (hb1.mono (by simp))
  have s1 := hB1.size
  clear hb0 hb1 HH
  go_wp2
  go_ret
  exact ⟨w1.heap.size, rfl, heap_alloc_new w1 _, s1, hB1.alloc s1 _⟩

/-- a place's digest, and the rest of it -/
def PlaceAt (w : World) (b : Nat) (D : (List UInt8)) : Prop := ∃ x y, w.heap[b]? = some (.cells #[.string ⟨D.toArray⟩, .pointer x, .pointer y] 61 (0, 0))
/-- what stands while a node is made -/
abbrev NdS (B x y : Nat) (D E : (List UInt8)) (w1 wz : World) : Prop := wz.cell? ⟨B, 0, none⟩ = some (.pointer (some ⟨x, 0, none⟩)) ∧ wz.cell? ⟨B, 1, none⟩ = some (.pointer (some ⟨y, 0, none⟩)) ∧ wz.cell? ⟨x, 0, none⟩ = some (.string ⟨D.toArray⟩) ∧ wz.cell? ⟨y, 0, none⟩ = some (.string ⟨E.toArray⟩) ∧ Below w1.heap.size w1 wz
theorem nd_next {B x y : Nat} {D E : (List UInt8)} {w1 wz wa : World} (h : NdS B x y D E w1 wz) (hb : Below wz.heap.size wz wa) : NdS B x y D E w1 wa := by
  obtain ⟨h1, h2, h3, h4, h5⟩ := h
  have k : ∀ {c o : Nat} {v : Value}, wz.cell? ⟨c, o, none⟩ = some v → wa.cell? ⟨c, o, none⟩ = some v := fun hc => (World.cell?_of_block (hb.block _ (World.block_lt_of_cell? wz _ hc))).trans hc
  exact ⟨k h1, k h2, k h3, k h4, h5.trans (hb.mono h5.size)⟩
theorem nd_alloc {B x y : Nat} {D E : (List UInt8)} {w1 wz : World} (h : NdS B x y D E w1 wz) (o : Obj) : NdS B x y D E w1 (wz.alloc o) := nd_next h (by0 wz o)
theorem nd_drew {B x y : Nat} {D E : (List UInt8)} {w1 wz : World} (h : NdS B x y D E w1 wz) : NdS B x y D E w1 wz.drew := nd_next h (Below.refl _ _).drew
theorem strs_drew {ao : Option Addr} {L : List (List UInt8)} {w : World} (h : Strs ao L w) : Strs ao L w.drew := h.below (Nat.le_refl _) (Below.refl _ _).drew
set_option maxHeartbeats 1000000 in
theorem tnode_any (x y : Nat) (D E : (List UInt8)) (w : World) (hg : Glob w) (hx : PlaceAt w x D) (hy : PlaceAt w y E) (hD : D.length ≤ 32) (hE : E.length ≤ 32) :
    Calls Tryd.prog 35 #[.agg #[.pointer (some ⟨x, 0, none⟩), .pointer (some ⟨y, 0, none⟩)]] w fun r w' => ∃ b, r = .returned (.pointer (some ⟨b, 0, none⟩)) ∧ w'.heap[b]? = some (.cells #[.string ⟨(hashL nodeT [D, E]).toArray⟩, .pointer (some ⟨x, 0, none⟩), .pointer (some ⟨y, 0, none⟩)] 61 (0, 0)) ∧ w.heap.size ≤ b ∧ Below w.heap.size w w' := by
  have hsz := hg.size
  obtain ⟨x1, x2, hx⟩ := hx
  obtain ⟨y1, y2, hy⟩ := hy
  have HH := Lib.hid (fun b w' hg' hs' => hash_any nodeT (some ⟨b, 0, none⟩) 2 [D, E] w' hg' hs' (by decide) (Nat.lt_of_lt_of_le (framed_short nodeT [D, E] (by decide) (by intro z hz; simp at hz; rcases hz with rfl | rfl <;> omega) (by simp)) (by decide)))
  have HG := Lib.hid hg
  have hp := heap_alloc_new w (.cells #[.pointer (some ⟨x, 0, none⟩), .pointer (some ⟨y, 0, none⟩)] 59)
  have hb0 := by0 w (.cells #[.pointer (some ⟨x, 0, none⟩), .pointer (some ⟨y, 0, none⟩)] 59)
  have hxw := (hb0.block x (lit_lt hx)).trans hx
  have hyw := (hb0.block y (lit_lt hy)).trans hy
  have HZ : Hid ((w.alloc (.cells #[.pointer (some ⟨x, 0, none⟩), .pointer (some ⟨y, 0, none⟩)] 59)).heap.size = w.heap.size + 1) := Lib.hid (by simp)
  have HB := Lib.hid hb0
  clear hx hy hD hE hb0
  go_enter Tryd.func35, Tryd.ntmps35
  go_upto_region 1 with fail
  change Code.wp _ _ _ _ (w.alloc (.cells #[.pointer (some ⟨x, 0, none⟩), .pointer (some ⟨y, 0, none⟩)] 59))
  generalize w.alloc (.cells #[.pointer (some ⟨x, 0, none⟩), .pointer (some ⟨y, 0, none⟩)] 59) = w1 at *
  have p0 := (lit_cell hp 0).trans rfl
  have p1 := (lit_cell hp 1).trans rfl
  have c0 := (lit_cell hxw 0).trans rfl
  have d0 := (lit_cell hyw 0).trans rfl
  have hS0 : NdS w.heap.size x y D E w1 w1 := ⟨p0, p1, c0, d0, Below.refl _ _⟩

  have HG1 := Lib.hid (fun wz (h : NdS w.heap.size x y D E w1 wz) => HG.out.below (w' := wz) (B := 2) (by omega) ((HB.out.mono (by omega)).trans (h.2.2.2.2.mono (by have := HZ.out; omega))))
  clear HG
  go_region_held3 (fun w' => w'.cell? ⟨w.heap.size, 0, none⟩ = some (.pointer (some ⟨x, 0, none⟩)) ∧ w'.cell? ⟨w.heap.size, 1, none⟩ = some (.pointer (some ⟨y, 0, none⟩)) ∧ w'.cell? ⟨x, 0, none⟩ = some (.string ⟨D.toArray⟩) ∧ w'.cell? ⟨y, 0, none⟩ = some (.string ⟨E.toArray⟩) ∧ Below w1.heap.size w1 w')
    (first | (with_reducible assumption) | (with_reducible refine nd_alloc ?_ _; with_reducible assumption) | (with_reducible refine nd_drew ?_; with_reducible assumption) | (with_reducible refine nd_drew (nd_alloc ?_ _); with_reducible assumption) | (with_reducible refine nd_next ?_ hb2; with_reducible assumption) | (with_reducible refine nd_drew (nd_next ?_ hb2); with_reducible assumption))
    (first
      | (go_at_call 22; refine (HH.out _ _ (HG1.out _ (by with_reducible assumption)) (by first | exact strs_new _ [D, E] _ rfl | exact strs_drew (strs_new _ [D, E] _ rfl))).mono ?_; rintro r w2 ⟨rfl, hb2⟩))
  all_goals
    go_wp2
    go_ret
    refine ⟨w2.heap.size, rfl, heap_alloc_new w2 _, ?_, ?_⟩
    · have h5 : NdS w.heap.size x y D E w1 (w2.alloc (.cells #[.string ⟨(hashL nodeT [D, E]).toArray⟩, .pointer (some ⟨x, 0, none⟩), .pointer (some ⟨y, 0, none⟩)] 61)) := by with_reducible assumption
      have hq := h5.2.2.2.2.size
      have := HZ.out
      simp only [World.size_alloc] at hq
      omega
    · have h5 : NdS w.heap.size x y D E w1 (w2.alloc (.cells #[.string ⟨(hashL nodeT [D, E]).toArray⟩, .pointer (some ⟨x, 0, none⟩), .pointer (some ⟨y, 0, none⟩)] 61)) := by with_reducible assumption
      exact HB.out.trans (h5.2.2.2.2.mono (by have := HZ.out; omega))
theorem side_any (k below : Nat) (hk : k < 18446744073709551616) (hb : below < 64) (w : World) : Calls Tryd.prog 31 #[.int .u64 (k : Int), .int .i64 (below : Int)] w fun e w' => e = .returned (.int .u64 ((k / 2 ^ below % 2 : Nat) : Int)) ∧ w = w' := by
  have hlt : k / 2 ^ below < 18446744073709551616 := Nat.lt_of_le_of_lt (Nat.div_le_self _ _) hk
  have h1 : bits .and .u64 ((k / 2 ^ below : Nat) : Int) ((1 : Nat) : Int) = ((k / 2 ^ below &&& 1 : Nat) : Int) := u64_and_nat _ 1 hlt (by decide)
  rw [Nat.and_one_is_mod] at h1
  have h2 : (k : Int) / (2 : Int) ^ below = ((k / 2 ^ below : Nat) : Int) := by simp
  have HE := Lib.hid h1
  have HE2 := Lib.hid h2
  clear h1 h2 hlt
  go_enter Tryd.func31, Tryd.ntmps31
  go_wp2
  go_ret
  refine ⟨?_, rfl⟩
  rw [← HE.out, ← HE2.out]
  simp
end Go.Proofs.YtjfhcckadibhgaaDoor
