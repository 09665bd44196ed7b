/- The rows of things. -/
import Derived.Test.YtlhmmplkdjibkaaGreatDoorJ12
namespace Go.Proofs.YtlhmmplkdjibkaaGreatDoor
open Go.RowKit

/-- a row's block -/
def RowAt (fb : Nat) (fs : List FV) (w : World) : Prop := w.heap[fb]? = some (.cells (cellsFs fs).toArray 106 (0, 0))
theorem RowAt.row {fb : Nat} {fs : List FV} {w : World} (h : RowAt fb fs w) : RowB fb 0 fs w := fun i f hf j hj => by
  rw [lit_cell h, Nat.zero_add, List.getElem?_toArray]
  exact cellsFs_get fs i f hf j hj
theorem RowAt.next {fb : Nat} {fs : List FV} {w w' : World} (h : RowAt fb fs w) (hb : Below w.heap.size w w') : RowAt fb fs w' := (hb.block _ (lit_lt h)).trans h
/-- a new block that holds a value -/
def New (lo k : Nat) (v : Value) (ty : TypeId) (w : World) : Prop := lo ≤ k ∧ w.heap[k]? = some (.cells #[v] ty (0, 0))
theorem New.next {lo k : Nat} {v : Value} {ty : TypeId} {w w' : World} (h : New lo k v ty w) (hb : Below w.heap.size w w') : New lo k v ty w' := ⟨h.1, (hb.block k (lit_lt h.2)).trans h.2⟩
/-- a list's four new blocks -/
def NewS (lo N t o : Nat) (most : Int) (w : World) : Prop := lo ≤ N ∧ ListK N (.pointer (some ⟨t, o, none⟩)) 108 most (.func (.func 92) #[] #[]) 172 (.func (.func 93) #[] #[]) 173 w
def NewN (lo N t o : Nat) (most : Int) (w : World) : Prop := lo ≤ N ∧ ListK N (.pointer (some ⟨t, o, none⟩)) 112 most (.func (.func 99) #[] #[]) 176 (.func (.func 100) #[] #[]) 177 w
def NewR (lo N kk t o : Nat) (most : Int) (w : World) : Prop := lo ≤ N ∧ lo ≤ kk ∧ w.heap[kk]? = some (.cells #[.func (.func 51) #[] #[]] 115 (0, 0)) ∧ ListK N (.pointer (some ⟨t, o, none⟩)) 114 most (.func (.func 101) #[] #[ptrV kk]) 179 (.func (.func 102) #[] #[ptrV kk]) 180 w
theorem NewS.next {lo N t o : Nat} {most : Int} {w w' : World} (h : NewS lo N t o most w) (hb : Below w.heap.size w w') : NewS lo N t o most w' := ⟨h.1, h.2.next hb⟩
theorem NewN.next {lo N t o : Nat} {most : Int} {w w' : World} (h : NewN lo N t o most w) (hb : Below w.heap.size w w') : NewN lo N t o most w' := ⟨h.1, h.2.next hb⟩
theorem NewR.next {lo N kk t o : Nat} {most : Int} {w w' : World} (h : NewR lo N kk t o most w) (hb : Below w.heap.size w w') : NewR lo N kk t o most w' := ⟨h.1, h.2.1, (hb.block _ (lit_lt h.2.2.1)).trans h.2.2.1, h.2.2.2.next hb⟩

/-- a Part's row: its block, what its closures capture -/
structure PartK (lo t o fb : Nat) (fs : List FV) (w : World) : Prop where
  h : ∃ k0 k1 k2 k3 k4, fs = [numFV 102 k0, numFV 107 k1, numFV 108 k2, digFV 114 k3, numFV 119 k4] ∧ New lo k0 (.pointer (some ⟨t, o + 2, none⟩)) 117 w ∧ New lo k1 (.pointer (some ⟨t, o + 4, none⟩)) 117 w ∧ New lo k2 (.pointer (some ⟨t, o + 3, none⟩)) 117 w ∧ New lo k3 (.pointer (some ⟨t, o, none⟩)) 110 w ∧ New lo k4 (.pointer (some ⟨t, o + 1, none⟩)) 117 w
  r : RowAt fb fs w
  l : lo ≤ fb
theorem PartK.next {lo t o fb : Nat} {fs : List FV} {w w' : World} (h : PartK lo t o fb fs w) (hb : Below w.heap.size w w') : PartK lo t o fb fs w' := by
  obtain ⟨⟨k0, k1, k2, k3, k4, hf, h0, h1, h2, h3, h4⟩, hr, hl⟩ := h
  exact ⟨⟨k0, k1, k2, k3, k4, hf, h0.next hb, h1.next hb, h2.next hb, h3.next hb, h4.next hb⟩, hr.next hb, hl⟩
set_option maxRecDepth 100000 in
set_option maxHeartbeats 4000000 in
theorem part_mk (lo t o : Nat) (w : World) (hlo : lo ≤ w.heap.size) : Calls Tryz.prog 80 #[.pointer (some ⟨t, o, none⟩)] w fun e w' => ∃ fb fs, e = .returned (.slice (some ⟨fb, 0, none⟩) 5 5) ∧ PartK lo t o fb fs w' ∧ Below w.heap.size w w' := by
  have H0 := Lib.hid (fun w => number_mk 102 t (o + 2) w)
  have H1 := Lib.hid (fun w => number_mk 107 t (o + 4) w)
  have H2 := Lib.hid (fun w => number_mk 108 t (o + 3) w)
  have H3 := Lib.hid (fun w => digest_mk 114 t (o) w)
  have H4 := Lib.hid (fun w => number_mk 119 t (o + 1) w)
  have z : w.heap.size ≤ w.drew.heap.size := Nat.le_refl _
  go_enter Tryz.func80, Tryz.ntmps80
  go_upto_region 1 with fail
  go_region_held3 (fun _ => True) (trivial)
    (first
      | (go_at_call 52; (with_reducible refine (H0.out _).mono ?_); rintro e w0 ⟨k0, g0, rfl, c0, b0⟩; have z0 := Nat.le_trans z b0.size)
      | (go_at_call 52; (with_reducible refine (H1.out _).mono ?_); rintro e w1 ⟨k1, g1, rfl, c1, b1⟩; have z1 := Nat.le_trans z0 b1.size)
      | (go_at_call 52; (with_reducible refine (H2.out _).mono ?_); rintro e w2 ⟨k2, g2, rfl, c2, b2⟩; have z2 := Nat.le_trans z1 b2.size)
      | (go_at_call 48; (with_reducible refine (H3.out _).mono ?_); rintro e w3 ⟨k3, g3, rfl, c3, b3⟩; have z3 := Nat.le_trans z2 b3.size)
      | (go_at_call 52; (with_reducible refine (H4.out _).mono ?_); rintro e w4 ⟨k4, g4, rfl, c4, b4⟩; have z4 := Nat.le_trans z3 b4.size))
  have h0 : New lo k0 (.pointer (some ⟨t, o + 2, none⟩)) 117 w0 := ⟨Nat.le_trans hlo (Nat.le_trans z g0), c0⟩
  replace h0 := h0.next b1
  replace h0 := h0.next b2
  replace h0 := h0.next b3
  replace h0 := h0.next b4
  have h1 : New lo k1 (.pointer (some ⟨t, o + 4, none⟩)) 117 w1 := ⟨Nat.le_trans hlo (Nat.le_trans z0 g1), c1⟩
  replace h1 := h1.next b2
  replace h1 := h1.next b3
  replace h1 := h1.next b4
  have h2 : New lo k2 (.pointer (some ⟨t, o + 3, none⟩)) 117 w2 := ⟨Nat.le_trans hlo (Nat.le_trans z1 g2), c2⟩
  replace h2 := h2.next b3
  replace h2 := h2.next b4
  have h3 : New lo k3 (.pointer (some ⟨t, o, none⟩)) 110 w3 := ⟨Nat.le_trans hlo (Nat.le_trans z2 g3), c3⟩
  replace h3 := h3.next b4
  have h4 : New lo k4 (.pointer (some ⟨t, o + 1, none⟩)) 117 w4 := ⟨Nat.le_trans hlo (Nat.le_trans z3 g4), c4⟩
  have hb : Below w.heap.size w w4 := (((((((Below.refl w.heap.size w).drew).trans (b0.mono z)).trans (b1.mono z0)).trans (b2.mono z1)).trans (b3.mono z2)).trans (b4.mono z3))
  have hr := heap_alloc_new w4 (.cells (cellsFs [numFV 102 k0, numFV 107 k1, numFV 108 k2, digFV 114 k3, numFV 119 k4]).toArray 106)
  have hn := by0 w4 (.cells (cellsFs [numFV 102 k0, numFV 107 k1, numFV 108 k2, digFV 114 k3, numFV 119 k4]).toArray 106)
  change Exit.then _ _ _ _ (w4.alloc (.cells (cellsFs [numFV 102 k0, numFV 107 k1, numFV 108 k2, digFV 114 k3, numFV 119 k4]).toArray 106))
  generalize w4.alloc (.cells (cellsFs [numFV 102 k0, numFV 107 k1, numFV 108 k2, digFV 114 k3, numFV 119 k4]).toArray 106) = wf at *
  have HK : Hid (PartK lo t o w4.heap.size [numFV 102 k0, numFV 107 k1, numFV 108 k2, digFV 114 k3, numFV 119 k4] wf) := Lib.hid ⟨⟨k0, k1, k2, k3, k4, rfl, h0.next hn, h1.next hn, h2.next hn, h3.next hn, h4.next hn⟩, hr, Nat.le_trans hlo z4⟩
  have HB : Hid (Below w.heap.size w wf) := Lib.hid (hb.trans (hn.mono z4))
  clear hr hn hb
  go_wp2
  go_ret
  exact ⟨_, _, rfl, HK.out, HB.out⟩

/-- a Sig's row: its block, what its closures capture -/
structure SigK (lo t o fb : Nat) (fs : List FV) (w : World) : Prop where
  h : ∃ k0 k1 k2, fs = [numFV 105 k0, listSFV 112 k1, listSFV 118 k2] ∧ New lo k0 (.pointer (some ⟨t, o, none⟩)) 117 w ∧ NewS lo k1 t (o + 2) 16 w ∧ NewS lo k2 t (o + 1) 67 w
  r : RowAt fb fs w
  l : lo ≤ fb
theorem SigK.next {lo t o fb : Nat} {fs : List FV} {w w' : World} (h : SigK lo t o fb fs w) (hb : Below w.heap.size w w') : SigK lo t o fb fs w' := by
  obtain ⟨⟨k0, k1, k2, hf, h0, h1, h2⟩, hr, hl⟩ := h
  exact ⟨⟨k0, k1, k2, hf, h0.next hb, h1.next hb, h2.next hb⟩, hr.next hb, hl⟩
set_option maxRecDepth 100000 in
set_option maxHeartbeats 4000000 in
theorem sig_mk (lo t o : Nat) (w : World) (hlo : lo ≤ w.heap.size) : Calls Tryz.prog 135 #[.pointer (some ⟨t, o, none⟩)] w fun e w' => ∃ fb fs, e = .returned (.slice (some ⟨fb, 0, none⟩) 3 3) ∧ SigK lo t o fb fs w' ∧ Below w.heap.size w w' := by
  have H0 := Lib.hid (fun w => number_mk 105 t (o) w)
  have H1 := Lib.hid (fun w => digests_mk 112 t (o + 2) 16 w)
  have H2 := Lib.hid (fun w => digests_mk 118 t (o + 1) 67 w)
  have z : w.heap.size ≤ w.drew.heap.size := Nat.le_refl _
  go_enter Tryz.func135, Tryz.ntmps135
  go_upto_region 1 with fail
  go_region_held3 (fun _ => True) (trivial)
    (first
      | (go_at_call 52; (with_reducible refine (H0.out _).mono ?_); rintro e w0 ⟨k0, g0, rfl, c0, b0⟩; have z0 := Nat.le_trans z b0.size)
      | (go_at_call 47; (with_reducible refine (H1.out _).mono ?_); rintro e w1 ⟨k1, g1, rfl, c1, b1⟩; have z1 := Nat.le_trans z0 b1.size)
      | (go_at_call 47; (with_reducible refine (H2.out _).mono ?_); rintro e w2 ⟨k2, g2, rfl, c2, b2⟩; have z2 := Nat.le_trans z1 b2.size))
  have h0 : New lo k0 (.pointer (some ⟨t, o, none⟩)) 117 w0 := ⟨Nat.le_trans hlo (Nat.le_trans z g0), c0⟩
  replace h0 := h0.next b1
  replace h0 := h0.next b2
  have h1 : NewS lo k1 t (o + 2) 16 w1 := ⟨Nat.le_trans hlo (Nat.le_trans z0 g1), c1⟩
  replace h1 := h1.next b2
  have h2 : NewS lo k2 t (o + 1) 67 w2 := ⟨Nat.le_trans hlo (Nat.le_trans z1 g2), c2⟩
  have hb : Below w.heap.size w w2 := (((((Below.refl w.heap.size w).drew).trans (b0.mono z)).trans (b1.mono z0)).trans (b2.mono z1))
  have hr := heap_alloc_new w2 (.cells (cellsFs [numFV 105 k0, listSFV 112 k1, listSFV 118 k2]).toArray 106)
  have hn := by0 w2 (.cells (cellsFs [numFV 105 k0, listSFV 112 k1, listSFV 118 k2]).toArray 106)
  change Exit.then _ _ _ _ (w2.alloc (.cells (cellsFs [numFV 105 k0, listSFV 112 k1, listSFV 118 k2]).toArray 106))
  generalize w2.alloc (.cells (cellsFs [numFV 105 k0, listSFV 112 k1, listSFV 118 k2]).toArray 106) = wf at *
  have HK : Hid (SigK lo t o w2.heap.size [numFV 105 k0, listSFV 112 k1, listSFV 118 k2] wf) := Lib.hid ⟨⟨k0, k1, k2, rfl, h0.next hn, h1.next hn, h2.next hn⟩, hr, Nat.le_trans hlo z2⟩
  have HB : Hid (Below w.heap.size w wf) := Lib.hid (hb.trans (hn.mono z2))
  clear hr hn hb
  go_wp2
  go_ret
  exact ⟨_, _, rfl, HK.out, HB.out⟩

/-- a Slot's row: its block, what its closures capture -/
structure SlotK (lo t o fb : Nat) (fs : List FV) (w : World) : Prop where
  h : ∃ k0 fb0 k1 k2, fs = [thingFV 103 false k0, numFV 108 k1, yesFV 115 k2] ∧ New lo k0 (.slice (some ⟨fb0, 0, none⟩) 3 3) 60 w ∧ (∃ fs0, SigK lo t (o + 2) fb0 fs0 w) ∧ New lo k1 (.pointer (some ⟨t, o, none⟩)) 117 w ∧ New lo k2 (.pointer (some ⟨t, o + 1, none⟩)) 230 w
  r : RowAt fb fs w
  l : lo ≤ fb
theorem SlotK.next {lo t o fb : Nat} {fs : List FV} {w w' : World} (h : SlotK lo t o fb fs w) (hb : Below w.heap.size w w') : SlotK lo t o fb fs w' := by
  obtain ⟨⟨k0, fb0, k1, k2, hf, h0, h1, h2, h3⟩, hr, hl⟩ := h
  exact ⟨⟨k0, fb0, k1, k2, hf, h0.next hb, (by obtain ⟨f, h⟩ := h1; exact ⟨f, h.next hb⟩), h2.next hb, h3.next hb⟩, hr.next hb, hl⟩
set_option maxRecDepth 100000 in
set_option maxHeartbeats 4000000 in
theorem slot_mk (lo t o : Nat) (w : World) (hlo : lo ≤ w.heap.size) : Calls Tryz.prog 81 #[.pointer (some ⟨t, o, none⟩)] w fun e w' => ∃ fb fs, e = .returned (.slice (some ⟨fb, 0, none⟩) 3 3) ∧ SlotK lo t o fb fs w' ∧ Below w.heap.size w w' := by
  have H0 := Lib.hid (fun w hw => sig_mk lo t (o + 2) w hw)
  have H1 := Lib.hid (fun fb w => thing_mk 103 (some ⟨fb, 0, none⟩) 3 3 w)
  have H2 := Lib.hid (fun w => number_mk 108 t (o) w)
  have H3 := Lib.hid (fun w => yes_mk 115 t (o + 1) w)
  have z : w.heap.size ≤ w.drew.heap.size := Nat.le_refl _
  go_enter Tryz.func81, Tryz.ntmps81
  go_upto_region 1 with fail
  go_region_held3 (fun _ => True) (trivial)
    (first
      | (go_at_call 135; (with_reducible refine (H0.out _ (Nat.le_trans hlo z)).mono ?_); rintro e w0 ⟨fb0, fs0, rfl, s0, b0⟩; have z0 := Nat.le_trans z b0.size)
      | (go_at_call 104; (with_reducible refine (H1.out _ _).mono ?_); rintro e w1 ⟨k0, g0, rfl, c0, b1⟩; have z1 := Nat.le_trans z0 b1.size)
      | (go_at_call 52; (with_reducible refine (H2.out _).mono ?_); rintro e w2 ⟨k1, g1, rfl, c1, b2⟩; have z2 := Nat.le_trans z1 b2.size)
      | (go_at_call 136; (with_reducible refine (H3.out _).mono ?_); rintro e w3 ⟨k2, g2, rfl, c2, b3⟩; have z3 := Nat.le_trans z2 b3.size))
  have h0 : New lo k0 (.slice (some ⟨fb0, 0, none⟩) 3 3) 60 w1 := ⟨Nat.le_trans hlo (Nat.le_trans z0 g0), c0⟩
  replace h0 := h0.next b2
  replace h0 := h0.next b3
  have h1 : (∃ fs0, SigK lo t (o + 2) fb0 fs0 w0) := ⟨fs0, s0⟩
  replace h1 : (∃ fs0, SigK lo t (o + 2) fb0 fs0 w1) := by obtain ⟨f, h⟩ := h1; exact ⟨f, h.next b1⟩
  replace h1 : (∃ fs0, SigK lo t (o + 2) fb0 fs0 w2) := by obtain ⟨f, h⟩ := h1; exact ⟨f, h.next b2⟩
  replace h1 : (∃ fs0, SigK lo t (o + 2) fb0 fs0 w3) := by obtain ⟨f, h⟩ := h1; exact ⟨f, h.next b3⟩
  have h2 : New lo k1 (.pointer (some ⟨t, o, none⟩)) 117 w2 := ⟨Nat.le_trans hlo (Nat.le_trans z1 g1), c1⟩
  replace h2 := h2.next b3
  have h3 : New lo k2 (.pointer (some ⟨t, o + 1, none⟩)) 230 w3 := ⟨Nat.le_trans hlo (Nat.le_trans z2 g2), c2⟩
  have hb : Below w.heap.size w w3 := ((((((Below.refl w.heap.size w).drew).trans (b0.mono z)).trans (b1.mono z0)).trans (b2.mono z1)).trans (b3.mono z2))
  have hr := heap_alloc_new w3 (.cells (cellsFs [thingFV 103 false k0, numFV 108 k1, yesFV 115 k2]).toArray 106)
  have hn := by0 w3 (.cells (cellsFs [thingFV 103 false k0, numFV 108 k1, yesFV 115 k2]).toArray 106)
  change Exit.then _ _ _ _ (w3.alloc (.cells (cellsFs [thingFV 103 false k0, numFV 108 k1, yesFV 115 k2]).toArray 106))
  generalize w3.alloc (.cells (cellsFs [thingFV 103 false k0, numFV 108 k1, yesFV 115 k2]).toArray 106) = wf at *
  have HK : Hid (SlotK lo t o w3.heap.size [thingFV 103 false k0, numFV 108 k1, yesFV 115 k2] wf) := Lib.hid ⟨⟨k0, fb0, k1, k2, rfl, h0.next hn, (by obtain ⟨f, h⟩ := h1; exact ⟨f, h.next hn⟩), h2.next hn, h3.next hn⟩, hr, Nat.le_trans hlo z3⟩
  have HB : Hid (Below w.heap.size w wf) := Lib.hid (hb.trans (hn.mono z3))
  clear hr hn hb
  go_wp2
  go_ret
  exact ⟨_, _, rfl, HK.out, HB.out⟩

/-- a Rev's row: its block, what its closures capture -/
structure RevK (lo t o fb : Nat) (fs : List FV) (w : World) : Prop where
  h : ∃ k0 k1 fb1 k2 fb2, fs = [numFV 112 k0, thingFV 113 true k1, thingFV 115 false k2] ∧ New lo k0 (.pointer (some ⟨t, o, none⟩)) 117 w ∧ New lo k1 (.slice (some ⟨fb1, 0, none⟩) 5 5) 60 w ∧ (∃ fs1, PartK lo t (o + 6) fb1 fs1 w) ∧ New lo k2 (.slice (some ⟨fb2, 0, none⟩) 3 3) 60 w ∧ (∃ fs2, SlotK lo t (o + 1) fb2 fs2 w)
  r : RowAt fb fs w
  l : lo ≤ fb
theorem RevK.next {lo t o fb : Nat} {fs : List FV} {w w' : World} (h : RevK lo t o fb fs w) (hb : Below w.heap.size w w') : RevK lo t o fb fs w' := by
  obtain ⟨⟨k0, k1, fb1, k2, fb2, hf, h0, h1, h2, h3, h4⟩, hr, hl⟩ := h
  exact ⟨⟨k0, k1, fb1, k2, fb2, hf, h0.next hb, h1.next hb, (by obtain ⟨f, h⟩ := h2; exact ⟨f, h.next hb⟩), h3.next hb, (by obtain ⟨f, h⟩ := h4; exact ⟨f, h.next hb⟩)⟩, hr.next hb, hl⟩
set_option maxRecDepth 100000 in
set_option maxHeartbeats 4000000 in
theorem rev_mk (lo t o : Nat) (w : World) (hlo : lo ≤ w.heap.size) : Calls Tryz.prog 51 #[.pointer (some ⟨t, o, none⟩)] w fun e w' => ∃ fb fs, e = .returned (.slice (some ⟨fb, 0, none⟩) 3 3) ∧ RevK lo t o fb fs w' ∧ Below w.heap.size w w' := by
  have H0 := Lib.hid (fun w => number_mk 112 t (o) w)
  have H1 := Lib.hid (fun w hw => part_mk lo t (o + 6) w hw)
  have H2 := Lib.hid (fun fb w => thing_mk 113 (some ⟨fb, 0, none⟩) 5 5 w)
  have H3 := Lib.hid (fun f w => always_any f w)
  have H4 := Lib.hid (fun w hw => slot_mk lo t (o + 1) w hw)
  have H5 := Lib.hid (fun fb w => thing_mk 115 (some ⟨fb, 0, none⟩) 3 3 w)
  have z : w.heap.size ≤ w.drew.heap.size := Nat.le_refl _
  go_enter Tryz.func51, Tryz.ntmps51
  go_upto_region 1 with fail
  go_region_held3 (fun _ => True) (trivial)
    (first
      | (go_at_call 52; (with_reducible refine (H0.out _).mono ?_); rintro e w0 ⟨k0, g0, rfl, c0, b0⟩; have z0 := Nat.le_trans z b0.size)
      | (go_at_call 80; (with_reducible refine (H1.out _ (Nat.le_trans hlo z0)).mono ?_); rintro e w1 ⟨fb1, fs1, rfl, s1, b1⟩; have z1 := Nat.le_trans z0 b1.size)
      | (go_at_call 104; (with_reducible refine (H2.out _ _).mono ?_); rintro e w2 ⟨k1, g1, rfl, c1, b2⟩; have z2 := Nat.le_trans z1 b2.size)
      | (go_at_call 94; (with_reducible refine (H3.out (thingFV 113 false k1) _).mono ?_); rintro e w3 ⟨rfl, b3⟩; have z3 := Nat.le_trans z2 b3.size)
      | (go_at_call 81; (with_reducible refine (H4.out _ (Nat.le_trans hlo z3)).mono ?_); rintro e w4 ⟨fb2, fs2, rfl, s2, b4⟩; have z4 := Nat.le_trans z3 b4.size)
      | (go_at_call 104; (with_reducible refine (H5.out _ _).mono ?_); rintro e w5 ⟨k2, g2, rfl, c2, b5⟩; have z5 := Nat.le_trans z4 b5.size))
  have h0 : New lo k0 (.pointer (some ⟨t, o, none⟩)) 117 w0 := ⟨Nat.le_trans hlo (Nat.le_trans z g0), c0⟩
  replace h0 := h0.next b1
  replace h0 := h0.next b2
  replace h0 := h0.next b3
  replace h0 := h0.next b4
  replace h0 := h0.next b5
  have h1 : New lo k1 (.slice (some ⟨fb1, 0, none⟩) 5 5) 60 w2 := ⟨Nat.le_trans hlo (Nat.le_trans z1 g1), c1⟩
  replace h1 := h1.next b3
  replace h1 := h1.next b4
  replace h1 := h1.next b5
  have h2 : (∃ fs1, PartK lo t (o + 6) fb1 fs1 w1) := ⟨fs1, s1⟩
  replace h2 : (∃ fs1, PartK lo t (o + 6) fb1 fs1 w2) := by obtain ⟨f, h⟩ := h2; exact ⟨f, h.next b2⟩
  replace h2 : (∃ fs1, PartK lo t (o + 6) fb1 fs1 w3) := by obtain ⟨f, h⟩ := h2; exact ⟨f, h.next b3⟩
  replace h2 : (∃ fs1, PartK lo t (o + 6) fb1 fs1 w4) := by obtain ⟨f, h⟩ := h2; exact ⟨f, h.next b4⟩
  replace h2 : (∃ fs1, PartK lo t (o + 6) fb1 fs1 w5) := by obtain ⟨f, h⟩ := h2; exact ⟨f, h.next b5⟩
  have h3 : New lo k2 (.slice (some ⟨fb2, 0, none⟩) 3 3) 60 w5 := ⟨Nat.le_trans hlo (Nat.le_trans z4 g2), c2⟩
  have h4 : (∃ fs2, SlotK lo t (o + 1) fb2 fs2 w4) := ⟨fs2, s2⟩
  replace h4 : (∃ fs2, SlotK lo t (o + 1) fb2 fs2 w5) := by obtain ⟨f, h⟩ := h4; exact ⟨f, h.next b5⟩
  have hb : Below w.heap.size w w5 := ((((((((Below.refl w.heap.size w).drew).trans (b0.mono z)).trans (b1.mono z0)).trans (b2.mono z1)).trans (b3.mono z2)).trans (b4.mono z3)).trans (b5.mono z4))
  have hr := heap_alloc_new w5 (.cells (cellsFs [numFV 112 k0, thingFV 113 true k1, thingFV 115 false k2]).toArray 106)
  have hn := by0 w5 (.cells (cellsFs [numFV 112 k0, thingFV 113 true k1, thingFV 115 false k2]).toArray 106)
  change Exit.then _ _ _ _ (w5.alloc (.cells (cellsFs [numFV 112 k0, thingFV 113 true k1, thingFV 115 false k2]).toArray 106))
  generalize w5.alloc (.cells (cellsFs [numFV 112 k0, thingFV 113 true k1, thingFV 115 false k2]).toArray 106) = wf at *
  have HK : Hid (RevK lo t o w5.heap.size [numFV 112 k0, thingFV 113 true k1, thingFV 115 false k2] wf) := Lib.hid ⟨⟨k0, k1, fb1, k2, fb2, rfl, h0.next hn, h1.next hn, (by obtain ⟨f, h⟩ := h2; exact ⟨f, h.next hn⟩), h3.next hn, (by obtain ⟨f, h⟩ := h4; exact ⟨f, h.next hn⟩)⟩, hr, Nat.le_trans hlo z5⟩
  have HB : Hid (Below w.heap.size w wf) := Lib.hid (hb.trans (hn.mono z5))
  clear hr hn hb
  go_wp2
  go_ret
  exact ⟨_, _, rfl, HK.out, HB.out⟩

/-- a Cert's row: its block, what its closures capture -/
structure CertK (lo t o fb : Nat) (fs : List FV) (w : World) : Prop where
  h : ∃ k0 k1 k2 k3 k4 kk4 k5, fs = [listSFV 80 k0, listSFV 83 k1, digFV 99 k2, listNFV 112 k3, listRFV 114 k4, numFV 119 k5] ∧ NewS lo k0 t (o + 5) 10240 w ∧ NewS lo k1 t (o + 4) 10240 w ∧ New lo k2 (.pointer (some ⟨t, o, none⟩)) 110 w ∧ NewN lo k3 t (o + 3) 640 w ∧ NewR lo k4 kk4 t (o + 2) 640 w ∧ New lo k5 (.pointer (some ⟨t, o + 1, none⟩)) 117 w
  r : RowAt fb fs w
  l : lo ≤ fb
theorem CertK.next {lo t o fb : Nat} {fs : List FV} {w w' : World} (h : CertK lo t o fb fs w) (hb : Below w.heap.size w w') : CertK lo t o fb fs w' := by
  obtain ⟨⟨k0, k1, k2, k3, k4, kk4, k5, hf, h0, h1, h2, h3, h4, h5⟩, hr, hl⟩ := h
  exact ⟨⟨k0, k1, k2, k3, k4, kk4, k5, hf, h0.next hb, h1.next hb, h2.next hb, h3.next hb, h4.next hb, h5.next hb⟩, hr.next hb, hl⟩
set_option maxRecDepth 100000 in
set_option maxHeartbeats 4000000 in
theorem cert_mk (lo t o : Nat) (w : World) (hlo : lo ≤ w.heap.size) : Calls Tryz.prog 16 #[.pointer (some ⟨t, o, none⟩)] w fun e w' => ∃ fb fs, e = .returned (.slice (some ⟨fb, 0, none⟩) 6 6) ∧ CertK lo t o fb fs w' ∧ Below w.heap.size w w' := by
  have H0 := Lib.hid (fun w => digests_mk 80 t (o + 5) 10240 w)
  have H1 := Lib.hid (fun w => digests_mk 83 t (o + 4) 10240 w)
  have H2 := Lib.hid (fun w => digest_mk 99 t (o) w)
  have H3 := Lib.hid (fun w => numbers_mk 112 t (o + 3) 640 w)
  have H4 := Lib.hid (fun w => things_mk 114 t (o + 2) 640 51 w)
  have H5 := Lib.hid (fun w => number_mk 119 t (o + 1) w)
  have z : w.heap.size ≤ w.drew.heap.size := Nat.le_refl _
  go_enter Tryz.func16, Tryz.ntmps16
  go_upto_region 1 with fail
  go_region_held3 (fun _ => True) (trivial)
    (first
      | (go_at_call 47; (with_reducible refine (H0.out _).mono ?_); rintro e w0 ⟨k0, g0, rfl, c0, b0⟩; have z0 := Nat.le_trans z b0.size)
      | (go_at_call 47; (with_reducible refine (H1.out _).mono ?_); rintro e w1 ⟨k1, g1, rfl, c1, b1⟩; have z1 := Nat.le_trans z0 b1.size)
      | (go_at_call 48; (with_reducible refine (H2.out _).mono ?_); rintro e w2 ⟨k2, g2, rfl, c2, b2⟩; have z2 := Nat.le_trans z1 b2.size)
      | (go_at_call 49; (with_reducible refine (H3.out _).mono ?_); rintro e w3 ⟨k3, g3, rfl, c3, b3⟩; have z3 := Nat.le_trans z2 b3.size)
      | (go_at_call 50; (with_reducible refine (H4.out _).mono ?_); rintro e w4 ⟨k4, kk4, gg4, g4, rfl, cc4, c4, b4⟩; have z4 := Nat.le_trans z3 b4.size)
      | (go_at_call 52; (with_reducible refine (H5.out _).mono ?_); rintro e w5 ⟨k5, g5, rfl, c5, b5⟩; have z5 := Nat.le_trans z4 b5.size))
  have h0 : NewS lo k0 t (o + 5) 10240 w0 := ⟨Nat.le_trans hlo (Nat.le_trans z g0), c0⟩
  replace h0 := h0.next b1
  replace h0 := h0.next b2
  replace h0 := h0.next b3
  replace h0 := h0.next b4
  replace h0 := h0.next b5
  have h1 : NewS lo k1 t (o + 4) 10240 w1 := ⟨Nat.le_trans hlo (Nat.le_trans z0 g1), c1⟩
  replace h1 := h1.next b2
  replace h1 := h1.next b3
  replace h1 := h1.next b4
  replace h1 := h1.next b5
  have h2 : New lo k2 (.pointer (some ⟨t, o, none⟩)) 110 w2 := ⟨Nat.le_trans hlo (Nat.le_trans z1 g2), c2⟩
  replace h2 := h2.next b3
  replace h2 := h2.next b4
  replace h2 := h2.next b5
  have h3 : NewN lo k3 t (o + 3) 640 w3 := ⟨Nat.le_trans hlo (Nat.le_trans z2 g3), c3⟩
  replace h3 := h3.next b4
  replace h3 := h3.next b5
  have h4 : NewR lo k4 kk4 t (o + 2) 640 w4 := ⟨Nat.le_trans hlo (Nat.le_trans z3 g4), Nat.le_trans hlo (Nat.le_trans z3 gg4), cc4, c4⟩
  replace h4 := h4.next b5
  have h5 : New lo k5 (.pointer (some ⟨t, o + 1, none⟩)) 117 w5 := ⟨Nat.le_trans hlo (Nat.le_trans z4 g5), c5⟩
  have hb : Below w.heap.size w w5 := ((((((((Below.refl w.heap.size w).drew).trans (b0.mono z)).trans (b1.mono z0)).trans (b2.mono z1)).trans (b3.mono z2)).trans (b4.mono z3)).trans (b5.mono z4))
  have hr := heap_alloc_new w5 (.cells (cellsFs [listSFV 80 k0, listSFV 83 k1, digFV 99 k2, listNFV 112 k3, listRFV 114 k4, numFV 119 k5]).toArray 106)
  have hn := by0 w5 (.cells (cellsFs [listSFV 80 k0, listSFV 83 k1, digFV 99 k2, listNFV 112 k3, listRFV 114 k4, numFV 119 k5]).toArray 106)
  change Exit.then _ _ _ _ (w5.alloc (.cells (cellsFs [listSFV 80 k0, listSFV 83 k1, digFV 99 k2, listNFV 112 k3, listRFV 114 k4, numFV 119 k5]).toArray 106))
  generalize w5.alloc (.cells (cellsFs [listSFV 80 k0, listSFV 83 k1, digFV 99 k2, listNFV 112 k3, listRFV 114 k4, numFV 119 k5]).toArray 106) = wf at *
  have HK : Hid (CertK lo t o w5.heap.size [listSFV 80 k0, listSFV 83 k1, digFV 99 k2, listNFV 112 k3, listRFV 114 k4, numFV 119 k5] wf) := Lib.hid ⟨⟨k0, k1, k2, k3, k4, kk4, k5, rfl, h0.next hn, h1.next hn, h2.next hn, h3.next hn, h4.next hn, h5.next hn⟩, hr, Nat.le_trans hlo z5⟩
  have HB : Hid (Below w.heap.size w wf) := Lib.hid (hb.trans (hn.mono z5))
  clear hr hn hb
  go_wp2
  go_ret
  exact ⟨_, _, rfl, HK.out, HB.out⟩

/-- a Msg's row: its block, what its closures capture -/
structure MsgK (lo t o fb : Nat) (fs : List FV) (w : World) : Prop where
  h : ∃ k0 k1 k2 k3 k4 k5, fs = [numFV 102 k0, digFV 104 k1, numFV 108 k2, numFV 110 k3, digFV 118 k4, numFV 119 k5] ∧ New lo k0 (.pointer (some ⟨t, o + 4, none⟩)) 117 w ∧ New lo k1 (.pointer (some ⟨t, o, none⟩)) 110 w ∧ New lo k2 (.pointer (some ⟨t, o + 5, none⟩)) 117 w ∧ New lo k3 (.pointer (some ⟨t, o + 2, none⟩)) 117 w ∧ New lo k4 (.pointer (some ⟨t, o + 1, none⟩)) 110 w ∧ New lo k5 (.pointer (some ⟨t, o + 3, none⟩)) 117 w
  r : RowAt fb fs w
  l : lo ≤ fb
theorem MsgK.next {lo t o fb : Nat} {fs : List FV} {w w' : World} (h : MsgK lo t o fb fs w) (hb : Below w.heap.size w w') : MsgK lo t o fb fs w' := by
  obtain ⟨⟨k0, k1, k2, k3, k4, k5, hf, h0, h1, h2, h3, h4, h5⟩, hr, hl⟩ := h
  exact ⟨⟨k0, k1, k2, k3, k4, k5, hf, h0.next hb, h1.next hb, h2.next hb, h3.next hb, h4.next hb, h5.next hb⟩, hr.next hb, hl⟩
set_option maxRecDepth 100000 in
set_option maxHeartbeats 4000000 in
theorem msg_mk (lo t o : Nat) (w : World) (hlo : lo ≤ w.heap.size) : Calls Tryz.prog 82 #[.pointer (some ⟨t, o, none⟩)] w fun e w' => ∃ fb fs, e = .returned (.slice (some ⟨fb, 0, none⟩) 6 6) ∧ MsgK lo t o fb fs w' ∧ Below w.heap.size w w' := by
  have H0 := Lib.hid (fun w => number_mk 102 t (o + 4) w)
  have H1 := Lib.hid (fun w => digest_mk 104 t (o) w)
  have H2 := Lib.hid (fun w => number_mk 108 t (o + 5) w)
  have H3 := Lib.hid (fun w => number_mk 110 t (o + 2) w)
  have H4 := Lib.hid (fun w => digest_mk 118 t (o + 1) w)
  have H5 := Lib.hid (fun w => number_mk 119 t (o + 3) w)
  have z : w.heap.size ≤ w.drew.heap.size := Nat.le_refl _
  go_enter Tryz.func82, Tryz.ntmps82
  go_upto_region 1 with fail
  go_region_held3 (fun _ => True) (trivial)
    (first
      | (go_at_call 52; (with_reducible refine (H0.out _).mono ?_); rintro e w0 ⟨k0, g0, rfl, c0, b0⟩; have z0 := Nat.le_trans z b0.size)
      | (go_at_call 48; (with_reducible refine (H1.out _).mono ?_); rintro e w1 ⟨k1, g1, rfl, c1, b1⟩; have z1 := Nat.le_trans z0 b1.size)
      | (go_at_call 52; (with_reducible refine (H2.out _).mono ?_); rintro e w2 ⟨k2, g2, rfl, c2, b2⟩; have z2 := Nat.le_trans z1 b2.size)
      | (go_at_call 52; (with_reducible refine (H3.out _).mono ?_); rintro e w3 ⟨k3, g3, rfl, c3, b3⟩; have z3 := Nat.le_trans z2 b3.size)
      | (go_at_call 48; (with_reducible refine (H4.out _).mono ?_); rintro e w4 ⟨k4, g4, rfl, c4, b4⟩; have z4 := Nat.le_trans z3 b4.size)
      | (go_at_call 52; (with_reducible refine (H5.out _).mono ?_); rintro e w5 ⟨k5, g5, rfl, c5, b5⟩; have z5 := Nat.le_trans z4 b5.size))
  have h0 : New lo k0 (.pointer (some ⟨t, o + 4, none⟩)) 117 w0 := ⟨Nat.le_trans hlo (Nat.le_trans z g0), c0⟩
  replace h0 := h0.next b1
  replace h0 := h0.next b2
  replace h0 := h0.next b3
  replace h0 := h0.next b4
  replace h0 := h0.next b5
  have h1 : New lo k1 (.pointer (some ⟨t, o, none⟩)) 110 w1 := ⟨Nat.le_trans hlo (Nat.le_trans z0 g1), c1⟩
  replace h1 := h1.next b2
  replace h1 := h1.next b3
  replace h1 := h1.next b4
  replace h1 := h1.next b5
  have h2 : New lo k2 (.pointer (some ⟨t, o + 5, none⟩)) 117 w2 := ⟨Nat.le_trans hlo (Nat.le_trans z1 g2), c2⟩
  replace h2 := h2.next b3
  replace h2 := h2.next b4
  replace h2 := h2.next b5
  have h3 : New lo k3 (.pointer (some ⟨t, o + 2, none⟩)) 117 w3 := ⟨Nat.le_trans hlo (Nat.le_trans z2 g3), c3⟩
  replace h3 := h3.next b4
  replace h3 := h3.next b5
  have h4 : New lo k4 (.pointer (some ⟨t, o + 1, none⟩)) 110 w4 := ⟨Nat.le_trans hlo (Nat.le_trans z3 g4), c4⟩
  replace h4 := h4.next b5
  have h5 : New lo k5 (.pointer (some ⟨t, o + 3, none⟩)) 117 w5 := ⟨Nat.le_trans hlo (Nat.le_trans z4 g5), c5⟩
  have hb : Below w.heap.size w w5 := ((((((((Below.refl w.heap.size w).drew).trans (b0.mono z)).trans (b1.mono z0)).trans (b2.mono z1)).trans (b3.mono z2)).trans (b4.mono z3)).trans (b5.mono z4))
  have hr := heap_alloc_new w5 (.cells (cellsFs [numFV 102 k0, digFV 104 k1, numFV 108 k2, numFV 110 k3, digFV 118 k4, numFV 119 k5]).toArray 106)
  have hn := by0 w5 (.cells (cellsFs [numFV 102 k0, digFV 104 k1, numFV 108 k2, numFV 110 k3, digFV 118 k4, numFV 119 k5]).toArray 106)
  change Exit.then _ _ _ _ (w5.alloc (.cells (cellsFs [numFV 102 k0, digFV 104 k1, numFV 108 k2, numFV 110 k3, digFV 118 k4, numFV 119 k5]).toArray 106))
  generalize w5.alloc (.cells (cellsFs [numFV 102 k0, digFV 104 k1, numFV 108 k2, numFV 110 k3, digFV 118 k4, numFV 119 k5]).toArray 106) = wf at *
  have HK : Hid (MsgK lo t o w5.heap.size [numFV 102 k0, digFV 104 k1, numFV 108 k2, numFV 110 k3, digFV 118 k4, numFV 119 k5] wf) := Lib.hid ⟨⟨k0, k1, k2, k3, k4, k5, rfl, h0.next hn, h1.next hn, h2.next hn, h3.next hn, h4.next hn, h5.next hn⟩, hr, Nat.le_trans hlo z5⟩
  have HB : Hid (Below w.heap.size w wf) := Lib.hid (hb.trans (hn.mono z5))
  clear hr hn hb
  go_wp2
  go_ret
  exact ⟨_, _, rfl, HK.out, HB.out⟩

/-- a Hdr's row: its block, what its closures capture -/
structure HdrK (lo t o fb : Nat) (fs : List FV) (w : World) : Prop where
  h : ∃ k0 k1 k2 k3, fs = [digFV 112 k0, numFV 114 k1, digFV 115 k2, digFV 116 k3] ∧ New lo k0 (.pointer (some ⟨t, o + 1, none⟩)) 110 w ∧ New lo k1 (.pointer (some ⟨t, o, none⟩)) 117 w ∧ New lo k2 (.pointer (some ⟨t, o + 3, none⟩)) 110 w ∧ New lo k3 (.pointer (some ⟨t, o + 2, none⟩)) 110 w
  r : RowAt fb fs w
  l : lo ≤ fb
theorem HdrK.next {lo t o fb : Nat} {fs : List FV} {w w' : World} (h : HdrK lo t o fb fs w) (hb : Below w.heap.size w w') : HdrK lo t o fb fs w' := by
  obtain ⟨⟨k0, k1, k2, k3, hf, h0, h1, h2, h3⟩, hr, hl⟩ := h
  exact ⟨⟨k0, k1, k2, k3, hf, h0.next hb, h1.next hb, h2.next hb, h3.next hb⟩, hr.next hb, hl⟩
end Go.Proofs.YtlhmmplkdjibkaaGreatDoor
