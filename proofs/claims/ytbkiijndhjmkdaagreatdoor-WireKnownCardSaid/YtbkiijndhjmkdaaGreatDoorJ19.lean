/- The constructors of lists. -/
import Derived.Test.YtbkiijndhjmkdaaGreatDoorJ18
namespace Go.Proofs.YtbkiijndhjmkdaaGreatDoor
open Go.RowKit

/-- what a list's constructor answers: a field whose closures share four new blocks -/
structure ListK (N : Nat) (at_ : Value) (pt : TypeId) (most : Int) (ly : Value) (lt : TypeId) (rd : Value) (rt : TypeId) (w : World) : Prop where
  a : w.heap[N]? = some (.cells #[at_] pt (0, 0))
  m : w.heap[N + 1]? = some (.cells #[.int .i64 most] 3 (0, 0))
  l : w.heap[N + 1 + 1]? = some (.cells #[ly] lt (0, 0))
  r : w.heap[N + 1 + 1 + 1]? = some (.cells #[rd] rt (0, 0))
theorem ListK.next {N : Nat} {at_ : Value} {pt : TypeId} {most : Int} {ly : Value} {lt : TypeId} {rd : Value} {rt : TypeId} {w w' : World} (h : ListK N at_ pt most ly lt rd rt w) (hb : Below w.heap.size w w') : ListK N at_ pt most ly lt rd rt w' :=
  ⟨(hb.block _ (lit_lt h.a)).trans h.a, (hb.block _ (lit_lt h.m)).trans h.m, (hb.block _ (lit_lt h.l)).trans h.l, (hb.block _ (lit_lt h.r)).trans h.r⟩
theorem ListK.only {N c : Nat} {at_ : Value} {pt : TypeId} {most : Int} {ly : Value} {lt : TypeId} {rd : Value} {rt : TypeId} {w w' : World} (h : ListK N at_ pt most ly lt rd rt w) (ho : Only c w w') (hc : c < N ∨ N + 1 + 1 + 1 < c) : ListK N at_ pt most ly lt rd rt w' :=
  ⟨(ho.block _ (lit_lt h.a) (by omega)).trans h.a, (ho.block _ (lit_lt h.m) (by omega)).trans h.m, (ho.block _ (lit_lt h.l) (by omega)).trans h.l, (ho.block _ (lit_lt h.r) (by omega)).trans h.r⟩
theorem ListK.start (w : World) (at_ : Value) (pt : TypeId) (most : Int) (ly : Value) (lt : TypeId) (rd : Value) (rt : TypeId) : ListK w.heap.size at_ pt most ly lt rd rt ((((w.alloc (.cells #[at_] pt)).alloc (.cells #[.int .i64 most] 3)).alloc (.cells #[ly] lt)).alloc (.cells #[rd] rt)) := by
  refine ⟨lit_old _ (lit_old _ (lit_old _ (heap_alloc_new w _))), lit_old _ (lit_old _ ?_), lit_old _ ?_, ?_⟩
  · rw [show w.heap.size + 1 = (w.alloc (.cells #[at_] pt)).heap.size by simp]; exact heap_alloc_new _ _
  · rw [show w.heap.size + 1 + 1 = ((w.alloc (.cells #[at_] pt)).alloc (.cells #[.int .i64 most] 3)).heap.size by simp]; exact heap_alloc_new _ _
  · rw [show w.heap.size + 1 + 1 + 1 = (((w.alloc (.cells #[at_] pt)).alloc (.cells #[.int .i64 most] 3)).alloc (.cells #[ly] lt)).heap.size by simp]; exact heap_alloc_new _ _
abbrev listSFV (c : UInt8) (N : Nat) : FV := ⟨c, false, 192, #[ptrV N], 193, #[ptrV N, ptrV (N + 1), ptrV (N + 1 + 1)], 195, #[ptrV (N + 1), ptrV N, ptrV (N + 1 + 1 + 1)]⟩
abbrev listNFV (c : UInt8) (N : Nat) : FV := ⟨c, false, 197, #[ptrV N], 198, #[ptrV N, ptrV (N + 1), ptrV (N + 1 + 1)], 199, #[ptrV (N + 1), ptrV N, ptrV (N + 1 + 1 + 1)]⟩
abbrev listRFV (c : UInt8) (N : Nat) : FV := ⟨c, false, 200, #[ptrV N], 201, #[ptrV N, ptrV (N + 1), ptrV (N + 1 + 1)], 202, #[ptrV (N + 1), ptrV N, ptrV (N + 1 + 1 + 1)]⟩

set_option maxRecDepth 100000 in
set_option maxHeartbeats 1000000 in
theorem listS_mk (c : UInt8) (t o : Nat) (most : Int) (Fl Fr : Nat) (Cl Cr : Array Value) (w : World) :
    Calls Tryz.prog 168 #[.string ⟨#[c]⟩, .pointer (some ⟨t, o, none⟩), .int .i64 most, .func (.func Fl) #[] Cl, .func (.func Fr) #[] Cr] w fun e w' => e = .returned (listSFV c w.heap.size).val ∧ ListK w.heap.size (.pointer (some ⟨t, o, none⟩)) 194 most (.func (.func Fl) #[] Cl) 224 (.func (.func Fr) #[] Cr) 255 w' ∧ Below w.heap.size w w' := by
  have hmf : ∀ (fn : Fn) (first cap : Array Value) (w : World), (Instr.makeFunc fn first cap).run Tryz.prog w = .ok (.func fn first cap) w := fun _ _ _ _ => rfl
  have HK := Lib.hid (ListK.start w (.pointer (some ⟨t, o, none⟩)) 194 most (.func (.func Fl) #[] Cl) 224 (.func (.func Fr) #[] Cr) 255)
  have HB : Hid (Below w.heap.size w ((((w.alloc (.cells #[.pointer (some ⟨t, o, none⟩)] 194)).alloc (.cells #[.int .i64 most] 3)).alloc (.cells #[.func (.func Fl) #[] Cl] 224)).alloc (.cells #[.func (.func Fr) #[] Cr] 255))) := Lib.hid ((((by0 w _).alloc (by simp) _).alloc (by simp; omega) _).alloc (by simp; omega) _)
  have HN : Hid (w.heap.size + 1 + 1 + 1 + 1 = ((((w.alloc (.cells #[.pointer (some ⟨t, o, none⟩)] 194)).alloc (.cells #[.int .i64 most] 3)).alloc (.cells #[.func (.func Fl) #[] Cl] 224)).alloc (.cells #[.func (.func Fr) #[] Cr] 255)).heap.size) := Lib.hid (by simp)
  go_enter Tryz.func168, Tryz.ntmps168
  go_wp2
  change bodyPost _ _ _ _ _ (World.alloc _ (.cells (listSFV c w.heap.size).cells.toArray 150))
  generalize ((((w.alloc (.cells #[.pointer (some ⟨t, o, none⟩)] 194)).alloc (.cells #[.int .i64 most] 3)).alloc (.cells #[.func (.func Fl) #[] Cl] 224)).alloc (.cells #[.func (.func Fr) #[] Cr] 255)) = wa at *
  have hW1 : (wa.alloc (.cells (listSFV c w.heap.size).cells.toArray 150)).heap[w.heap.size + 1 + 1 + 1 + 1]? = some (.cells (listSFV c w.heap.size).cells.toArray 150 (0, 0)) := by
    rw [HN.out]
    exact heap_alloc_new _ _
  have hK := HK.out.next (by0 wa (.cells (listSFV c w.heap.size).cells.toArray 150))
  have hB := HB.out.alloc (by have := HN.out; omega) (.cells (listSFV c w.heap.size).cells.toArray 150)
  generalize wa.alloc (.cells (listSFV c w.heap.size).cells.toArray 150) = wf at *
  obtain ⟨z0, z1, z2, z3, z4⟩ := five hW1
  refine bodyPost_ret (v := (listSFV c w.heap.size).val) (by simp [results, Tryz.results168, go_sem, z0, z1, z2, z3, z4]) rfl ⟨rfl, hK, hB⟩

set_option maxRecDepth 100000 in
set_option maxHeartbeats 1000000 in
theorem listN_mk (c : UInt8) (t o : Nat) (most : Int) (Fl Fr : Nat) (Cl Cr : Array Value) (w : World) :
    Calls Tryz.prog 169 #[.string ⟨#[c]⟩, .pointer (some ⟨t, o, none⟩), .int .i64 most, .func (.func Fl) #[] Cl, .func (.func Fr) #[] Cr] w fun e w' => e = .returned (listNFV c w.heap.size).val ∧ ListK w.heap.size (.pointer (some ⟨t, o, none⟩)) 196 most (.func (.func Fl) #[] Cl) 222 (.func (.func Fr) #[] Cr) 257 w' ∧ Below w.heap.size w w' := by
  have hmf : ∀ (fn : Fn) (first cap : Array Value) (w : World), (Instr.makeFunc fn first cap).run Tryz.prog w = .ok (.func fn first cap) w := fun _ _ _ _ => rfl
  have HK := Lib.hid (ListK.start w (.pointer (some ⟨t, o, none⟩)) 196 most (.func (.func Fl) #[] Cl) 222 (.func (.func Fr) #[] Cr) 257)
  have HB : Hid (Below w.heap.size w ((((w.alloc (.cells #[.pointer (some ⟨t, o, none⟩)] 196)).alloc (.cells #[.int .i64 most] 3)).alloc (.cells #[.func (.func Fl) #[] Cl] 222)).alloc (.cells #[.func (.func Fr) #[] Cr] 257))) := Lib.hid ((((by0 w _).alloc (by simp) _).alloc (by simp; omega) _).alloc (by simp; omega) _)
  have HN : Hid (w.heap.size + 1 + 1 + 1 + 1 = ((((w.alloc (.cells #[.pointer (some ⟨t, o, none⟩)] 196)).alloc (.cells #[.int .i64 most] 3)).alloc (.cells #[.func (.func Fl) #[] Cl] 222)).alloc (.cells #[.func (.func Fr) #[] Cr] 257)).heap.size) := Lib.hid (by simp)
  go_enter Tryz.func169, Tryz.ntmps169
  go_wp2
  change bodyPost _ _ _ _ _ (World.alloc _ (.cells (listNFV c w.heap.size).cells.toArray 150))
  generalize ((((w.alloc (.cells #[.pointer (some ⟨t, o, none⟩)] 196)).alloc (.cells #[.int .i64 most] 3)).alloc (.cells #[.func (.func Fl) #[] Cl] 222)).alloc (.cells #[.func (.func Fr) #[] Cr] 257)) = wa at *
  have hW1 : (wa.alloc (.cells (listNFV c w.heap.size).cells.toArray 150)).heap[w.heap.size + 1 + 1 + 1 + 1]? = some (.cells (listNFV c w.heap.size).cells.toArray 150 (0, 0)) := by
    rw [HN.out]
    exact heap_alloc_new _ _
  have hK := HK.out.next (by0 wa (.cells (listNFV c w.heap.size).cells.toArray 150))
  have hB := HB.out.alloc (by have := HN.out; omega) (.cells (listNFV c w.heap.size).cells.toArray 150)
  generalize wa.alloc (.cells (listNFV c w.heap.size).cells.toArray 150) = wf at *
  obtain ⟨z0, z1, z2, z3, z4⟩ := five hW1
  refine bodyPost_ret (v := (listNFV c w.heap.size).val) (by simp [results, Tryz.results169, go_sem, z0, z1, z2, z3, z4]) rfl ⟨rfl, hK, hB⟩

set_option maxRecDepth 100000 in
set_option maxHeartbeats 1000000 in
theorem listR_mk (c : UInt8) (t o : Nat) (most : Int) (Fl Fr : Nat) (Cl Cr : Array Value) (w : World) :
    Calls Tryz.prog 172 #[.string ⟨#[c]⟩, .pointer (some ⟨t, o, none⟩), .int .i64 most, .func (.func Fl) #[] Cl, .func (.func Fr) #[] Cr] w fun e w' => e = .returned (listRFV c w.heap.size).val ∧ ListK w.heap.size (.pointer (some ⟨t, o, none⟩)) 198 most (.func (.func Fl) #[] Cl) 259 (.func (.func Fr) #[] Cr) 260 w' ∧ Below w.heap.size w w' := by
  have hmf : ∀ (fn : Fn) (first cap : Array Value) (w : World), (Instr.makeFunc fn first cap).run Tryz.prog w = .ok (.func fn first cap) w := fun _ _ _ _ => rfl
  have HK := Lib.hid (ListK.start w (.pointer (some ⟨t, o, none⟩)) 198 most (.func (.func Fl) #[] Cl) 259 (.func (.func Fr) #[] Cr) 260)
  have HB : Hid (Below w.heap.size w ((((w.alloc (.cells #[.pointer (some ⟨t, o, none⟩)] 198)).alloc (.cells #[.int .i64 most] 3)).alloc (.cells #[.func (.func Fl) #[] Cl] 259)).alloc (.cells #[.func (.func Fr) #[] Cr] 260))) := Lib.hid ((((by0 w _).alloc (by simp) _).alloc (by simp; omega) _).alloc (by simp; omega) _)
  have HN : Hid (w.heap.size + 1 + 1 + 1 + 1 = ((((w.alloc (.cells #[.pointer (some ⟨t, o, none⟩)] 198)).alloc (.cells #[.int .i64 most] 3)).alloc (.cells #[.func (.func Fl) #[] Cl] 259)).alloc (.cells #[.func (.func Fr) #[] Cr] 260)).heap.size) := Lib.hid (by simp)
  go_enter Tryz.func172, Tryz.ntmps172
  go_wp2
  change bodyPost _ _ _ _ _ (World.alloc _ (.cells (listRFV c w.heap.size).cells.toArray 150))
  generalize ((((w.alloc (.cells #[.pointer (some ⟨t, o, none⟩)] 198)).alloc (.cells #[.int .i64 most] 3)).alloc (.cells #[.func (.func Fl) #[] Cl] 259)).alloc (.cells #[.func (.func Fr) #[] Cr] 260)) = wa at *
  have hW1 : (wa.alloc (.cells (listRFV c w.heap.size).cells.toArray 150)).heap[w.heap.size + 1 + 1 + 1 + 1]? = some (.cells (listRFV c w.heap.size).cells.toArray 150 (0, 0)) := by
    rw [HN.out]
    exact heap_alloc_new _ _
  have hK := HK.out.next (by0 wa (.cells (listRFV c w.heap.size).cells.toArray 150))
  have hB := HB.out.alloc (by have := HN.out; omega) (.cells (listRFV c w.heap.size).cells.toArray 150)
  generalize wa.alloc (.cells (listRFV c w.heap.size).cells.toArray 150) = wf at *
  obtain ⟨z0, z1, z2, z3, z4⟩ := five hW1
  refine bodyPost_ret (v := (listRFV c w.heap.size).val) (by simp [results, Tryz.results172, go_sem, z0, z1, z2, z3, z4]) rfl ⟨rfl, hK, hB⟩

set_option maxRecDepth 100000 in
set_option maxHeartbeats 1000000 in
theorem digests_mk (c : UInt8) (t o : Nat) (most : Int) (w : World) :
    Calls Tryz.prog 110 #[.string ⟨#[c]⟩, .pointer (some ⟨t, o, none⟩), .int .i64 most] w fun e w' => ∃ N, w.heap.size ≤ N ∧ e = .returned (listSFV c N).val ∧ ListK N (.pointer (some ⟨t, o, none⟩)) 194 most (.func (.func 142) #[] #[]) 224 (.func (.func 144) #[] #[]) 255 w' ∧ Below w.heap.size w w' := by
  have HC := Lib.hid (listS_mk c t o most 142 144 #[] #[] (w.alloc (.cells #[.string ⟨#[]⟩, .bool false, .nilFunc, .nilFunc, .nilFunc] 150)))
  have HS : Hid ((w.alloc (.cells #[.string ⟨#[]⟩, .bool false, .nilFunc, .nilFunc, .nilFunc] 150)).heap.size = w.heap.size + 1) := Lib.hid (by simp)
  have HF := Lib.hid (heap_alloc_new w (.cells #[.string ⟨#[]⟩, .bool false, .nilFunc, .nilFunc, .nilFunc] 150))
  have HB := Lib.hid (by0 w (.cells #[.string ⟨#[]⟩, .bool false, .nilFunc, .nilFunc, .nilFunc] 150))
  rw [HS.out] at HC
  go_enter Tryz.func110, Tryz.ntmps110
  go_wp2_with (go_at_call 168; refine HC.out.mono ?_; rintro e w2 ⟨rfl, hk2, hb2⟩; have hf2 := (hb2.block w.heap.size (by omega)).trans HF.out; have y0 := (lit_cell hf2 0).trans rfl; have y1 := (lit_cell hf2 1).trans rfl; have y2 := (lit_cell hf2 2).trans rfl; have y3 := (lit_cell hf2 3).trans rfl; have y4 := (lit_cell hf2 4).trans rfl; have q0 := lit_free hf2 0; have q1 := lit_free hf2 1; have q2 := lit_free hf2 2; have q3 := lit_free hf2 3; have q4 := lit_free hf2 4)
  have hW1 := set5_block (c := w.heap.size) (k := 0) (f := listSFV c (w.heap.size + 1)) hf2
  have hK := hk2.only (set5_only w2 w.heap.size 0 (listSFV c (w.heap.size + 1))) (.inl (by omega))
  have hb2' : Below w.heap.size w w2 := HB.out.trans (hb2.mono (by omega))
  have hB : Below w.heap.size w (set5 w2 w.heap.size 0 (listSFV c (w.heap.size + 1))) := hb2'.trans ((set5_only w2 w.heap.size 0 (listSFV c (w.heap.size + 1))).below (by omega) hb2'.size)
  change bodyPost _ _ _ _ _ (set5 w2 w.heap.size 0 (listSFV c (w.heap.size + 1)))
  generalize set5 w2 w.heap.size 0 (listSFV c (w.heap.size + 1)) = wf at *
  obtain ⟨z0, z1, z2, z3, z4⟩ := five (f := listSFV c (w.heap.size + 1)) hW1
  refine bodyPost_ret (v := (listSFV c (w.heap.size + 1)).val) (by simp [results, Tryz.results110, go_sem, z0, z1, z2, z3, z4]) rfl ⟨w.heap.size + 1, by omega, rfl, hK, hB⟩

set_option maxRecDepth 100000 in
set_option maxHeartbeats 1000000 in
theorem numbers_mk (c : UInt8) (t o : Nat) (most : Int) (w : World) :
    Calls Tryz.prog 111 #[.string ⟨#[c]⟩, .pointer (some ⟨t, o, none⟩), .int .i64 most] w fun e w' => ∃ N, w.heap.size ≤ N ∧ e = .returned (listNFV c N).val ∧ ListK N (.pointer (some ⟨t, o, none⟩)) 196 most (.func (.func 136) #[] #[]) 222 (.func (.func 138) #[] #[]) 257 w' ∧ Below w.heap.size w w' := by
  have HC := Lib.hid (listN_mk c t o most 136 138 #[] #[] (w.alloc (.cells #[.string ⟨#[]⟩, .bool false, .nilFunc, .nilFunc, .nilFunc] 150)))
  have HS : Hid ((w.alloc (.cells #[.string ⟨#[]⟩, .bool false, .nilFunc, .nilFunc, .nilFunc] 150)).heap.size = w.heap.size + 1) := Lib.hid (by simp)
  have HF := Lib.hid (heap_alloc_new w (.cells #[.string ⟨#[]⟩, .bool false, .nilFunc, .nilFunc, .nilFunc] 150))
  have HB := Lib.hid (by0 w (.cells #[.string ⟨#[]⟩, .bool false, .nilFunc, .nilFunc, .nilFunc] 150))
  rw [HS.out] at HC
  go_enter Tryz.func111, Tryz.ntmps111
  go_wp2_with (go_at_call 169; refine HC.out.mono ?_; rintro e w2 ⟨rfl, hk2, hb2⟩; have hf2 := (hb2.block w.heap.size (by omega)).trans HF.out; have y0 := (lit_cell hf2 0).trans rfl; have y1 := (lit_cell hf2 1).trans rfl; have y2 := (lit_cell hf2 2).trans rfl; have y3 := (lit_cell hf2 3).trans rfl; have y4 := (lit_cell hf2 4).trans rfl; have q0 := lit_free hf2 0; have q1 := lit_free hf2 1; have q2 := lit_free hf2 2; have q3 := lit_free hf2 3; have q4 := lit_free hf2 4)
  have hW1 := set5_block (c := w.heap.size) (k := 0) (f := listNFV c (w.heap.size + 1)) hf2
  have hK := hk2.only (set5_only w2 w.heap.size 0 (listNFV c (w.heap.size + 1))) (.inl (by omega))
  have hb2' : Below w.heap.size w w2 := HB.out.trans (hb2.mono (by omega))
  have hB : Below w.heap.size w (set5 w2 w.heap.size 0 (listNFV c (w.heap.size + 1))) := hb2'.trans ((set5_only w2 w.heap.size 0 (listNFV c (w.heap.size + 1))).below (by omega) hb2'.size)
  change bodyPost _ _ _ _ _ (set5 w2 w.heap.size 0 (listNFV c (w.heap.size + 1)))
  generalize set5 w2 w.heap.size 0 (listNFV c (w.heap.size + 1)) = wf at *
  obtain ⟨z0, z1, z2, z3, z4⟩ := five (f := listNFV c (w.heap.size + 1)) hW1
  refine bodyPost_ret (v := (listNFV c (w.heap.size + 1)).val) (by simp [results, Tryz.results111, go_sem, z0, z1, z2, z3, z4]) rfl ⟨w.heap.size + 1, by omega, rfl, hK, hB⟩

set_option maxRecDepth 100000 in
set_option maxHeartbeats 1000000 in
theorem things_mk (c : UInt8) (t o : Nat) (most : Int) (Fo : Nat) (w : World) :
    Calls Tryz.prog 112 #[.string ⟨#[c]⟩, .pointer (some ⟨t, o, none⟩), .int .i64 most, .func (.func Fo) #[] #[]] w fun e w' => ∃ N kk, w.heap.size ≤ kk ∧ w.heap.size ≤ N ∧ e = .returned (listRFV c N).val ∧ w'.heap[kk]? = some (.cells #[.func (.func Fo) #[] #[]] 199 (0, 0)) ∧ ListK N (.pointer (some ⟨t, o, none⟩)) 198 most (.func (.func 170) #[] #[ptrV kk]) 259 (.func (.func 171) #[] #[ptrV kk]) 260 w' ∧ Below w.heap.size w w' := by
  have hmf : ∀ (fn : Fn) (first cap : Array Value) (w : World), (Instr.makeFunc fn first cap).run Tryz.prog w = .ok (.func fn first cap) w := fun _ _ _ _ => rfl
  have HC := Lib.hid (listR_mk c t o most 170 171 #[ptrV w.heap.size] #[ptrV w.heap.size] ((w.alloc (.cells #[.func (.func Fo) #[] #[]] 199)).alloc (.cells #[.string ⟨#[]⟩, .bool false, .nilFunc, .nilFunc, .nilFunc] 150)))
  have HS : Hid (((w.alloc (.cells #[.func (.func Fo) #[] #[]] 199)).alloc (.cells #[.string ⟨#[]⟩, .bool false, .nilFunc, .nilFunc, .nilFunc] 150)).heap.size = w.heap.size + 1 + 1) := Lib.hid (by simp)
  have HK0 : Hid (((w.alloc (.cells #[.func (.func Fo) #[] #[]] 199)).alloc (.cells #[.string ⟨#[]⟩, .bool false, .nilFunc, .nilFunc, .nilFunc] 150)).heap[w.heap.size]? = some (.cells #[.func (.func Fo) #[] #[]] 199 (0, 0))) := Lib.hid (lit_old _ (heap_alloc_new w _))
  have HF : Hid (((w.alloc (.cells #[.func (.func Fo) #[] #[]] 199)).alloc (.cells #[.string ⟨#[]⟩, .bool false, .nilFunc, .nilFunc, .nilFunc] 150)).heap[w.heap.size + 1]? = some (.cells #[.string ⟨#[]⟩, .bool false, .nilFunc, .nilFunc, .nilFunc] 150 (0, 0))) := Lib.hid (by
    rw [show w.heap.size + 1 = (w.alloc (.cells #[.func (.func Fo) #[] #[]] 199)).heap.size by simp]
    exact heap_alloc_new _ _)
  have HB : Hid (Below w.heap.size w ((w.alloc (.cells #[.func (.func Fo) #[] #[]] 199)).alloc (.cells #[.string ⟨#[]⟩, .bool false, .nilFunc, .nilFunc, .nilFunc] 150))) := Lib.hid ((by0 w _).alloc (by simp) _)
  rw [HS.out] at HC
  go_enter Tryz.func112, Tryz.ntmps112
  go_wp2_with (go_at_call 172; refine HC.out.mono ?_; rintro e w2 ⟨rfl, hk2, hb2⟩; have hf2 := (hb2.block (w.heap.size + 1) (by omega)).trans HF.out; have hk02 := (hb2.block w.heap.size (by omega)).trans HK0.out; have y0 := (lit_cell hf2 0).trans rfl; have y1 := (lit_cell hf2 1).trans rfl; have y2 := (lit_cell hf2 2).trans rfl; have y3 := (lit_cell hf2 3).trans rfl; have y4 := (lit_cell hf2 4).trans rfl; have q0 := lit_free hf2 0; have q1 := lit_free hf2 1; have q2 := lit_free hf2 2; have q3 := lit_free hf2 3; have q4 := lit_free hf2 4)
  have hW1 := set5_block (c := w.heap.size + 1) (k := 0) (f := listRFV c (w.heap.size + 1 + 1)) hf2
  have hK := hk2.only (set5_only w2 (w.heap.size + 1) 0 (listRFV c (w.heap.size + 1 + 1))) (.inl (by omega))
  have hk0 := ((set5_only w2 (w.heap.size + 1) 0 (listRFV c (w.heap.size + 1 + 1))).block w.heap.size (lit_lt hk02) (by omega)).trans hk02
  have hb2' : Below w.heap.size w w2 := HB.out.trans (hb2.mono (by omega))
  have hB : Below w.heap.size w (set5 w2 (w.heap.size + 1) 0 (listRFV c (w.heap.size + 1 + 1))) := hb2'.trans ((set5_only w2 (w.heap.size + 1) 0 (listRFV c (w.heap.size + 1 + 1))).below (by omega) hb2'.size)
  change bodyPost _ _ _ _ _ (set5 w2 (w.heap.size + 1) 0 (listRFV c (w.heap.size + 1 + 1)))
  generalize set5 w2 (w.heap.size + 1) 0 (listRFV c (w.heap.size + 1 + 1)) = wf at *
  obtain ⟨z0, z1, z2, z3, z4⟩ := five (f := listRFV c (w.heap.size + 1 + 1)) hW1
  refine bodyPost_ret (v := (listRFV c (w.heap.size + 1 + 1)).val) (by simp [results, Tryz.results112, go_sem, z0, z1, z2, z3, z4]) rfl ⟨w.heap.size + 1 + 1, w.heap.size, Nat.le_refl _, by omega, rfl, hk0, hK, hB⟩
end Go.Proofs.YtbkiijndhjmkdaaGreatDoor
