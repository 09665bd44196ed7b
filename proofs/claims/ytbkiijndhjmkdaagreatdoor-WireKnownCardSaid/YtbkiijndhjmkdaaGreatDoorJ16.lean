/- The closures of number, digest, yes that read. -/
import Derived.Test.YtbkiijndhjmkdaaGreatDoorJ15
import Derived.Maps.AppendAt
namespace Go.Proofs.YtbkiijndhjmkdaaGreatDoor
open Go.RowKit

/-- what a closure that reads into a cell keeps in sight -/
structure Into (kb t o rb N : Nat) (x : Value) (w : World) : Prop where
  k : Cap kb t o w
  n : w.cell? ⟨N, 0, none⟩ = some (.pointer (some ⟨rb, 0, none⟩))
  c : w.cell? ⟨t, o, none⟩ = some x
  f : w.frozen? ⟨t, o, none⟩ = false
  l : kb < w.heap.size ∧ t < w.heap.size ∧ N < w.heap.size
theorem Into.only {kb t o rb N : Nat} {x : Value} {w w' : World} (h : Into kb t o rb N x w) (ho : Only rb w w') (hk : kb ≠ rb) (ht : t ≠ rb) (hN : N ≠ rb) : Into kb t o rb N x w' :=
  ⟨(World.cell?_of_block (a := ⟨kb, 0, none⟩) (ho.block kb h.l.1 hk)).trans h.k, (World.cell?_of_block (a := ⟨N, 0, none⟩) (ho.block N h.l.2.2 hN)).trans h.n, (World.cell?_of_block (a := ⟨t, o, none⟩) (ho.block t h.l.2.1 ht)).trans h.c,
    (World.frozen?_of_block (a := ⟨t, o, none⟩) (ho.block t h.l.2.1 ht)).trans h.f, by have := ho.size; have := h.l; omega⟩
theorem Into.set {kb t o rb N : Nat} {x : Value} {w : World} (h : Into kb t o rb N x w) (v : Value) (hk : kb ≠ t) (hN : N ≠ t) : Into kb t o rb N v (w.setCell ⟨t, o, none⟩ v) :=
  ⟨(World.cell?_of_block (a := ⟨kb, 0, none⟩) (lit_far v hk)).trans h.k, (World.cell?_of_block (a := ⟨N, 0, none⟩) (lit_far v hN)).trans h.n, World.cell?_setCell_same _ _ _ h.c, by rw [World.frozen?_setCell]; exact h.f, by have := h.l; simp [World.setCell]; omega⟩
theorem Into.start {kb t o rb : Nat} {x : Value} {w : World} (hk : Cap kb t o w) (hc : w.cell? ⟨t, o, none⟩ = some x) (hf : w.frozen? ⟨t, o, none⟩ = false) :
    Into kb t o rb w.heap.size x (w.alloc (.cells #[.pointer (some ⟨rb, 0, none⟩)] 158)).drew := by
  have h1 := World.block_lt_of_cell? w _ hk
  have h2 := World.block_lt_of_cell? w _ hc
  have h1 : kb < w.heap.size := h1
  have h2 : t < w.heap.size := h2
  have e1 := heap_alloc_old w (.cells #[.pointer (some ⟨rb, 0, none⟩)] 158) h1
  have e2 := heap_alloc_old w (.cells #[.pointer (some ⟨rb, 0, none⟩)] 158) h2
  refine ⟨(World.cell?_of_block (a := ⟨kb, 0, none⟩) (w := w) e1).trans hk, (lit_cell (heap_alloc_new w (.cells #[.pointer (some ⟨rb, 0, none⟩)] 158)) 0).trans rfl, (World.cell?_of_block (a := ⟨t, o, none⟩) (w := w) e2).trans hc, (World.frozen?_of_block (a := ⟨t, o, none⟩) (w := w) e2).trans hf, ?_⟩
  show kb < (w.alloc _).heap.size ∧ t < (w.alloc _).heap.size ∧ w.heap.size < (w.alloc _).heap.size
  rw [World.size_alloc]
  omega

/-- what such a closure answers: it has read, and stored what it read -/
def Stored (rb t o : Nat) (S : (List UInt8)) (a k : Nat) (v : Value) (w : World) (e : Ending) (w' : World) : Prop :=
  e = .returned (.tuple #[]) ∧ ∃ w1, w' = w1.setCell ⟨t, o, none⟩ v ∧ RQ rb S (a + k) 10240 w1 ∧ Only rb w w1

set_option maxRecDepth 100000 in
set_option maxHeartbeats 1000000 in
theorem number3_ok (rb kb t o : Nat) (S : (List UInt8)) (a : Nat) (P : TP) (x : Int) (w : World) (h : RdS rb S a w) (hP : takeP (S.drop a) 10240 0 = P) (hc : P.c = 0) (hk : Cap kb t o w) (hx : w.cell? ⟨t, o, none⟩ = some (.int .u64 x)) (hf : w.frozen? ⟨t, o, none⟩ = false) (hne : kb ≠ rb ∧ t ≠ rb ∧ kb ≠ t) :
    Calls Tryz.prog 137 #[.agg #[.pointer (some ⟨rb, 0, none⟩)], .pointer (some ⟨kb, 0, none⟩)] w (Stored rb t o S a P.m (.int .u64 (P.n : Int)) w) := by
  have HI := Lib.hid (Into.start (rb := rb) hk hx hf)
  have hB : Below w.heap.size w (w.alloc (.cells #[.pointer (some ⟨rb, 0, none⟩)] 158)).drew := (by0 w _).drew
  have HN := Lib.hid (rnumber_ok rb S a P _ (h.next hB) hP hc)
  have HB := Lib.hid (Only.of_below (b := rb) hB)
  have HRB := Lib.hid (show w.heap.size ≠ rb from by have := h.lt; omega)
  have HNE := Lib.hid hne
  have HNT := Lib.hid (show w.heap.size ≠ t from by have : t < w.heap.size := World.block_lt_of_cell? w _ hx; omega)
  clear h hP hc hk hx hf hB hne
  go_enter Tryz.func137, Tryz.ntmps137
  go_upto_region 1 with fail
  go_region_held3 (fun w' => w'.cell? ⟨kb, 0, none⟩ = some (.pointer (some ⟨t, o, none⟩)) ∧ w'.cell? ⟨w.heap.size, 0, none⟩ = some (.pointer (some ⟨rb, 0, none⟩)) ∧ ∃ y, Into kb t o rb w.heap.size y w')
    (first | (with_reducible exact ⟨HI.out.k, HI.out.n, _, HI.out⟩) | (with_reducible exact ⟨hI1.k, hI1.n, _, hI1⟩) | (with_reducible exact ⟨(hI1.set _ HNE.out.2.2 HNT.out).k, (hI1.set _ HNE.out.2.2 HNT.out).n, _, hI1.set _ HNE.out.2.2 HNT.out⟩))
    (first
      | (go_at_call 138; with_reducible refine HN.out.mono ?_; rintro e w1 ⟨rfl, hr1, ho1⟩; have hI1 := HI.out.only ho1 HNE.out.1 HNE.out.2.1 HRB.out; have c1 := hI1.c; have f1 := hI1.f))
  exact bodyPost_end (results_none rfl _ _ _) rfl ⟨rfl, w1, rfl, hr1, HB.out.trans ho1⟩
set_option maxRecDepth 100000 in
set_option maxHeartbeats 1000000 in
theorem digest3_ok (rb kb t o : Nat) (S : (List UInt8)) (a : Nat) (P : TP) (x : Value) (w : World) (h : RdS rb S a w) (hP : takeP (S.drop a) 10240 1 = P) (hc : P.c = 0) (hl : P.t.length = 32) (hk : Cap kb t o w) (hx : w.cell? ⟨t, o, none⟩ = some x) (hf : w.frozen? ⟨t, o, none⟩ = false) (hne : kb ≠ rb ∧ t ≠ rb ∧ kb ≠ t) :
    Calls Tryz.prog 143 #[.agg #[.pointer (some ⟨rb, 0, none⟩)], .pointer (some ⟨kb, 0, none⟩)] w (Stored rb t o S a P.m (.string ⟨P.t.toArray⟩) w) := by
  have HI := Lib.hid (Into.start (rb := rb) hk hx hf)
  have hB : Below w.heap.size w (w.alloc (.cells #[.pointer (some ⟨rb, 0, none⟩)] 158)).drew := (by0 w _).drew
  have HN := Lib.hid (rdigest_ok rb S a P _ (h.next hB) hP hc hl)
  have HB := Lib.hid (Only.of_below (b := rb) hB)
  have HRB := Lib.hid (show w.heap.size ≠ rb from by have := h.lt; omega)
  have HNE := Lib.hid hne
  have HNT := Lib.hid (show w.heap.size ≠ t from by have : t < w.heap.size := World.block_lt_of_cell? w _ hx; omega)
  clear h hP hc hl hk hx hf hB hne
  go_enter Tryz.func143, Tryz.ntmps143
  go_upto_region 1 with fail
  go_region_held3 (fun w' => w'.cell? ⟨kb, 0, none⟩ = some (.pointer (some ⟨t, o, none⟩)) ∧ w'.cell? ⟨w.heap.size, 0, none⟩ = some (.pointer (some ⟨rb, 0, none⟩)) ∧ ∃ y, Into kb t o rb w.heap.size y w')
    (first | (with_reducible exact ⟨HI.out.k, HI.out.n, _, HI.out⟩) | (with_reducible exact ⟨hI1.k, hI1.n, _, hI1⟩) | (with_reducible exact ⟨(hI1.set _ HNE.out.2.2 HNT.out).k, (hI1.set _ HNE.out.2.2 HNT.out).n, _, hI1.set _ HNE.out.2.2 HNT.out⟩))
    (first
      | (go_at_call 144; with_reducible refine HN.out.mono ?_; rintro e w1 ⟨rfl, hr1, ho1⟩; have hI1 := HI.out.only ho1 HNE.out.1 HNE.out.2.1 HRB.out; have c1 := hI1.c; have f1 := hI1.f))
  exact bodyPost_end (results_none rfl _ _ _) rfl ⟨rfl, w1, rfl, hr1, HB.out.trans ho1⟩
set_option maxRecDepth 100000 in
set_option maxHeartbeats 1000000 in
theorem yes3_ok (rb kb t o : Nat) (S : (List UInt8)) (a : Nat) (P : TP) (x : Value) (w : World) (h : RdS rb S a w) (hP : takeP (S.drop a) 10240 0 = P) (hc : P.c = 0) (hk : Cap kb t o w) (hx : w.cell? ⟨t, o, none⟩ = some x) (hf : w.frozen? ⟨t, o, none⟩ = false) (hne : kb ≠ rb ∧ t ≠ rb ∧ kb ≠ t) :
    Calls Tryz.prog 166 #[.agg #[.pointer (some ⟨rb, 0, none⟩)], .pointer (some ⟨kb, 0, none⟩)] w (Stored rb t o S a P.m (.bool (P.n == 1)) w) := by
  have HI := Lib.hid (Into.start (rb := rb) hk hx hf)
  have hB : Below w.heap.size w (w.alloc (.cells #[.pointer (some ⟨rb, 0, none⟩)] 158)).drew := (by0 w _).drew
  have HN := Lib.hid (rnumber_ok rb S a P _ (h.next hB) hP hc)
  have HB := Lib.hid (Only.of_below (b := rb) hB)
  have HRB := Lib.hid (show w.heap.size ≠ rb from by have := h.lt; omega)
  have HNE := Lib.hid hne
  have HNT := Lib.hid (show w.heap.size ≠ t from by have : t < w.heap.size := World.block_lt_of_cell? w _ hx; omega)
  clear h hP hc hk hx hf hB hne
  have hd : ((P.n : Int) == 1) = (P.n == 1) := by
    by_cases h : P.n = 1
    · simp [h]
    · rw [beq_eq_false_iff_ne.2 h, beq_eq_false_iff_ne]; omega
  generalize hq : (P.n == 1) = q at *
  go_enter Tryz.func166, Tryz.ntmps166
  go_upto_region 1 with fail
  go_region_held3 (fun w' => w'.cell? ⟨kb, 0, none⟩ = some (.pointer (some ⟨t, o, none⟩)) ∧ w'.cell? ⟨w.heap.size, 0, none⟩ = some (.pointer (some ⟨rb, 0, none⟩)) ∧ ∃ y, Into kb t o rb w.heap.size y w')
    (first | (with_reducible exact ⟨HI.out.k, HI.out.n, _, HI.out⟩) | (with_reducible exact ⟨hI1.k, hI1.n, _, hI1⟩) | (with_reducible exact ⟨(hI1.set _ HNE.out.2.2 HNT.out).k, (hI1.set _ HNE.out.2.2 HNT.out).n, _, hI1.set _ HNE.out.2.2 HNT.out⟩))
    (first
      | (go_at_call 138; with_reducible refine HN.out.mono ?_; rintro e w1 ⟨rfl, hr1, ho1⟩; have hI1 := HI.out.only ho1 HNE.out.1 HNE.out.2.1 HRB.out; have c1 := hI1.c; have f1 := hI1.f))
  exact bodyPost_end (results_none rfl _ _ _) rfl ⟨rfl, w1, rfl, hr1, HB.out.trans ho1⟩
set_option maxRecDepth 100000 in
set_option maxHeartbeats 1000000 in
theorem number3_bad (rb kb t o : Nat) (c b : Int) (x : Value) (w : World) (hN : ∀ w1, Below w.heap.size w w1 → Calls Tryz.prog 138 #[.agg #[.pointer (some ⟨rb, 0, none⟩)]] w1 fun e w' => Up w1.heap.size c b e w' ∧ Only rb w1 w') (hk : Cap kb t o w) (hx : w.cell? ⟨t, o, none⟩ = some x) (hf : w.frozen? ⟨t, o, none⟩ = false) :
    Calls Tryz.prog 137 #[.agg #[.pointer (some ⟨rb, 0, none⟩)], .pointer (some ⟨kb, 0, none⟩)] w fun e w' => Up w.heap.size c b e w' ∧ Only rb w w' := by
  have HI := Lib.hid (Into.start (rb := rb) hk hx hf)
  have hB : Below w.heap.size w (w.alloc (.cells #[.pointer (some ⟨rb, 0, none⟩)] 158)).drew := (by0 w _).drew
  have HN := Lib.hid (hN _ hB)
  have HB := Lib.hid (Only.of_below (b := rb) hB)
  have k1 := HI.out.k
  have n1 := HI.out.n
  clear hk hx hf hB hN
  go_enter Tryz.func137, Tryz.ntmps137
  go_upto_region 1 with fail
  refine wp_region_any (by kernel_rfl) ?_
  change wpAny _ _ _ _ _ _ _ (World.drew _)
  refine wpAny_ready (rs := [0, 1]) (by kernel_rfl) (by simp) (AllReady.cons (o := ⟨some 3, .load 152 (.tmp 1), _, _, _, none⟩) rfl (fun K hK => ?_) (AllReady.cons (o := ⟨some 4, .load 158 (.tmp 2), _, _, _, none⟩) rfl (fun K hK => ?_) AllReady.nil))
  · go_simp
    refine hK _ _ ?_
    clear hK K
    try simp only [Act.put, List.setIfInBounds_toArray, List.set_cons_succ, List.set_cons_zero]
    refine wpAny_ready (rs := [1]) (by kernel_rfl) (by simp) (AllReady.cons (o := ⟨some 4, .load 158 (.tmp 2), _, _, _, none⟩) rfl (fun K hK => ?_) AllReady.nil)
    · go_simp
      refine hK _ _ ?_
      clear hK K
      try simp only [Act.put, List.setIfInBounds_toArray, List.set_cons_succ, List.set_cons_zero]
      refine wpAny_ready (rs := [2]) (by kernel_rfl) (by simp) (AllReady.cons (o := ⟨some 5, .call ⟨.value (.func 138), #[.tmp 4], #[158]⟩, _, _, _, none⟩) rfl (fun K hK => ?_) AllReady.nil)
      · clear hK
        go_simp
        refine HN.out.mono ?_
        rintro e w1 ⟨⟨f, hf, rfl, hf0, hf1⟩, ho1⟩
        exact ⟨rfl, ⟨f, Nat.le_trans HB.out.size hf, rfl, hf0, hf1⟩, HB.out.trans ho1⟩
  · go_simp
    refine hK _ _ ?_
    clear hK K
    try simp only [Act.put, List.setIfInBounds_toArray, List.set_cons_succ, List.set_cons_zero]
    refine wpAny_ready (rs := [0, 2]) (by kernel_rfl) (by simp) (AllReady.cons (o := ⟨some 3, .load 152 (.tmp 1), _, _, _, none⟩) rfl (fun K hK => ?_) (AllReady.cons (o := ⟨some 5, .call ⟨.value (.func 138), #[.tmp 4], #[158]⟩, _, _, _, none⟩) rfl (fun K hK => ?_) AllReady.nil))
    · go_simp
      refine hK _ _ ?_
      clear hK K
      try simp only [Act.put, List.setIfInBounds_toArray, List.set_cons_succ, List.set_cons_zero]
      refine wpAny_ready (rs := [2]) (by kernel_rfl) (by simp) (AllReady.cons (o := ⟨some 5, .call ⟨.value (.func 138), #[.tmp 4], #[158]⟩, _, _, _, none⟩) rfl (fun K hK => ?_) AllReady.nil)
      · clear hK
        go_simp
        refine HN.out.mono ?_
        rintro e w1 ⟨⟨f, hf, rfl, hf0, hf1⟩, ho1⟩
        exact ⟨rfl, ⟨f, Nat.le_trans HB.out.size hf, rfl, hf0, hf1⟩, HB.out.trans ho1⟩
    · clear hK
      go_simp
      refine HN.out.mono ?_
      rintro e w1 ⟨⟨f, hf, rfl, hf0, hf1⟩, ho1⟩
      exact ⟨rfl, ⟨f, Nat.le_trans HB.out.size hf, rfl, hf0, hf1⟩, HB.out.trans ho1⟩
set_option maxRecDepth 100000 in
set_option maxHeartbeats 1000000 in
theorem digest3_bad (rb kb t o : Nat) (c b : Int) (x : Value) (w : World) (hN : ∀ w1, Below w.heap.size w w1 → Calls Tryz.prog 144 #[.agg #[.pointer (some ⟨rb, 0, none⟩)]] w1 fun e w' => Up w1.heap.size c b e w' ∧ Only rb w1 w') (hk : Cap kb t o w) (hx : w.cell? ⟨t, o, none⟩ = some x) (hf : w.frozen? ⟨t, o, none⟩ = false) :
    Calls Tryz.prog 143 #[.agg #[.pointer (some ⟨rb, 0, none⟩)], .pointer (some ⟨kb, 0, none⟩)] w fun e w' => Up w.heap.size c b e w' ∧ Only rb w w' := by
  have HI := Lib.hid (Into.start (rb := rb) hk hx hf)
  have hB : Below w.heap.size w (w.alloc (.cells #[.pointer (some ⟨rb, 0, none⟩)] 158)).drew := (by0 w _).drew
  have HN := Lib.hid (hN _ hB)
  have HB := Lib.hid (Only.of_below (b := rb) hB)
  have k1 := HI.out.k
  have n1 := HI.out.n
  clear hk hx hf hB hN
  go_enter Tryz.func143, Tryz.ntmps143
  go_upto_region 1 with fail
  refine wp_region_any (by kernel_rfl) ?_
  change wpAny _ _ _ _ _ _ _ (World.drew _)
  refine wpAny_ready (rs := [0, 1]) (by kernel_rfl) (by simp) (AllReady.cons (o := ⟨some 3, .load 154 (.tmp 1), _, _, _, none⟩) rfl (fun K hK => ?_) (AllReady.cons (o := ⟨some 4, .load 158 (.tmp 2), _, _, _, none⟩) rfl (fun K hK => ?_) AllReady.nil))
  · go_simp
    refine hK _ _ ?_
    clear hK K
    try simp only [Act.put, List.setIfInBounds_toArray, List.set_cons_succ, List.set_cons_zero]
    refine wpAny_ready (rs := [1]) (by kernel_rfl) (by simp) (AllReady.cons (o := ⟨some 4, .load 158 (.tmp 2), _, _, _, none⟩) rfl (fun K hK => ?_) AllReady.nil)
    · go_simp
      refine hK _ _ ?_
      clear hK K
      try simp only [Act.put, List.setIfInBounds_toArray, List.set_cons_succ, List.set_cons_zero]
      refine wpAny_ready (rs := [2]) (by kernel_rfl) (by simp) (AllReady.cons (o := ⟨some 5, .call ⟨.value (.func 144), #[.tmp 4], #[158]⟩, _, _, _, none⟩) rfl (fun K hK => ?_) AllReady.nil)
      · clear hK
        go_simp
        refine HN.out.mono ?_
        rintro e w1 ⟨⟨f, hf, rfl, hf0, hf1⟩, ho1⟩
        exact ⟨rfl, ⟨f, Nat.le_trans HB.out.size hf, rfl, hf0, hf1⟩, HB.out.trans ho1⟩
  · go_simp
    refine hK _ _ ?_
    clear hK K
    try simp only [Act.put, List.setIfInBounds_toArray, List.set_cons_succ, List.set_cons_zero]
    refine wpAny_ready (rs := [0, 2]) (by kernel_rfl) (by simp) (AllReady.cons (o := ⟨some 3, .load 154 (.tmp 1), _, _, _, none⟩) rfl (fun K hK => ?_) (AllReady.cons (o := ⟨some 5, .call ⟨.value (.func 144), #[.tmp 4], #[158]⟩, _, _, _, none⟩) rfl (fun K hK => ?_) AllReady.nil))
    · go_simp
      refine hK _ _ ?_
      clear hK K
      try simp only [Act.put, List.setIfInBounds_toArray, List.set_cons_succ, List.set_cons_zero]
      refine wpAny_ready (rs := [2]) (by kernel_rfl) (by simp) (AllReady.cons (o := ⟨some 5, .call ⟨.value (.func 144), #[.tmp 4], #[158]⟩, _, _, _, none⟩) rfl (fun K hK => ?_) AllReady.nil)
      · clear hK
        go_simp
        refine HN.out.mono ?_
        rintro e w1 ⟨⟨f, hf, rfl, hf0, hf1⟩, ho1⟩
        exact ⟨rfl, ⟨f, Nat.le_trans HB.out.size hf, rfl, hf0, hf1⟩, HB.out.trans ho1⟩
    · clear hK
      go_simp
      refine HN.out.mono ?_
      rintro e w1 ⟨⟨f, hf, rfl, hf0, hf1⟩, ho1⟩
      exact ⟨rfl, ⟨f, Nat.le_trans HB.out.size hf, rfl, hf0, hf1⟩, HB.out.trans ho1⟩
set_option maxRecDepth 100000 in
set_option maxHeartbeats 1000000 in
theorem yes3_bad (rb kb t o : Nat) (c b : Int) (x : Value) (w : World) (hN : ∀ w1, Below w.heap.size w w1 → Calls Tryz.prog 138 #[.agg #[.pointer (some ⟨rb, 0, none⟩)]] w1 fun e w' => Up w1.heap.size c b e w' ∧ Only rb w1 w') (hk : Cap kb t o w) (hx : w.cell? ⟨t, o, none⟩ = some x) (hf : w.frozen? ⟨t, o, none⟩ = false) :
    Calls Tryz.prog 166 #[.agg #[.pointer (some ⟨rb, 0, none⟩)], .pointer (some ⟨kb, 0, none⟩)] w fun e w' => Up w.heap.size c b e w' ∧ Only rb w w' := by
  have HI := Lib.hid (Into.start (rb := rb) hk hx hf)
  have hB : Below w.heap.size w (w.alloc (.cells #[.pointer (some ⟨rb, 0, none⟩)] 158)).drew := (by0 w _).drew
  have HN := Lib.hid (hN _ hB)
  have HB := Lib.hid (Only.of_below (b := rb) hB)
  have k1 := HI.out.k
  have n1 := HI.out.n
  clear hk hx hf hB hN
  go_enter Tryz.func166, Tryz.ntmps166
  go_upto_region 1 with fail
  refine wp_region_any (by kernel_rfl) ?_
  change wpAny _ _ _ _ _ _ _ (World.drew _)
  refine wpAny_ready (rs := [0, 1]) (by kernel_rfl) (by simp) (AllReady.cons (o := ⟨some 3, .load 188 (.tmp 1), _, _, _, none⟩) rfl (fun K hK => ?_) (AllReady.cons (o := ⟨some 4, .load 158 (.tmp 2), _, _, _, none⟩) rfl (fun K hK => ?_) AllReady.nil))
  · go_simp
    refine hK _ _ ?_
    clear hK K
    try simp only [Act.put, List.setIfInBounds_toArray, List.set_cons_succ, List.set_cons_zero]
    refine wpAny_ready (rs := [1]) (by kernel_rfl) (by simp) (AllReady.cons (o := ⟨some 4, .load 158 (.tmp 2), _, _, _, none⟩) rfl (fun K hK => ?_) AllReady.nil)
    · go_simp
      refine hK _ _ ?_
      clear hK K
      try simp only [Act.put, List.setIfInBounds_toArray, List.set_cons_succ, List.set_cons_zero]
      refine wpAny_ready (rs := [2]) (by kernel_rfl) (by simp) (AllReady.cons (o := ⟨some 5, .call ⟨.value (.func 138), #[.tmp 4], #[158]⟩, _, _, _, none⟩) rfl (fun K hK => ?_) AllReady.nil)
      · clear hK
        go_simp
        refine HN.out.mono ?_
        rintro e w1 ⟨⟨f, hf, rfl, hf0, hf1⟩, ho1⟩
        exact ⟨rfl, ⟨f, Nat.le_trans HB.out.size hf, rfl, hf0, hf1⟩, HB.out.trans ho1⟩
  · go_simp
    refine hK _ _ ?_
    clear hK K
    try simp only [Act.put, List.setIfInBounds_toArray, List.set_cons_succ, List.set_cons_zero]
    refine wpAny_ready (rs := [0, 2]) (by kernel_rfl) (by simp) (AllReady.cons (o := ⟨some 3, .load 188 (.tmp 1), _, _, _, none⟩) rfl (fun K hK => ?_) (AllReady.cons (o := ⟨some 5, .call ⟨.value (.func 138), #[.tmp 4], #[158]⟩, _, _, _, none⟩) rfl (fun K hK => ?_) AllReady.nil))
    · go_simp
      refine hK _ _ ?_
      clear hK K
      try simp only [Act.put, List.setIfInBounds_toArray, List.set_cons_succ, List.set_cons_zero]
      refine wpAny_ready (rs := [2]) (by kernel_rfl) (by simp) (AllReady.cons (o := ⟨some 5, .call ⟨.value (.func 138), #[.tmp 4], #[158]⟩, _, _, _, none⟩) rfl (fun K hK => ?_) AllReady.nil)
      · clear hK
        go_simp
        refine HN.out.mono ?_
        rintro e w1 ⟨⟨f, hf, rfl, hf0, hf1⟩, ho1⟩
        exact ⟨rfl, ⟨f, Nat.le_trans HB.out.size hf, rfl, hf0, hf1⟩, HB.out.trans ho1⟩
    · clear hK
      go_simp
      refine HN.out.mono ?_
      rintro e w1 ⟨⟨f, hf, rfl, hf0, hf1⟩, ho1⟩
      exact ⟨rfl, ⟨f, Nat.le_trans HB.out.size hf, rfl, hf0, hf1⟩, HB.out.trans ho1⟩
end Go.Proofs.YtbkiijndhjmkdaaGreatDoor
/- The closures of number, digest, yes that lay; their constructors. -/
namespace Go.Proofs.YtbkiijndhjmkdaaGreatDoor
open Go.RowKit

theorem headP_len1 (n : Nat) : (headP 1 n).length ≤ 3 := by
  unfold headP
  rw [if_pos rfl]
  repeat' split
  all_goals simp [be_length]
set_option maxRecDepth 100000 in
theorem layNumber_any (B b : Nat) (L : (List UInt8)) (n : Nat) (w : World) (hW : Pk.Wr B b L w) (hn : n < 18446744073709551616) (hL : L.length ≤ 9000000) :
    Calls Tryz.prog 136 #[.pointer (some ⟨b, 0, none⟩), .int .u64 (n : Int)] w (Lays B b L (numP n) true w) := by
  have HC := Lib.hid (Pk.num_any B b L n w hW (by omega) hn)
  clear hW hn hL
  go_enter Tryz.func136, Tryz.ntmps136
  go_wp2_with (go_at_call 182; refine HC.out.mono ?_; rintro e w2 ⟨rfl, hw2, hb2⟩)
  exact bodyPost_end (results_none rfl _ _ _) rfl (.inl ⟨rfl, rfl, hw2, hb2⟩)
set_option maxRecDepth 100000 in
theorem layDigest_any (B b : Nat) (L : (List UInt8)) (s : (List UInt8)) (w : World) (hW : Pk.Wr B b L w) (hL : L.length ≤ 9000000) :
    Calls Tryz.prog 142 #[.pointer (some ⟨b, 0, none⟩), .string ⟨s.toArray⟩] w (Lays B b L (binP s) (digB s) w) := by
  have HSZ := Lib.hid (show B ≤ w.heap.size from by have := hW.lt; have := hW.hB; omega)
  by_cases hs : s.length = 32
  · have HC0 := Pk.bin_any B b L s w hW (by omega) (by omega)
    rw [show laidP 1 0 s = (binP s, 0) by rw [laidP, if_neg (by decide), if_pos (by decide), if_neg (by omega)]; rfl] at HC0
    simp only [ne_eq, not_true_eq_false, false_implies, and_true] at HC0
    have HC := Lib.hid HC0
    have HE : Hid (digB s = true) := Lib.hid (by simp [digB, hs])
    rw [HE.out]
    have l0 : (s.length : Int) = 32 := by omega
    clear HC0 hW hL hs
    go_enter Tryz.func142, Tryz.ntmps142
    go_wp2_with (first | (go_at_call 151; refine (must_yes 2 w).mono ?_; rintro e w1 ⟨rfl, hw1⟩; subst hw1) | (go_at_call 185; refine HC.out.mono ?_; rintro e w2 ⟨rfl, hw2, hb2⟩))
    exact bodyPost_end (results_none rfl _ _ _) rfl (.inl ⟨rfl, rfl, hw2, hb2⟩)
  · have HE : Hid (digB s = false) := Lib.hid (by simp [digB, hs])
    rw [HE.out]
    have l0 : ((s.length : Int) == 32) = false := by rw [beq_eq_false_iff_ne]; omega
    clear hW hL hs
    go_enter Tryz.func142, Tryz.ntmps142
    go_wp2_with (go_at_call 151; refine (must_no 2 w).mono ?_; rintro e w1 ⟨⟨f, hf, rfl, hf0, hf1⟩, hb1⟩)
    exact ⟨rfl, .inr ⟨rfl, ⟨f, Nat.le_trans HSZ.out hf, rfl, hf0, hf1⟩, hb1.mono HSZ.out⟩⟩
set_option maxRecDepth 100000 in
theorem number2_any (B b : Nat) (L : (List UInt8)) (kb t o n : Nat) (w : World) (hW : Pk.Wr B b L w) (hk : Cap kb t o w) (h : w.cell? ⟨t, o, none⟩ = some (.int .u64 (n : Int))) (hn : n < 18446744073709551616) (hL : L.length + 9 ≤ 9000000) :
    Calls Tryz.prog 135 #[.pointer (some ⟨b, 0, none⟩), .pointer (some ⟨kb, 0, none⟩)] w (Lays B b L (numP n) true w) := by
  have HC := Lib.hid (layNumber_any B b L n w hW hn (by omega))
  clear hW hn hL
  go_enter Tryz.func135, Tryz.ntmps135
  go_wp2_with (go_at_call 136; refine HC.out.mono ?_; rintro e w2 (⟨_, rfl, hw2, hb2⟩ | ⟨h, _⟩); rotate_left; (cases h))
  exact bodyPost_end (results_none rfl _ _ _) rfl (.inl ⟨rfl, rfl, hw2, hb2⟩)
set_option maxRecDepth 100000 in
theorem yes2_any (B b : Nat) (L : (List UInt8)) (w : World) (hW : Pk.Wr B b L w) (hL : L.length + 9 ≤ 9000000) :
    Calls Tryz.prog 165 #[.pointer (some ⟨b, 0, none⟩)] w (Lays B b L (numP 1) true w) := by
  have HC := Lib.hid (layNumber_any B b L 1 w hW (by decide) (by omega))
  clear hW hL
  go_enter Tryz.func165, Tryz.ntmps165
  go_wp2_with (go_at_call 136; refine HC.out.mono ?_; rintro e w2 (⟨_, rfl, hw2, hb2⟩ | ⟨h, _⟩); rotate_left; (cases h))
  exact bodyPost_end (results_none rfl _ _ _) rfl (.inl ⟨rfl, rfl, hw2, hb2⟩)
set_option maxRecDepth 100000 in
theorem digest2_any (B b : Nat) (L : (List UInt8)) (kb t o : Nat) (s : (List UInt8)) (w : World) (hW : Pk.Wr B b L w) (hk : Cap kb t o w) (h : w.cell? ⟨t, o, none⟩ = some (.string ⟨s.toArray⟩)) (hL : L.length + 35 ≤ 9000000) :
    Calls Tryz.prog 141 #[.pointer (some ⟨b, 0, none⟩), .pointer (some ⟨kb, 0, none⟩)] w (Lays B b L (binP s) (digB s) w) := by
  have HC := Lib.hid (layDigest_any B b L s w hW (by omega))
  clear hW hL
  cases hd : digB s with
  | true =>
    rw [hd] at HC
    clear hd
    go_enter Tryz.func141, Tryz.ntmps141
    go_wp2_with (go_at_call 142; refine HC.out.mono ?_; rintro e w2 (⟨_, rfl, hw2, hb2⟩ | ⟨h, _⟩); rotate_left; (cases h))
    exact bodyPost_end (results_none rfl _ _ _) rfl (.inl ⟨rfl, rfl, hw2, hb2⟩)
  | false =>
    rw [hd] at HC
    clear hd
    go_enter Tryz.func141, Tryz.ntmps141
    go_wp2_with (go_at_call 142; refine HC.out.mono ?_; rintro e w2 (⟨h, _⟩ | ⟨_, ⟨f, hf, rfl, hf0, hf1⟩, hb1⟩); (cases h))
    exact ⟨rfl, .inr ⟨rfl, ⟨f, hf, rfl, hf0, hf1⟩, hb1⟩⟩
end Go.Proofs.YtbkiijndhjmkdaaGreatDoor
/- The constructors of fields: number, digest, yes, thing. -/
namespace Go.Proofs.YtbkiijndhjmkdaaGreatDoor
open Go.RowKit

abbrev ptrV (kb : Nat) : Value := .pointer (some ⟨kb, 0, none⟩)
abbrev numFV (c : UInt8) (kb : Nat) : FV := ⟨c, false, 134, #[ptrV kb], 135, #[ptrV kb], 137, #[ptrV kb]⟩
abbrev digFV (c : UInt8) (kb : Nat) : FV := ⟨c, true, 140, #[ptrV kb], 141, #[ptrV kb], 143, #[ptrV kb]⟩
abbrev yesFV (c : UInt8) (kb : Nat) : FV := ⟨c, false, 164, #[ptrV kb], 165, #[], 166, #[ptrV kb]⟩
abbrev thingFV (c : UInt8) (nd : Bool) (kb : Nat) : FV := ⟨c, nd, 160, #[ptrV kb], 162, #[ptrV kb], 163, #[ptrV kb]⟩

theorem five {w : World} {b : Nat} {f : FV} (h : w.heap[b]? = some (.cells f.cells.toArray 150 (0, 0))) : w.cell? ⟨b, 0, none⟩ = some (.string ⟨#[f.key]⟩) ∧ w.cell? ⟨b, 1, none⟩ = some (.bool f.needed) ∧ w.cell? ⟨b, 2, none⟩ = some (.func (.func f.tF) #[] f.tC) ∧ w.cell? ⟨b, 3, none⟩ = some (.func (.func f.lF) #[] f.lC) ∧ w.cell? ⟨b, 4, none⟩ = some (.func (.func f.rF) #[] f.rC) :=
  ⟨(lit_cell h 0).trans rfl, (lit_cell h 1).trans rfl, (lit_cell h 2).trans rfl, (lit_cell h 3).trans rfl, (lit_cell h 4).trans rfl⟩
/-- what a constructor answers: a field whose closures share a new block that holds a value -/
def Makes (lo : Nat) (fv : Nat → FV) (v : Value) (ty : TypeId) (w : World) (e : Ending) (w' : World) : Prop :=
  ∃ kb, lo ≤ kb ∧ e = .returned (fv kb).val ∧ w'.heap[kb]? = some (.cells #[v] ty (0, 0)) ∧ Below lo w w'

set_option maxRecDepth 100000 in
theorem number_mk (c : UInt8) (t o : Nat) (w : World) : Calls Tryz.prog 83 #[.string ⟨#[c]⟩, .pointer (some ⟨t, o, none⟩)] w (Makes w.heap.size (numFV c) (.pointer (some ⟨t, o, none⟩)) 152 w) := by
  have hmf : ∀ (fn : Fn) (first cap : Array Value) (w : World), (Instr.makeFunc fn first cap).run Tryz.prog w = .ok (.func fn first cap) w := fun _ _ _ _ => rfl
  go_enter Tryz.func83, Tryz.ntmps83
  go_wp2
  have hN : w.heap.size + 1 = (w.alloc (.cells #[.pointer (some ⟨t, o, none⟩)] 152)).heap.size := by simp
  have hW0 : ((w.alloc (.cells #[.pointer (some ⟨t, o, none⟩)] 152)).alloc (.cells (numFV c w.heap.size).cells.toArray 150)).heap[w.heap.size]? = some (.cells #[.pointer (some ⟨t, o, none⟩)] 152 (0, 0)) := lit_old _ (heap_alloc_new _ _)
  have hW1 : ((w.alloc (.cells #[.pointer (some ⟨t, o, none⟩)] 152)).alloc (.cells (numFV c w.heap.size).cells.toArray 150)).heap[w.heap.size + 1]? = some (.cells (numFV c w.heap.size).cells.toArray 150 (0, 0)) := by
    conv => lhs; arg 2; rw [hN]
    exact heap_alloc_new _ _
  have hW2 : Below w.heap.size w ((w.alloc (.cells #[.pointer (some ⟨t, o, none⟩)] 152)).alloc (.cells (numFV c w.heap.size).cells.toArray 150)) := (by0 w _).alloc (by simp) _
  change bodyPost _ _ _ _ _ ((w.alloc (.cells #[.pointer (some ⟨t, o, none⟩)] 152)).alloc (.cells (numFV c w.heap.size).cells.toArray 150))
  generalize (w.alloc (.cells #[.pointer (some ⟨t, o, none⟩)] 152)).alloc (.cells (numFV c w.heap.size).cells.toArray 150) = wf at *
  obtain ⟨z0, z1, z2, z3, z4⟩ := five hW1
  refine bodyPost_ret (v := (numFV c w.heap.size).val) (by simp [results, Tryz.results83, go_sem, z0, z1, z2, z3, z4]) rfl ⟨w.heap.size, Nat.le_refl _, rfl, hW0, hW2⟩
set_option maxRecDepth 100000 in
theorem yes_mk (c : UInt8) (t o : Nat) (w : World) : Calls Tryz.prog 104 #[.string ⟨#[c]⟩, .pointer (some ⟨t, o, none⟩)] w (Makes w.heap.size (yesFV c) (.pointer (some ⟨t, o, none⟩)) 188 w) := by
  have hmf : ∀ (fn : Fn) (first cap : Array Value) (w : World), (Instr.makeFunc fn first cap).run Tryz.prog w = .ok (.func fn first cap) w := fun _ _ _ _ => rfl
  go_enter Tryz.func104, Tryz.ntmps104
  go_wp2
  have hN : w.heap.size + 1 = (w.alloc (.cells #[.pointer (some ⟨t, o, none⟩)] 188)).heap.size := by simp
  have hW0 : ((w.alloc (.cells #[.pointer (some ⟨t, o, none⟩)] 188)).alloc (.cells (yesFV c w.heap.size).cells.toArray 150)).heap[w.heap.size]? = some (.cells #[.pointer (some ⟨t, o, none⟩)] 188 (0, 0)) := lit_old _ (heap_alloc_new _ _)
  have hW1 : ((w.alloc (.cells #[.pointer (some ⟨t, o, none⟩)] 188)).alloc (.cells (yesFV c w.heap.size).cells.toArray 150)).heap[w.heap.size + 1]? = some (.cells (yesFV c w.heap.size).cells.toArray 150 (0, 0)) := by
    conv => lhs; arg 2; rw [hN]
    exact heap_alloc_new _ _
  have hW2 : Below w.heap.size w ((w.alloc (.cells #[.pointer (some ⟨t, o, none⟩)] 188)).alloc (.cells (yesFV c w.heap.size).cells.toArray 150)) := (by0 w _).alloc (by simp) _
  change bodyPost _ _ _ _ _ ((w.alloc (.cells #[.pointer (some ⟨t, o, none⟩)] 188)).alloc (.cells (yesFV c w.heap.size).cells.toArray 150))
  generalize (w.alloc (.cells #[.pointer (some ⟨t, o, none⟩)] 188)).alloc (.cells (yesFV c w.heap.size).cells.toArray 150) = wf at *
  obtain ⟨z0, z1, z2, z3, z4⟩ := five hW1
  refine bodyPost_ret (v := (yesFV c w.heap.size).val) (by simp [results, Tryz.results104, go_sem, z0, z1, z2, z3, z4]) rfl ⟨w.heap.size, Nat.le_refl _, rfl, hW0, hW2⟩
set_option maxRecDepth 100000 in
theorem thing_mk (c : UInt8) (ao : Option Addr) (n cp : Nat) (w : World) : Calls Tryz.prog 102 #[.string ⟨#[c]⟩, .slice ao n cp] w (Makes w.heap.size (thingFV c false) (.slice ao n cp) 95 w) := by
  have hmf : ∀ (fn : Fn) (first cap : Array Value) (w : World), (Instr.makeFunc fn first cap).run Tryz.prog w = .ok (.func fn first cap) w := fun _ _ _ _ => rfl
  go_enter Tryz.func102, Tryz.ntmps102
  go_wp2
  have hN : w.heap.size + 1 = (w.alloc (.cells #[.slice ao n cp] 95)).heap.size := by simp
  have hW0 : ((w.alloc (.cells #[.slice ao n cp] 95)).alloc (.cells (thingFV c false w.heap.size).cells.toArray 150)).heap[w.heap.size]? = some (.cells #[.slice ao n cp] 95 (0, 0)) := lit_old _ (heap_alloc_new _ _)
  have hW1 : ((w.alloc (.cells #[.slice ao n cp] 95)).alloc (.cells (thingFV c false w.heap.size).cells.toArray 150)).heap[w.heap.size + 1]? = some (.cells (thingFV c false w.heap.size).cells.toArray 150 (0, 0)) := by
    conv => lhs; arg 2; rw [hN]
    exact heap_alloc_new _ _
  have hW2 : Below w.heap.size w ((w.alloc (.cells #[.slice ao n cp] 95)).alloc (.cells (thingFV c false w.heap.size).cells.toArray 150)) := (by0 w _).alloc (by simp) _
  change bodyPost _ _ _ _ _ ((w.alloc (.cells #[.slice ao n cp] 95)).alloc (.cells (thingFV c false w.heap.size).cells.toArray 150))
  generalize (w.alloc (.cells #[.slice ao n cp] 95)).alloc (.cells (thingFV c false w.heap.size).cells.toArray 150) = wf at *
  obtain ⟨z0, z1, z2, z3, z4⟩ := five hW1
  refine bodyPost_ret (v := (thingFV c false w.heap.size).val) (by simp [results, Tryz.results102, go_sem, z0, z1, z2, z3, z4]) rfl ⟨w.heap.size, Nat.le_refl _, rfl, hW0, hW2⟩

set_option maxRecDepth 100000 in
theorem always_any (f : FV) (w : World) : Calls Tryz.prog 139 #[f.val] w fun e w' => e = .returned ({ f with needed := true } : FV).val ∧ Below w.heap.size w w' := by
  obtain ⟨key, nd, tF, tC, lF, lC, rF, rC⟩ := f
  go_enter Tryz.func139, Tryz.ntmps139
  go_wp2
  have hN : w.heap.size + 1 = (w.alloc (.cells (⟨key, true, tF, tC, lF, lC, rF, rC⟩ : FV).cells.toArray 150)).heap.size := by simp
  have hW1 : ((w.alloc (.cells (⟨key, true, tF, tC, lF, lC, rF, rC⟩ : FV).cells.toArray 150)).alloc (.cells (⟨key, true, tF, tC, lF, lC, rF, rC⟩ : FV).cells.toArray 150)).heap[w.heap.size + 1]? = some (.cells (⟨key, true, tF, tC, lF, lC, rF, rC⟩ : FV).cells.toArray 150 (0, 0)) := by
    conv => lhs; arg 2; rw [hN]
    exact heap_alloc_new _ _
  have hW2 : Below w.heap.size w ((w.alloc (.cells (⟨key, true, tF, tC, lF, lC, rF, rC⟩ : FV).cells.toArray 150)).alloc (.cells (⟨key, true, tF, tC, lF, lC, rF, rC⟩ : FV).cells.toArray 150)) := (by0 w _).alloc (by simp) _
  change bodyPost _ _ _ _ _ ((w.alloc (.cells (⟨key, true, tF, tC, lF, lC, rF, rC⟩ : FV).cells.toArray 150)).alloc (.cells (⟨key, true, tF, tC, lF, lC, rF, rC⟩ : FV).cells.toArray 150))
  generalize (w.alloc (.cells (⟨key, true, tF, tC, lF, lC, rF, rC⟩ : FV).cells.toArray 150)).alloc (.cells (⟨key, true, tF, tC, lF, lC, rF, rC⟩ : FV).cells.toArray 150) = wf at *
  obtain ⟨z0, z1, z2, z3, z4⟩ := five hW1
  refine bodyPost_ret (v := (⟨key, true, tF, tC, lF, lC, rF, rC⟩ : FV).val) (by simp [results, Tryz.results139, go_sem, z0, z1, z2, z3, z4]) rfl ⟨rfl, hW2⟩

set_option maxRecDepth 100000 in
theorem digest_mk (c : UInt8) (t o : Nat) (w : World) : Calls Tryz.prog 84 #[.string ⟨#[c]⟩, .pointer (some ⟨t, o, none⟩)] w (Makes w.heap.size (digFV c) (.pointer (some ⟨t, o, none⟩)) 154 w) := by
  have hmf : ∀ (fn : Fn) (first cap : Array Value) (w : World), (Instr.makeFunc fn first cap).run Tryz.prog w = .ok (.func fn first cap) w := fun _ _ _ _ => rfl
  have HA := Lib.hid (fun w1 => always_any ⟨c, false, 140, #[ptrV w.heap.size], 141, #[ptrV w.heap.size], 143, #[ptrV w.heap.size]⟩ w1)
  have HN : Hid (w.heap.size + 1 = (w.alloc (.cells #[.pointer (some ⟨t, o, none⟩)] 154)).heap.size) := Lib.hid (by simp)
  have h1 : ((w.alloc (.cells #[.pointer (some ⟨t, o, none⟩)] 154)).alloc (.cells #[.string ⟨#[]⟩, .bool false, .nilFunc, .nilFunc, .nilFunc] 150)).heap[w.heap.size + 1]? = some (.cells #[.string ⟨#[]⟩, .bool false, .nilFunc, .nilFunc, .nilFunc] 150 (0, 0)) := by
    conv => lhs; arg 2; rw [HN.out]
    exact heap_alloc_new _ _
  have HF := Lib.hid h1
  have HK : Hid (((w.alloc (.cells #[.pointer (some ⟨t, o, none⟩)] 154)).alloc (.cells #[.string ⟨#[]⟩, .bool false, .nilFunc, .nilFunc, .nilFunc] 150)).heap[w.heap.size]? = some (.cells #[.pointer (some ⟨t, o, none⟩)] 154 (0, 0))) := Lib.hid (lit_old _ (heap_alloc_new _ _))
  have HB : Hid (Below w.heap.size w ((w.alloc (.cells #[.pointer (some ⟨t, o, none⟩)] 154)).alloc (.cells #[.string ⟨#[]⟩, .bool false, .nilFunc, .nilFunc, .nilFunc] 150))) := Lib.hid ((by0 w _).alloc (by simp) _)
  clear h1
  go_enter Tryz.func84, Tryz.ntmps84
  go_wp2_with (go_at_call 139; refine (HA.out _).mono ?_; rintro e w2 ⟨rfl, hb2⟩; have hf2 := (hb2.block _ (lit_lt HF.out)).trans HF.out; have y0 := (lit_cell hf2 0).trans rfl; have y1 := (lit_cell hf2 1).trans rfl; have y2 := (lit_cell hf2 2).trans rfl; have y3 := (lit_cell hf2 3).trans rfl; have y4 := (lit_cell hf2 4).trans rfl; have q0 := lit_free hf2 0; have q1 := lit_free hf2 1; have q2 := lit_free hf2 2; have q3 := lit_free hf2 3; have q4 := lit_free hf2 4)
  have hk2 := (hb2.block _ (lit_lt HK.out)).trans HK.out
  have hW1 := set5_block (c := w.heap.size + 1) (k := 0) (f := digFV c w.heap.size) hf2
  have hW0 : (set5 w2 (w.heap.size + 1) 0 (digFV c w.heap.size)).heap[w.heap.size]? = some (.cells #[.pointer (some ⟨t, o, none⟩)] 154 (0, 0)) := ((set5_only w2 (w.heap.size + 1) 0 (digFV c w.heap.size)).block _ (lit_lt hk2) (by omega)).trans hk2
  have hb2' : Below w.heap.size w w2 := HB.out.trans (hb2.mono HB.out.size)
  have hW2 : Below w.heap.size w (set5 w2 (w.heap.size + 1) 0 (digFV c w.heap.size)) := hb2'.trans ((set5_only w2 (w.heap.size + 1) 0 (digFV c w.heap.size)).below (by omega) hb2'.size)
  change bodyPost _ _ _ _ _ (set5 w2 (w.heap.size + 1) 0 (digFV c w.heap.size))
  generalize set5 w2 (w.heap.size + 1) 0 (digFV c w.heap.size) = wf at *
  obtain ⟨z0, z1, z2, z3, z4⟩ := five (f := digFV c w.heap.size) hW1
  refine bodyPost_ret (v := (digFV c w.heap.size).val) (by simp [results, Tryz.results84, go_sem, z0, z1, z2, z3, z4]) rfl ⟨w.heap.size, Nat.le_refl _, rfl, hW0, hW2⟩
end Go.Proofs.YtbkiijndhjmkdaaGreatDoor
/- A list that is read: what lies meanwhile; append as a step. -/
namespace Go.Proofs.YtbkiijndhjmkdaaGreatDoor
open Go.RowKit

/-- append to a row of one's own, as one step of a region that draws: where the row lies then -/
theorem step_append_at {P : Program} {w : World} {ops : Array Oper} {o : Oper} {a : Act} {K : Act → World → Prop} {Q : Exit → Act → World → Prop} {E : Prop} (hgd : o.guard = none) (s x : Operand) (t : TypeId)
    (ho : o.op = .call { callee := .builtin .append, args := #[s, x], argTypes := #[t, t] })
    (base : Nat) (e : TypeId) (i : TypeInfo) (z : Value) (size bytes : Nat) (ht : P.underlying t = some (.slice e)) (hi : P.info? e = some i) (hz : i.zero = some z)
    (hsize : i.size = size) (hby : i.bytes = bytes) (hzs : z.cells.size = size) (hsz : 0 < size)
    (v : Value) (n : Nat) (xs : List Value) (hs : a.eval s = v) (hown : w.ownsRow base e size v n xs)
    (ad : Addr) (m c : Nat) (news : List Value) (hx : a.eval x = .slice (some ad) m c) (hl : news.length = m * size) (hnews : ∀ j u, news[j]? = some u → w.cell? (ad.add j) = some u) (h1 : ∀ u ∈ news, u.oneCell' = true)
    (h63 : n + m ≤ maxLen) (hbytes : (n + m) * bytes ≤ 140737488355328) (hbase : base ≤ w.heap.size)
    (h : ∀ v' w', w'.ownsRow base e size v' (n + m) (xs ++ news) → w.grownBy w' v.ownBlock → K (a.put o.dst v') w') :
    if Region.wanted o (yielded ops a.tmps) = true then Oper.wp P o a w K Q else E := by
  have hw : Region.wanted o (yielded ops a.tmps) = true := by simp [Region.wanted, hgd]
  rw [if_pos hw]
  exact wp_append_own w s x t ho base e i z size bytes ht hi hz hsize hby hzs hsz v n xs hs hown ad m c news hx hl hnews h1 h63 hbytes hbase fun v' w' h2 h3 _ => h v' w' h2 h3

/-- what comes of a reading of many, behind some that were read -/
def app {α : Type} (l : List α) (k : Nat) : Res (List α) → Res (List α)
  | .ok (l2, k2) => .ok (l ++ l2, k + k2)
  | .error f => .error f
theorem app_nil {α : Type} (r : Res (List α)) : app [] 0 r = r := by
  cases r with
  | error f => rfl
  | ok q => obtain ⟨l, k⟩ := q; simp [app]
theorem manyG_step {α : Type} (g : (List UInt8) → Nat → Res α) (n : Nat) (left : (List UInt8)) (a : Nat) (l : List α) (d : Nat) : app l d (manyG g (n + 1) left a) = match g left a with
    | .error f => .error f
    | .ok (x, k) => app (l ++ [x]) (d + k) (manyG g n (left.drop k) (a + k)) := by
  rw [manyG]
  cases g left a with
  | error f => rfl
  | ok q =>
    obtain ⟨x, k⟩ := q
    simp only
    cases manyG g n (left.drop k) (a + k) with
    | error f => rfl
    | ok q => obtain ⟨l2, k2⟩ := q; simp [app, Nat.add_assoc]
/-- a list of at most m, also of none -/
def lraw {α : Type} (m : Nat) (g : (List UInt8) → Nat → Res α) (left : (List UInt8)) (a : Nat) : Res (List α) := match takeE 3 left a with
  | .error f => .error f
  | .ok ((n, _), k) => if m < n then .error (3, 0) else app [] k (manyG g n (left.drop k) (a + k))
/-- it, in a field's words -/
def lrd {α : Type} (m : Nat) (g : (List UInt8) → Nat → Res α) (left : (List UInt8)) (a : Nat) : Res (Option (List α)) := match lraw m g left a with
  | .error f => .error f
  | .ok ([], k) => .ok (none, k)
  | .ok (l, k) => .ok (some l, k)
theorem manyG_len {α : Type} (g : (List UInt8) → Nat → Res α) : ∀ (n : Nat) (left : (List UInt8)) (a : Nat) (l : List α) (k : Nat), manyG g n left a = .ok (l, k) → l.length = n
  | 0, _, _, _, _, h => by cases h; rfl
  | n + 1, left, a, l, k, h => by
    rw [manyG] at h
    cases hg : g left a with
    | error f => rw [hg] at h; cases h
    | ok p =>
      obtain ⟨x, k1⟩ := p
      rw [hg] at h
      simp only at h
      cases hm : manyG g n (left.drop k1) (a + k1) with
      | error f => rw [hm] at h; cases h
      | ok q =>
        obtain ⟨l2, k2⟩ := q
        rw [hm] at h
        cases h
        rw [List.length_cons, manyG_len g n _ _ _ _ hm]
theorem listG_lrd {α : Type} (m : Nat) (g : (List UInt8) → Nat → Res α) (left : (List UInt8)) (a : Nat) : listG m g left a = match lrd m g left a with
    | .ok (some v, k) => .ok (v, k)
    | .ok (none, _) => .error (5, 0)
    | .error f => .error f := by
  rw [listG, lrd, lraw]
  cases takeE 3 left a with
  | error f => rfl
  | ok q =>
    obtain ⟨⟨n, t⟩, k⟩ := q
    simp only
    by_cases h1 : m < n
    · rw [if_pos h1, if_pos h1]
    · rw [if_neg h1, if_neg h1]
      by_cases h0 : n = 0
      · subst h0; rfl
      · rw [if_neg h0]
        cases hm : manyG g n (left.drop k) (a + k) with
        | error f => rfl
        | ok q =>
          obtain ⟨l, k2⟩ := q
          have hl := manyG_len g n _ _ _ _ hm
          cases l with
          | nil => exact absurd hl.symm h0
          | cons x l => rfl

/-- what is wanted of the world in which a list is read: where the list is to lie, what the closure captures -/
structure LAt (ka kr t o rb N F : Nat) (C : Array Value) (w : World) : Prop where
  a : Cap ka t o w
  r : w.cell? ⟨kr, 0, none⟩ = some (.func (.func F) #[] C)
  n : w.cell? ⟨N, 0, none⟩ = some (.pointer (some ⟨rb, 0, none⟩))
  l : ka < w.heap.size ∧ kr < w.heap.size ∧ N < w.heap.size ∧ t < w.heap.size
/-- none of these blocks is another -/
structure Apart (ka kr t rb N : Nat) : Prop where
  a : ka ≠ rb ∧ ka ≠ t
  r : kr ≠ rb ∧ kr ≠ t
  n : N ≠ rb ∧ N ≠ t
  t : t ≠ rb
theorem LAt.keep {ka kr t o rb N F : Nat} {C : Array Value} {w w' : World} (h : LAt ka kr t o rb N F C w) (hs : w.heap.size ≤ w'.heap.size) (h1 : w'.heap[ka]? = w.heap[ka]?) (h2 : w'.heap[kr]? = w.heap[kr]?) (h3 : w'.heap[N]? = w.heap[N]?) : LAt ka kr t o rb N F C w' :=
  ⟨(World.cell?_of_block (a := ⟨ka, 0, none⟩) h1).trans h.a, (World.cell?_of_block (a := ⟨kr, 0, none⟩) h2).trans h.r, (World.cell?_of_block (a := ⟨N, 0, none⟩) h3).trans h.n, by have := h.l; omega⟩
theorem LAt.below {ka kr t o rb N F : Nat} {C : Array Value} {w w' : World} (h : LAt ka kr t o rb N F C w) (hb : Below w.heap.size w w') : LAt ka kr t o rb N F C w' := h.keep hb.size (hb.block _ h.l.1) (hb.block _ h.l.2.1) (hb.block _ h.l.2.2.1)
theorem LAt.only {ka kr t o rb N F : Nat} {C : Array Value} {w w' : World} (h : LAt ka kr t o rb N F C w) (ho : Only rb w w') (hp : Apart ka kr t rb N) : LAt ka kr t o rb N F C w' := h.keep ho.size (ho.block _ h.l.1 hp.a.1) (ho.block _ h.l.2.1 hp.r.1) (ho.block _ h.l.2.2.1 hp.n.1)
theorem LAt.set {ka kr t o rb N F : Nat} {C : Array Value} {w : World} (h : LAt ka kr t o rb N F C w) (v : Value) (hp : Apart ka kr t rb N) : LAt ka kr t o rb N F C (w.setCell ⟨t, o, none⟩ v) := h.keep (by simp [World.setCell]) (lit_far v hp.a.2) (lit_far v hp.r.2) (lit_far v hp.n.2)
end Go.Proofs.YtbkiijndhjmkdaaGreatDoor
