/- The law's MultiKnown: the chapter's examples. -/
import Derived.Test.YtfghggfoncfhgaaDoorJ25
import Derived.Laws.MakeOwn
namespace Go.Proofs.YtfghggfoncfhgaaDoor
open Go.RowKit Go.Sort

theorem made_strs (n : Nat) : madeCells (Value.string ⟨#[]⟩).cells n = ((List.replicate n ([] : (List UInt8))).map fun x => Value.string ⟨x.toArray⟩).toArray := by
  apply Array.ext
  · simp [madeCells]
  · intro i h1 h2
    simp [madeCells, Value.cells, Nat.mod_one]
theorem mmake_strs (n : Nat) (hn : n ≤ 100000) (w : World) : (Instr.makeSlice 22 (.int .i64 (n : Int)) (.int .i64 (n : Int))).run Tryd.prog w = .ok (.slice (some ⟨w.heap.size, 0, none⟩) n n) (w.alloc (.cells ((List.replicate n ([] : (List UInt8))).map fun x => Value.string ⟨x.toArray⟩).toArray 9)) := by
  obtain ⟨i0, hi, hz0, hz1, hz2⟩ := info_parts info_str
  have h := run_make (P := Tryd.prog) w 22 9 i0 (.string ⟨#[]⟩) Tryd.underlying22 hi hz0 .i64 .i64 (n : Int) (n : Int) (by omega) (by omega) (by rw [hz2]; omega) (by omega)
  rw [h, hz1, Int.toNat_natCast, Nat.mul_one, made_strs]
/-- objects laid one behind the other -/
def allocAll (w : World) : List Obj → World
  | [] => w
  | o :: l => allocAll (w.alloc o) l
theorem allocAll_below : ∀ (l : List Obj) (w : World), Below w.heap.size w (allocAll w l)
  | [], _ => Below.refl _ _
  | o :: l, w => below_next (by0 w o) (allocAll_below l (w.alloc o))
theorem allocAll_size : ∀ (l : List Obj) (w : World), (allocAll w l).heap.size = w.heap.size + l.length
  | [], _ => rfl
  | o :: l, w => by rw [allocAll, allocAll_size l, World.size_alloc, List.length_cons]; omega
theorem allocAll_at : ∀ (l : List Obj) (w : World) (k : Nat) (o : Obj), l[k]? = some o → (allocAll w l).heap[w.heap.size + k]? = some o
  | [], w, k, o, h => by simp at h
  | x :: l, w, 0, o, h => by
    simp at h
    subst h
    exact ((allocAll_below l (w.alloc x)).block _ (by rw [World.size_alloc]; omega)).trans (heap_alloc_new w x)
  | x :: l, w, k + 1, o, h => by
    have := allocAll_at l (w.alloc x) k o (by simpa using h)
    rwa [World.size_alloc, show w.heap.size + 1 + k = w.heap.size + (k + 1) by omega] at this
/-- Prove of any tree and positions, how many digests it answers, and which error -/
theorem prove_row (L : List (List UInt8)) (t : Nat) (ao : Option Addr) (P : List Nat) (n sz er : Nat) (w : World) (hT : TreeM L w t) (hN : Nums ao P w) (hn : P.length = n) (hp : n ≤ 49) (h : (standsP P L.length = true ∧ sizeD P L.length = sz ∧ er = 0) ∨ (standsP P L.length = false ∧ sz = 0 ∧ er = 2)) :
    Calls Tryd.prog 10 #[.pointer (some ⟨t, 0, none⟩), .slice ao n n] w fun e w' => ∃ bo cp, e = .returned (.tuple #[.slice bo sz cp, .int .i64 (er : Int)]) ∧ Below w.heap.size w w' := by
  subst hn
  rcases h with ⟨h1, h2, rfl⟩ | ⟨h1, rfl, rfl⟩
  · refine (prove_good L t ao P.length P w hT hN hp h1).mono fun e w' ⟨v, g1, g2, g3⟩ => ?_
    obtain ⟨po, cp, rfl, _⟩ := strs_of_row g2
    exact ⟨po, cp, by rw [g1, sizeD_eq, h2]; rfl, g3⟩
  · exact (prove_bad L t ao P.length P w hT hN (by omega) h1).mono fun e w' ⟨g1, g3⟩ => ⟨none, 0, g1, g3⟩
/-- a row of the law's table -/
structure KRow where
  t : Option Addr
  p : Option Addr
  n : Nat
  sz : Nat
  er : Nat
def KRow.cells (r : KRow) : List Value := [.pointer r.t, .slice r.p r.n r.n, .int .i64 (r.sz : Int), .int .i64 (r.er : Int)]
theorem flat_cell : ∀ (l : List KRow) (i : Nat) (h : i < l.length) (j : Nat), j < 4 → (l.flatMap KRow.cells)[4 * i + j]? = (l[i].cells)[j]?
  | r :: l, 0, _, j, hj => by
    rw [List.flatMap_cons, List.getElem?_append_left (by simp [KRow.cells]; omega)]
    simp
  | r :: l, i + 1, h, j, hj => by
    rw [List.flatMap_cons, List.getElem?_append_right (by simp [KRow.cells]; omega)]
    have := flat_cell l i (by simpa using h) j hj
    rw [show 4 * (i + 1) + j - r.cells.length = 4 * i + j by simp [KRow.cells]; omega]
    simpa using this

def krows (B t5 t8 t1 : Nat) : List KRow := [⟨some ⟨t1, 0, none⟩, some ⟨B + 0, 0, none⟩, 1, 0, 0⟩, ⟨some ⟨t5, 0, none⟩, some ⟨B + 1, 0, none⟩, 1, 3, 0⟩, ⟨some ⟨t5, 0, none⟩, some ⟨B + 2, 0, none⟩, 2, 4, 0⟩, ⟨some ⟨t5, 0, none⟩, some ⟨B + 3, 0, none⟩, 2, 2, 0⟩, ⟨some ⟨t8, 0, none⟩, some ⟨B + 4, 0, none⟩, 8, 0, 0⟩, ⟨some ⟨t5, 0, none⟩, none, 0, 0, 2⟩, ⟨some ⟨t5, 0, none⟩, some ⟨B + 5, 0, none⟩, 2, 0, 2⟩, ⟨some ⟨t5, 0, none⟩, some ⟨B + 6, 0, none⟩, 2, 0, 2⟩, ⟨some ⟨t5, 0, none⟩, some ⟨B + 7, 0, none⟩, 1, 0, 2⟩, ⟨none, some ⟨B + 8, 0, none⟩, 1, 0, 1⟩]
def kobjs : List Obj := [.cells #[.int .u64 0] 23, .cells #[.int .u64 0] 23, .cells #[.int .u64 0, .int .u64 1] 23, .cells #[.int .u64 0, .int .u64 4] 23, .cells #[.int .u64 0, .int .u64 1, .int .u64 2, .int .u64 3, .int .u64 4, .int .u64 5, .int .u64 6, .int .u64 7] 23, .cells #[.int .u64 1, .int .u64 0] 23, .cells #[.int .u64 1, .int .u64 1] 23, .cells #[.int .u64 5] 23, .cells #[.int .u64 0] 23]
def ktab (B t5 t8 t1 : Nat) : Obj := .cells ((krows B t5 t8 t1).flatMap KRow.cells).toArray 43
abbrev L5 : List (List UInt8) := List.replicate 5 []
abbrev L8 : List (List UInt8) := List.replicate 8 []
abbrev L1 : List (List UInt8) := [[120]]
theorem krow_any (w3 : World) (t5 t8 t1 : Nat) (wz : World) (hb : Below (allocAll w3 kobjs).heap.size (allocAll w3 kobjs) wz) (h5 : TreeM L5 wz t5) (h8 : TreeM L8 wz t8) (h1 : TreeM L1 wz t1) : ∀ i (h : i < 10),
    Calls Tryd.prog 10 #[.pointer ((krows w3.heap.size t5 t8 t1)[i]'h).t, .slice ((krows w3.heap.size t5 t8 t1)[i]'h).p ((krows w3.heap.size t5 t8 t1)[i]'h).n ((krows w3.heap.size t5 t8 t1)[i]'h).n] wz fun e w' => ∃ bo cp, e = .returned (.tuple #[.slice bo ((krows w3.heap.size t5 t8 t1)[i]'h).sz cp, .int .i64 (((krows w3.heap.size t5 t8 t1)[i]'h).er : Int)]) ∧ Below wz.heap.size wz w' := by
  have hn : ∀ (k : Nat) (V : List Nat), kobjs[k]? = some (.cells (V.map encU).toArray 23 (0, 0)) → Nums (some ⟨w3.heap.size + k, 0, none⟩) V wz := fun k V h => nums_lit ((hb.block _ (by rw [allocAll_size]; have := (List.getElem?_eq_some_iff.1 h).1; omega)).trans (allocAll_at kobjs w3 k _ h)) rfl
  intro i h
  match i, h with
  | 0, _ => exact prove_row L1 t1 (some ⟨w3.heap.size + 0, 0, none⟩) [0] 1 0 0 wz h1 (hn 0 [0] rfl) rfl (by decide) (.inl ⟨by decide +kernel, by decide +kernel, rfl⟩)
  | 1, _ => exact prove_row L5 t5 (some ⟨w3.heap.size + 1, 0, none⟩) [0] 1 3 0 wz h5 (hn 1 [0] rfl) rfl (by decide) (.inl ⟨by decide +kernel, by decide +kernel, rfl⟩)
  | 2, _ => exact prove_row L5 t5 (some ⟨w3.heap.size + 2, 0, none⟩) [0, 1] 2 4 0 wz h5 (hn 2 [0, 1] rfl) rfl (by decide) (.inl ⟨by decide +kernel, by decide +kernel, rfl⟩)
  | 3, _ => exact prove_row L5 t5 (some ⟨w3.heap.size + 3, 0, none⟩) [0, 4] 2 2 0 wz h5 (hn 3 [0, 4] rfl) rfl (by decide) (.inl ⟨by decide +kernel, by decide +kernel, rfl⟩)
  | 4, _ => exact prove_row L8 t8 (some ⟨w3.heap.size + 4, 0, none⟩) [0, 1, 2, 3, 4, 5, 6, 7] 8 0 0 wz h8 (hn 4 [0, 1, 2, 3, 4, 5, 6, 7] rfl) rfl (by decide) (.inl ⟨by decide +kernel, by decide +kernel, rfl⟩)
  | 5, _ => exact prove_row L5 t5 none [] 0 0 2 wz h5 (.inl rfl) rfl (by decide) (.inr ⟨by decide +kernel, rfl, rfl⟩)
  | 6, _ => exact prove_row L5 t5 (some ⟨w3.heap.size + 5, 0, none⟩) [1, 0] 2 0 2 wz h5 (hn 5 [1, 0] rfl) rfl (by decide) (.inr ⟨by decide +kernel, rfl, rfl⟩)
  | 7, _ => exact prove_row L5 t5 (some ⟨w3.heap.size + 6, 0, none⟩) [1, 1] 2 0 2 wz h5 (hn 6 [1, 1] rfl) rfl (by decide) (.inr ⟨by decide +kernel, rfl, rfl⟩)
  | 8, _ => exact prove_row L5 t5 (some ⟨w3.heap.size + 7, 0, none⟩) [5] 1 0 2 wz h5 (hn 7 [5] rfl) rfl (by decide) (.inr ⟨by decide +kernel, rfl, rfl⟩)
  | 9, _ => exact (prove_none _ wz).mono fun e w' ⟨g1, g3⟩ => ⟨none, 0, g1, g3 ▸ Below.refl _ _⟩
theorem ksmall (B t5 t8 t1 : Nat) : ∀ i (h : i < 10), ((krows B t5 t8 t1)[i]'h).sz ≤ 10 ∧ ((krows B t5 t8 t1)[i]'h).er ≤ 10 := by
  intro i h
  match i, h with
  | 0, _ | 1, _ | 2, _ | 3, _ | 4, _ | 5, _ | 6, _ | 7, _ | 8, _ | 9, _ => exact ⟨by simp [krows], by simp [krows]⟩
set_option maxRecDepth 100000 in
set_option maxHeartbeats 4000000 in
theorem multiKnown_any (w : World) (hg : Glob w) : Calls Tryd.prog 5 #[] w fun e w' => e = .returned (.bool true) ∧ Below w.heap.size w w' := by
  have HM5 := Lib.hid (fun wz => mmake_strs 5 (by decide) wz)
  have HM8 := Lib.hid (fun wz => mmake_strs 8 (by decide) wz)
  have HB5 := Lib.hid (show ∀ wz, Wl w wz → Calls Tryd.prog 8 #[.slice (some ⟨wz.heap.size, 0, none⟩) 5 5] (wz.alloc (.cells (L5.map fun x => Value.string ⟨x.toArray⟩).toArray 9)) (fun e w' => ∃ t, e = .returned (.tuple #[.pointer (some ⟨t, 0, none⟩), .int .i64 0]) ∧ TreeM L5 w' t ∧ Below wz.heap.size wz w') from fun wz h => (build_any (some ⟨wz.heap.size, 0, none⟩) 5 L5 _ (h.g.below h.g.size (by0 wz _)) (strs_new wz L5 _ rfl) (by decide) (by decide)).mono fun e w' ⟨t, h1, h2, _, h3⟩ => ⟨t, h1, h2, below_next (by0 wz _) h3⟩)
  have HB8 := Lib.hid (show ∀ wz, Wl w wz → Calls Tryd.prog 8 #[.slice (some ⟨wz.heap.size, 0, none⟩) 8 8] (wz.alloc (.cells (L8.map fun x => Value.string ⟨x.toArray⟩).toArray 9)) (fun e w' => ∃ t, e = .returned (.tuple #[.pointer (some ⟨t, 0, none⟩), .int .i64 0]) ∧ TreeM L8 w' t ∧ Below wz.heap.size wz w') from fun wz h => (build_any (some ⟨wz.heap.size, 0, none⟩) 8 L8 _ (h.g.below h.g.size (by0 wz _)) (strs_new wz L8 _ rfl) (by decide) (by decide)).mono fun e w' ⟨t, h1, h2, _, h3⟩ => ⟨t, h1, h2, below_next (by0 wz _) h3⟩)
  have HB1 := Lib.hid (show ∀ wz, Wl w wz → Calls Tryd.prog 8 #[.slice (some ⟨wz.heap.size, 0, none⟩) 1 1] (wz.alloc (.cells #[.string ⟨#[120]⟩] 9)) (fun e w' => ∃ t, e = .returned (.tuple #[.pointer (some ⟨t, 0, none⟩), .int .i64 0]) ∧ TreeM L1 w' t ∧ Below wz.heap.size wz w') from fun wz h => (build_any (some ⟨wz.heap.size, 0, none⟩) 1 L1 _ (h.g.below h.g.size (by0 wz _)) (strs_new wz L1 _ rfl) (by decide) (by decide)).mono fun e w' ⟨t, h1, h2, _, h3⟩ => ⟨t, h1, h2, below_next (by0 wz _) h3⟩)
  obtain ⟨C5, hC5⟩ : ∃ C5, C5 = (L5.map fun x => Value.string ⟨x.toArray⟩).toArray := ⟨_, rfl⟩
  obtain ⟨C8, hC8⟩ : ∃ C8, C8 = (L8.map fun x => Value.string ⟨x.toArray⟩).toArray := ⟨_, rfl⟩
  rw [← hC5] at HB5
  rw [← hC8] at HB8
  have hm5 : (Instr.makeSlice 22 (.int .i64 5) (.int .i64 5)).run Tryd.prog w = .ok (.slice (some ⟨w.heap.size, 0, none⟩) 5 5) (w.alloc (.cells C5 9)) := by rw [hC5]; exact HM5.out w
  have HM8' := Lib.hid (show ∀ wz, (Instr.makeSlice 22 (.int .i64 8) (.int .i64 8)).run Tryd.prog wz = .ok (.slice (some ⟨wz.heap.size, 0, none⟩) 8 8) (wz.alloc (.cells C8 9)) by rw [hC8]; exact fun wz => HM8.out wz)
  have K := Lib.hid (show Wl w w from ⟨hg, Below.refl _ _⟩)
  clear hg hC5 hC8 HM5 HM8
  go_enter Tryd.func5, Tryd.ntmps5
  go_upto_region 2 with (go_at_call 8; with_reducible refine (HB5.out _ K.out).mono ?_; rintro e w1 ⟨t5, rfl, hT, hb⟩; have K := Lib.hid (K.out.next hb); have T5 := Lib.hid hT; clear hT hb)
  have hm8 := HM8'.out w1
  clear hm5
  go_upto_region 3 with (go_at_call 8; with_reducible refine (HB8.out _ K.out).mono ?_; rintro e w2 ⟨t8, rfl, hT, hb⟩; have K := Lib.hid (K.out.next hb); have T5 := Lib.hid (T5.out.below hb); have T8 := Lib.hid hT; clear hT hb)
  clear hm8 HM8'
  go_upto_region 6 with (go_at_call 8; with_reducible refine (HB1.out _ K.out).mono ?_; rintro e w3 ⟨t1, rfl, hT, hb⟩; have K := Lib.hid (K.out.next hb); have T5 := Lib.hid (T5.out.below hb); have T8 := Lib.hid (T8.out.below hb); have T1 := Lib.hid hT; clear hT hb)
  clear HB5 HB8 HB1
  go_wp2
  change Code.wp _ _ _ _ (allocAll w3 (kobjs ++ [ktab w3.heap.size t5 t8 t1]))
  have HZ := Lib.hid (allocAll_size (kobjs ++ [ktab w3.heap.size t5 t8 t1]) w3)
  have HTB := Lib.hid (allocAll_at (kobjs ++ [ktab w3.heap.size t5 t8 t1]) w3 9 (ktab w3.heap.size t5 t8 t1) rfl)
  have hbT := allocAll_below (kobjs ++ [ktab w3.heap.size t5 t8 t1]) w3
  have HK0 := Lib.hid (show Below (allocAll w3 kobjs).heap.size (allocAll w3 kobjs) (allocAll w3 (kobjs ++ [ktab w3.heap.size t5 t8 t1])) from by0 (allocAll w3 kobjs) (ktab w3.heap.size t5 t8 t1))
  have K := Lib.hid (K.out.next hbT)
  have T5 := Lib.hid (T5.out.below hbT)
  have T8 := Lib.hid (T8.out.below hbT)
  have T1 := Lib.hid (T1.out.below hbT)
  generalize allocAll w3 (kobjs ++ [ktab w3.heap.size t5 t8 t1]) = wT at *
  clear hbT
  go_loopw [72] (fun v72 wr => ∃ k : Nat, k ≤ 10 ∧ v72 = .int .i64 (k : Int) ∧ Hid (Below wT.heap.size wT wr)) (fun v72 _ => 10 - (intOf v72).toNat)
  case atStart => exact ⟨0, by omega, rfl, Lib.hid (Below.refl _ _)⟩
  case round =>
    obtain ⟨k, hk, rfl, HB⟩ := hrel
    by_cases hlt : k < 10
    · have k0 : (0 : Int) ≤ (k : Int) := by omega
      have k1 : (k : Int) < 10 := by omega
      have hcs : ∀ j, j < 4 → wr.cell? ⟨w3.heap.size + 9, k * 4 + j, none⟩ = (((krows w3.heap.size t5 t8 t1)[k]'hlt).cells)[j]? := fun j hj => by
        have h1 := (HB.out.block _ (by rw [HZ.out]; show w3.heap.size + 9 < w3.heap.size + 10; omega)).trans HTB.out
        rw [lit_cell h1, Nat.mul_comm k 4, List.getElem?_toArray]
        exact flat_cell (krows w3.heap.size t5 t8 t1) k hlt j hj
      have HPR := Lib.hid (fun wz (h : Below wT.heap.size wT wz) => krow_any w3 t5 t8 t1 wz (HK0.out.trans (h.mono HK0.out.size)) (T5.out.below h) (T8.out.below h) (T1.out.below h) k hlt)
      have hsmall : ((krows w3.heap.size t5 t8 t1)[k]'hlt).sz ≤ 10 ∧ ((krows w3.heap.size t5 t8 t1)[k]'hlt).er ≤ 10 := ksmall _ _ _ _ k hlt
      generalize (krows w3.heap.size t5 t8 t1)[k]'hlt = r at *
      obtain ⟨tp, pp, n, sz, er⟩ := r
      have d0 := hcs 0 (by decide)
      have d1 := hcs 1 (by decide)
      have d2 := hcs 2 (by decide)
      have d3 := hcs 3 (by decide)
      simp only [KRow.cells, List.getElem?_cons_zero, List.getElem?_cons_succ, Nat.add_zero] at d0 d1 d2 d3
      simp only [] at HPR
      have d0 : wr.cell? ⟨w3.heap.size + 1 + 1 + 1 + 1 + 1 + 1 + 1 + 1 + 1, k * 4, none⟩ = some (.pointer tp) := d0
      have d1 : wr.cell? ⟨w3.heap.size + 1 + 1 + 1 + 1 + 1 + 1 + 1 + 1 + 1, k * 4 + 1, none⟩ = some (.slice pp n n) := d1
      have d2 : wr.cell? ⟨w3.heap.size + 1 + 1 + 1 + 1 + 1 + 1 + 1 + 1 + 1, k * 4 + 2, none⟩ = some (.int .i64 (sz : Int)) := d2
      have d3 : wr.cell? ⟨w3.heap.size + 1 + 1 + 1 + 1 + 1 + 1 + 1 + 1 + 1, k * 4 + 3, none⟩ = some (.int .i64 (er : Int)) := d3
      have HBA := Lib.hid (HB.out.trans ((by0 wr (.cells #[.pointer tp, .slice pp n n, .int .i64 (sz : Int), .int .i64 (er : Int)] 43)).mono HB.out.size))
      clear hcs
      go_wp2_with (go_at_call 10; refine (HPR.out _ HBA.out).mono ?_; rintro e w5 ⟨bo, cq, rfl, hb5⟩; have HB5 := Lib.hid (HBA.out.trans (hb5.mono HBA.out.size)); have e2 := (hb5.cell (p := ⟨wr.heap.size, 2, none⟩) (by simp)).trans (show (wr.alloc (.cells #[.pointer tp, .slice pp n n, .int .i64 (sz : Int), .int .i64 (er : Int)] 43)).cell? ⟨wr.heap.size, 2, none⟩ = some (.int .i64 (sz : Int)) from (lit_cell (heap_alloc_new wr _) 2).trans rfl); have e3 := (hb5.cell (p := ⟨wr.heap.size, 3, none⟩) (by simp)).trans (show (wr.alloc (.cells #[.pointer tp, .slice pp n n, .int .i64 (sz : Int), .int .i64 (er : Int)] 43)).cell? ⟨wr.heap.size, 3, none⟩ = some (.int .i64 (er : Int)) from (lit_cell (heap_alloc_new wr _) 3).trans rfl); clear hb5)
      go_roundw
      case rel => exact ⟨k + 1, by omega, by go_num, HB5⟩
      case measure => simp [intOf] <;> omega
    · have k1 : ¬ (k : Int) < 10 := by omega
      have K := Lib.hid (show Wl w wr from K.out.next HB.out)
      have HS1 := Lib.hid (show ∀ wz, Calls Tryd.prog 11 #[.int .i64 65536, .slice (some ⟨wz.heap.size, 0, none⟩) 1 1] (wz.alloc (.cells #[.int .u64 65535] 23)) (fun e w' => e = .returned (.tuple #[.int .i64 16, .int .i64 0]) ∧ Below wz.heap.size wz w') from fun wz => by
        have h := size_good 65536 (by decide) (some ⟨wz.heap.size, 0, none⟩) 1 [65535] (wz.alloc (.cells #[.int .u64 65535] 23)) (nums_lit (heap_alloc_new wz _) rfl) (by decide) (by decide +kernel)
        rw [size_one (by decide) (by decide), show dep 65536 = 16 by decide +kernel] at h
        exact h.mono fun e w' ⟨g1, g2⟩ => ⟨g1, below_next (by0 wz _) g2⟩)
      have HS2 := Lib.hid (show ∀ wz, Calls Tryd.prog 11 #[.int .i64 65537, .slice (some ⟨wz.heap.size, 0, none⟩) 1 1] (wz.alloc (.cells #[.int .u64 1] 23)) (fun e w' => e = .returned (.tuple #[.int .i64 0, .int .i64 2]) ∧ Below wz.heap.size wz w') from fun wz =>
        (size_bad 65537 (by decide) (some ⟨wz.heap.size, 0, none⟩) 1 [1] (wz.alloc (.cells #[.int .u64 1] 23)) (nums_lit (heap_alloc_new wz _) rfl) (by decide) (.inr (.inl (by decide)))).mono fun e w' ⟨g1, g2⟩ => ⟨g1, below_next (by0 wz _) g2⟩)
      have HS3 := Lib.hid (show ∀ wz, Calls Tryd.prog 11 #[.int .i64 0, .slice (some ⟨wz.heap.size, 0, none⟩) 1 1] (wz.alloc (.cells #[.int .u64 0] 23)) (fun e w' => e = .returned (.tuple #[.int .i64 0, .int .i64 2]) ∧ Below wz.heap.size wz w') from fun wz =>
        (size_bad 0 (by decide) (some ⟨wz.heap.size, 0, none⟩) 1 [0] (wz.alloc (.cells #[.int .u64 0] 23)) (nums_lit (heap_alloc_new wz _) rfl) (by decide) (.inr (.inr (by decide)))).mono fun e w' ⟨g1, g2⟩ => ⟨g1, below_next (by0 wz _) g2⟩)
      have HW := Lib.hid (fun wz (h : Wl w wz) => works10_any wz h.g)
      clear HB HZ HTB HK0 T5 T8 T1
      go_wp2_with (first
        | (go_at_call 11; with_reducible refine (HS1.out _).mono ?_; rintro e wn ⟨rfl, bn⟩; have K := Lib.hid (K.out.next bn); clear bn)
        | (go_at_call 11; with_reducible refine (HS2.out _).mono ?_; rintro e wn ⟨rfl, bn⟩; have K := Lib.hid (K.out.next bn); clear bn)
        | (go_at_call 11; with_reducible refine (HS3.out _).mono ?_; rintro e wn ⟨rfl, bn⟩; have K := Lib.hid (K.out.next bn); clear bn)
        | (go_at_call 6; refine (HW.out _ K.out).mono ?_; rintro e wn ⟨rfl, bn⟩; have K := Lib.hid (K.out.next bn); clear bn))
      exact bodyPost_ret (v := .bool true) (by simp [results, Tryd.results5, go_sem]) rfl ⟨rfl, K.out.o⟩
end Go.Proofs.YtfghggfoncfhgaaDoor
