/- Uint64 of a stream, and Below where no number is passed over. -/
import Derived.Test.YtilcgafnkihjcaaDoorSc
import Derived.Laws.EntriesVeiled
namespace Go.Proofs.YtilcgafnkihjcaaDoor
open Go.RowKit
attribute [local go_sem] Oper.semAt_some

theorem or_256 (a c : Nat) (ha : a < 72057594037927936) (hc : c < 256) : bits BinOp.or IntKind.u64 ((a : Int) * (256 : Int)) (c : Int) = ((a * 256 + c : Nat) : Int) := by
  have e : bits BinOp.or IntKind.u64 ((a : Int) * (256 : Int)) (c : Int) = IntKind.u64.wrap ((BitVec.ofInt 64 ((a : Int) * (256 : Int)) ||| BitVec.ofInt 64 (c : Int)).toNat : Int) := rfl
  have ea : ((a : Int) * (256 : Int)) = ((a * 256 : Nat) : Int) := by rw [Int.natCast_mul]; rfl
  rw [e, wrap_u64, ea, BitVec.ofInt_natCast, BitVec.ofInt_natCast, BitVec.toNat_or, BitVec.toNat_ofNat, BitVec.toNat_ofNat, Nat.mod_eq_of_lt (by omega), Nat.mod_eq_of_lt (by omega)]
  have h := Nat.shiftLeft_add_eq_or_of_lt (i := 8) (b := c) (by omega) a
  rw [Nat.shiftLeft_eq] at h
  rw [← h]
  omega

set_option maxHeartbeats 1000000 in
theorem put_any (A a c : Nat) (w : World) (ha : a < 72057594037927936) (hc : c < 256) (h1 : w.cell? ⟨A, 0, none⟩ = some (.int .u64 (a : Int))) (h2 : w.frozen? ⟨A, 0, none⟩ = false) :
    Calls Tryd.prog 24 #[.int .u8 (c : Int), .pointer (some ⟨A, 0, none⟩)] w fun e w' => e = .returned (.tuple #[]) ∧ w' = w.setCell ⟨A, 0, none⟩ (.int .u64 ((a * 256 + c : Nat) : Int)) := by
  have HO := Lib.hid (or_256 a c ha hc)
  go_enter Tryd.func24, Tryd.ntmps24
  go_wp2
  refine bodyPost_end (results_none rfl _ _ _) rfl ?_
  exact ⟨rfl, by rw [HO.out]⟩

/-- four blocks that were just made -/
theorem four (w : World) (o0 o1 o2 o3 : Obj) {W0 : World} (h : (((w.alloc o0).alloc o1).alloc o2).alloc o3 = W0) :
    W0.heap.size = w.heap.size + 4 ∧ Below w.heap.size w W0 ∧ W0.heap[w.heap.size]? = some o0 ∧ W0.heap[w.heap.size + 1]? = some o1 ∧ W0.heap[w.heap.size + 2]? = some o2 ∧ W0.heap[w.heap.size + 3]? = some o3 := by
  subst h
  refine ⟨by simp, ((((Below.refl _ w).alloc (Nat.le_refl _) _).alloc (by simp) _).alloc (by simp; omega) _).alloc (by simp; omega) _, ?_, ?_, ?_, ?_⟩
  · exact ((Below.heap_alloc _ _ _ (by simp only [World.size_alloc]; omega)).trans ((Below.heap_alloc _ _ _ (by simp only [World.size_alloc]; omega)).trans (Below.heap_alloc _ _ _ (by simp only [World.size_alloc]; omega)))).trans (heap_alloc_new w _)
  · have h := heap_alloc_new (w.alloc o0) o1
    rw [World.size_alloc] at h
    exact ((Below.heap_alloc _ _ _ (by simp only [World.size_alloc]; omega)).trans (Below.heap_alloc _ _ _ (by simp only [World.size_alloc]; omega))).trans h
  · have h := heap_alloc_new ((w.alloc o0).alloc o1) o2
    rw [World.size_alloc, World.size_alloc] at h
    exact (Below.heap_alloc _ _ _ (by simp only [World.size_alloc]; omega)).trans h
  · have h := heap_alloc_new (((w.alloc o0).alloc o1).alloc o2) o3
    rw [World.size_alloc, World.size_alloc, World.size_alloc] at h
    exact h

/-- the number that eight bytes from a place on say -/
def numAt (seed : List UInt8) (p : Nat) : Nat := numberL (drawL seed p 8)
theorem numberL_drawL (seed : List UInt8) (p k : Nat) : numberL (drawL seed p (k + 1)) = numberL (drawL seed p k) * 256 + (byteL seed (p + k)).toNat := by
  rw [drawL_succ, numberL, List.foldl_append]; rfl
theorem numberL_drawL_lt (seed : List UInt8) (p : Nat) : ∀ k, numberL (drawL seed p k) < 256 ^ k
  | 0 => by simp [drawL, numberL]
  | k + 1 => by
    rw [numberL_drawL, Nat.pow_succ]
    have := numberL_drawL_lt seed p k
    have := (byteL seed (p + k)).toNat_lt
    omega

set_option maxRecDepth 100000 in
set_option maxHeartbeats 2000000 in
theorem sUint64_any (b : Nat) (seed : List UInt8) (hseed : seed.length = 32) (p : Nat) (w : World) (hst : StAt b seed p w) (hg : Glob w) (hb : 2 ≤ b) (hp : p + 8 < 18446744073709551616) :
    Calls Tryd.prog 12 #[.pointer (some ⟨b, 0, none⟩)] w fun e w' => e = .returned (.int .u64 (numAt seed p : Int)) ∧ StAt b seed (p + 8) w' ∧ But b w w' := by
  have HST := Lib.hid hst
  have HG := Lib.hid hg
  clear hst hg
  refine calls_of_wp_marks Tryd.func12 rfl ?_
  simp only [Tryd.ntmps12, List.size_toArray, List.length_cons, List.length_nil, Nat.reduceAdd, Nat.reduceSub, Array.replicate_succ, Array.replicate_zero, List.push_toArray, List.append_toArray, List.nil_append, List.cons_append]
  go_wp2_with (go_at_call 21; refine (sDraw_any b 8 _).mono ?_; rintro e w' ⟨rfl, rfl⟩)
  obtain ⟨W0, hW0⟩ : ∃ W0, ((((w.alloc (Obj.cells #[Value.int IntKind.u64 0] 31)).alloc (Obj.cells #[Value.func (Fn.func 24) #[] #[Value.pointer (some ⟨w.heap.size, 0, none⟩)]] 58)).alloc (Obj.cells #[Value.pointer (some ⟨b, 0, none⟩)] 23)).alloc (Obj.cells #[Value.int IntKind.i64 8] 3)) = W0 := ⟨_, rfl⟩
  rw [hW0]
  have hblt : b < w.heap.size := HST.out.lt
  obtain ⟨hz, hB0, g0, g1, g2, g3⟩ := four w _ _ _ _ hW0
  refine wp_rangeFunc_hands (gf := 29) (lb := #[.pointer (some ⟨w.heap.size + 3, 0, none⟩), .pointer (some ⟨w.heap.size + 2, 0, none⟩)]) rfl (enters_of Tryd.func29 (by kernel_rfl) rfl)
    (draw1_hands b (w.heap.size + 3) (w.heap.size + 2) seed hseed p 8 hp (by omega) hb (by omega) (by omega)) (fun _ => rfl) [w.heap.size, w.heap.size + 1]
    (fun j hj => by simp at hj; omega) (by omega)
    (fun k W W' h e => h.same (e 0 (by omega) (notin2 (by omega) (by omega))) (e 1 (by omega) (notin2 (by omega) (by omega))) (e b (by omega) (notin2 (by omega) (by omega))) (e _ (by omega) (notin2 (by omega) (by omega))) (e _ (by omega) (notin2 (by omega) (by omega))))
    ⟨HST.out.same (hB0.block b hblt), HG.out.below (by omega) hB0, cell_of_row _ _ _ _ 3 _ g3, cell_of_row _ _ _ _ 23 _ g2⟩
    (fun k W => (W.cell? ⟨w.heap.size, 0, none⟩ = some (.int .u64 (numberL (drawL seed p k) : Int)) ∧ W.frozen? ⟨w.heap.size, 0, none⟩ = false) ∧ W.cell? ⟨w.heap.size + 1, 0, none⟩ = some (.func (.func 24) #[] #[.pointer (some ⟨w.heap.size, 0, none⟩)]))
    (fun k W W' h e => ⟨⟨(World.cell?_of_block (a := ⟨w.heap.size, 0, none⟩) (e _ (by simp))).trans h.1.1, (World.frozen?_of_block (a := ⟨w.heap.size, 0, none⟩) (e _ (by simp))).trans h.1.2⟩, (World.cell?_of_block (a := ⟨w.heap.size + 1, 0, none⟩) (e _ (by simp))).trans h.2⟩)
    ⟨⟨cell_of_row _ _ _ _ 31 _ g0, frozen_of_row _ _ _ _ 31 g0⟩, cell_of_row _ _ _ _ 58 _ g1⟩
    (fun y => { tmps := #[.pointer (some ⟨b, 0, none⟩), undef, .int .u64 0, .pointer (some ⟨w.heap.size, 0, none⟩), .pointer (some ⟨w.heap.size + 1, 0, none⟩), .int .u8 (y.toNat : Int), .pointer (some ⟨b, 0, none⟩), .bool false,
          .func (.func 24) #[] #[.pointer (some ⟨w.heap.size, 0, none⟩)], .pointer (some ⟨b, 0, none⟩), .func (.func 29) #[] #[.pointer (some ⟨w.heap.size + 1 + 1 + 1, 0, none⟩), .pointer (some ⟨w.heap.size + 1 + 1, 0, none⟩)], .int .u8 (y.toNat : Int), undef, undef, undef, undef], defers := [] }) ?assign ?body ?done
  case assign =>
    intro l x W K hK
    gi_wp2
    exact hK
  case body =>
    rintro l k W hk hWz ⟨⟨hc, hf⟩, hfn⟩
    have HS := Lib.hid (numberL_drawL seed p k)
    have hlt := numberL_drawL_lt seed p k
    have h7 : (256 : Nat) ^ k ≤ 256 ^ 7 := Nat.pow_le_pow_right (by omega) (by omega)
    have h77 : (256 : Nat) ^ 7 = 72057594037927936 := by decide
    have hx8 := (byteL seed (p + k)).toNat_lt
    generalize (byteL seed (p + k)).toNat = c at *
    generalize numberL (drawL seed p k) = a at *
    have ha : a < 72057594037927936 := by omega
    have hc8 : c < 256 := by omega
    clear hx8 h7 h77 hlt
    gi_wp2
    refine ⟨trivial, rfl, ?_⟩
    refine (CallsIn.inRound l (callsIn_wide.2 (put_any w.heap.size a c W ha hc8 hc hf))).mono ?_
    rintro e w' ⟨rfl, rfl⟩
    gi_wp2
    refine ⟨(ButS.refl _ W).setCell w.heap.size 0 _ (by simp), ⟨?_, by rw [World.frozen?_setCell]; exact hf⟩, ?_⟩
    · rw [HS.out]; exact World.cell?_setCell_same' _ _ _ (by rw [hc]; rfl)
    · exact (World.cell?_setCell_far _ _ _ _ (by show w.heap.size ≠ w.heap.size + 1; omega)).trans hfn
  case done =>
    rintro W ⟨⟨hc, hf⟩, hfn⟩ hpos hbut hD
    have HST2 := Lib.hid hpos.1
    have hb1 : ButS [b] w W := (ButS.of_below hB0).forget hbut (fun j hj => by simp only [List.mem_cons, List.not_mem_nil, or_false] at hj ⊢; omega)
    have HB1 := Lib.hid hb1
    clear hpos hbut hb1 hB0 g0 g1 g2 g3 hfn
    go_wp2
    refine ⟨by simp, .inl ⟨_, _, rfl, run_takeDeferred hD, ?_⟩⟩
    refine ⟨_, results_tmp rfl _ _ _, rfl, HST2.out.same (World.putObj_heap_other (by omega)), ?_⟩
    exact (HB1.out.forget (ButS.putObj [W0.heap.size] W W0.heap.size _ (by simp)) (fun j hj => .inr (by simp at hj; omega))).but
end Go.Proofs.YtilcgafnkihjcaaDoor
