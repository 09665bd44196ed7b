/- Things of the five sorts; are two alike? -/
import Derived.Test.YtgdlfbphfogphaaDoorPd
import Derived.Deep.RegionHeld3
import Derived.Deep.Cut
namespace Go.Proofs.YtgdlfbphfogphaaDoor
open Go.RowKit

def sortP (s : Int) : Int := (s.tmod 5 + 5).tmod 5
theorem sortP_in (s : Int) : 0 ≤ sortP s ∧ sortP s ≤ 4 := by
  unfold sortP
  have h1 : -5 < s.tmod 5 := Int.lt_tmod_of_pos s (by decide)
  have h2 : s.tmod 5 < 5 := Int.tmod_lt_of_pos s (by decide)
  rw [Int.tmod_eq_emod_of_nonneg (by omega)]
  omega

set_option maxRecDepth 100000 in
set_option maxHeartbeats 2000000 in
theorem psorted_any (s n z : Int) (S : ByteArray) (w : World) :
    Calls Tryd.prog 16 #[.agg #[.int .i64 s, .int .u64 n, .string S, .int .u32 z]] w fun e w' => e = .returned (.agg #[.int .i64 (sortP s), .int .u64 n, .string S, .int .u32 z]) ∧ Below w.heap.size w w' := by
  have h1 : -5 < s.tmod 5 := Int.lt_tmod_of_pos s (by decide)
  have h2 : s.tmod 5 < 5 := Int.tmod_lt_of_pos s (by decide)
  have hw : IntKind.i64.wrap (s.tmod 5 + 5) = s.tmod 5 + 5 := IntWalk.i64_in _ (by omega)
  have hw2 : wrap64 (s.tmod 5 + 5) = s.tmod 5 + 5 := by unfold wrap64; omega
  clear h1 h2
  go_enter Tryd.func16, Tryd.ntmps16
  go_wp2
  refine bodyPost_ret (v := .agg #[.int .i64 (sortP s), .int .u64 n, .string S, .int .u32 z]) (by simp [results, Tryd.results16, go_sem, sortP, *]) rfl ⟨rfl, ((Below.refl _ _).alloc (Nat.le_refl _) _).alloc (by rw [World.size_alloc]; omega) _⟩

def alikeP (s n s2 n2 : Int) (T T2 : List UInt8) : Bool := if s = s2 then (if s = 1 ∨ s = 2 then decide (T = T2) else decide (n = n2)) else false
theorem list_beq (A B : List UInt8) : (A == B) = decide (A = B) := by rw [Bool.eq_iff_iff]; simp
theorem two_new (w : World) (A B : Array Value) (T : TypeId) : ((w.alloc (.cells A T)).alloc (.cells B T)).heap[w.heap.size]? = some (.cells A T (0, 0)) ∧ ((w.alloc (.cells A T)).alloc (.cells B T)).heap[w.heap.size + 1]? = some (.cells B T (0, 0)) := by
  refine ⟨?_, ?_⟩
  · rw [Below.heap_alloc _ _ _ (by rw [World.size_alloc]; omega)]; exact heap_alloc_new w _
  · have k := heap_alloc_new (w.alloc (.cells A T)) (.cells B T)
    rwa [World.size_alloc] at k

set_option maxRecDepth 100000 in
set_option maxHeartbeats 2000000 in
theorem palike_any (s n s2 n2 : Int) (S S2 : List UInt8) (z z2 : Nat) (w : World) (hS : S.length ≤ 9223372036854775807) (hS2 : S2.length ≤ 9223372036854775807) (hz : z < 4294967296) (hz2 : z2 < 4294967296) :
    Calls Tryd.prog 19 #[.agg #[.int .i64 s, .int .u64 n, .string ⟨S.toArray⟩, .int .u32 (z : Int)], .agg #[.int .i64 s2, .int .u64 n2, .string ⟨S2.toArray⟩, .int .u32 (z2 : Int)]] w fun e w' =>
      e = .returned (.bool (alikeP s n s2 n2 (textP S z) (textP S2 z2))) ∧ Below w.heap.size w w' := by
  have HT1 := Lib.hid (fun w => ptext_any s n S z w hS hz)
  have HT2 := Lib.hid (fun w => ptext_any s2 n2 S2 z2 w hS2 hz2)
  generalize textP S z = T at *
  generalize textP S2 z2 = T2 at *
  clear hS hS2 hz hz2
  by_cases hs : s = s2
  · subst hs
    by_cases h12 : s = 1 ∨ s = 2
    · have HE := Lib.hid (show alikeP s n s n2 T T2 = decide (T = T2) by rw [alikeP, if_pos rfl, if_pos h12])
      rw [HE.out]
      have hr := two_new w #[.int .i64 s, .int .u64 n, .string ⟨S.toArray⟩, .int .u32 (z : Int)] #[.int .i64 s, .int .u64 n2, .string ⟨S2.toArray⟩, .int .u32 (z2 : Int)] 30
      have hbe : Below w.heap.size w ((w.alloc (.cells #[.int .i64 s, .int .u64 n, .string ⟨S.toArray⟩, .int .u32 (z : Int)] 30)).alloc (.cells #[.int .i64 s, .int .u64 n2, .string ⟨S2.toArray⟩, .int .u32 (z2 : Int)] 30)) := ((Below.refl _ _).alloc (Nat.le_refl _) _).alloc (by rw [World.size_alloc]; omega) _
      have hK : ∀ v1 : World, v1.heap[w.heap.size]? = some (.cells #[.int .i64 s, .int .u64 n, .string ⟨S.toArray⟩, .int .u32 (z : Int)] 30 (0, 0)) ∧ v1.heap[w.heap.size + 1]? = some (.cells #[.int .i64 s, .int .u64 n2, .string ⟨S2.toArray⟩, .int .u32 (z2 : Int)] 30 (0, 0)) → Below w.heap.size w v1 → v1.cell? ⟨w.heap.size, 0, none⟩ = some (.int .i64 s) ∧ v1.cell? ⟨w.heap.size, 1, none⟩ = some (.int .u64 n) ∧ v1.cell? ⟨w.heap.size, 2, none⟩ = some (.string ⟨S.toArray⟩) ∧ v1.cell? ⟨w.heap.size, 3, none⟩ = some (.int .u32 (z : Int)) ∧ v1.cell? ⟨w.heap.size + 1, 0, none⟩ = some (.int .i64 s) ∧ v1.cell? ⟨w.heap.size + 1, 1, none⟩ = some (.int .u64 n2) ∧ v1.cell? ⟨w.heap.size + 1, 2, none⟩ = some (.string ⟨S2.toArray⟩) ∧ v1.cell? ⟨w.heap.size + 1, 3, none⟩ = some (.int .u32 (z2 : Int)) ∧ Below w.heap.size w v1 ∧ w.heap.size + 1 < v1.heap.size := fun v1 h hb =>
        ⟨(cell_of_row _ _ _ _ 30 _ h.1).trans rfl, (cell_of_row _ _ _ _ 30 _ h.1).trans rfl, (cell_of_row _ _ _ _ 30 _ h.1).trans rfl, (cell_of_row _ _ _ _ 30 _ h.1).trans rfl, (cell_of_row _ _ _ _ 30 _ h.2).trans rfl, (cell_of_row _ _ _ _ 30 _ h.2).trans rfl, (cell_of_row _ _ _ _ 30 _ h.2).trans rfl, (cell_of_row _ _ _ _ 30 _ h.2).trans rfl, hb, (Array.getElem?_eq_some_iff.1 h.2).1⟩
      have HK := Lib.hid (hK _ hr hbe)
      have HN := Lib.hid (show ∀ v1 v2 : World, (v1.cell? ⟨w.heap.size, 0, none⟩ = some (.int .i64 s) ∧ v1.cell? ⟨w.heap.size, 1, none⟩ = some (.int .u64 n) ∧ v1.cell? ⟨w.heap.size, 2, none⟩ = some (.string ⟨S.toArray⟩) ∧ v1.cell? ⟨w.heap.size, 3, none⟩ = some (.int .u32 (z : Int)) ∧ v1.cell? ⟨w.heap.size + 1, 0, none⟩ = some (.int .i64 s) ∧ v1.cell? ⟨w.heap.size + 1, 1, none⟩ = some (.int .u64 n2) ∧ v1.cell? ⟨w.heap.size + 1, 2, none⟩ = some (.string ⟨S2.toArray⟩) ∧ v1.cell? ⟨w.heap.size + 1, 3, none⟩ = some (.int .u32 (z2 : Int)) ∧ Below w.heap.size w v1 ∧ w.heap.size + 1 < v1.heap.size) → Below v1.heap.size v1 v2 → (v2.cell? ⟨w.heap.size, 0, none⟩ = some (.int .i64 s) ∧ v2.cell? ⟨w.heap.size, 1, none⟩ = some (.int .u64 n) ∧ v2.cell? ⟨w.heap.size, 2, none⟩ = some (.string ⟨S.toArray⟩) ∧ v2.cell? ⟨w.heap.size, 3, none⟩ = some (.int .u32 (z : Int)) ∧ v2.cell? ⟨w.heap.size + 1, 0, none⟩ = some (.int .i64 s) ∧ v2.cell? ⟨w.heap.size + 1, 1, none⟩ = some (.int .u64 n2) ∧ v2.cell? ⟨w.heap.size + 1, 2, none⟩ = some (.string ⟨S2.toArray⟩) ∧ v2.cell? ⟨w.heap.size + 1, 3, none⟩ = some (.int .u32 (z2 : Int)) ∧ Below w.heap.size w v2 ∧ w.heap.size + 1 < v2.heap.size) from fun v1 v2 h hb => by
        obtain ⟨c0, c1, c2, c3, e0, e1, e2, e3, h1, h2⟩ := h
        have l0 : w.heap.size < v1.heap.size := by omega
        exact ⟨(hb.cell (p := ⟨w.heap.size, 0, none⟩) l0).trans c0, (hb.cell (p := ⟨w.heap.size, 1, none⟩) l0).trans c1, (hb.cell (p := ⟨w.heap.size, 2, none⟩) l0).trans c2, (hb.cell (p := ⟨w.heap.size, 3, none⟩) l0).trans c3,
          (hb.cell (p := ⟨w.heap.size + 1, 0, none⟩) h2).trans e0, (hb.cell (p := ⟨w.heap.size + 1, 1, none⟩) h2).trans e1, (hb.cell (p := ⟨w.heap.size + 1, 2, none⟩) h2).trans e2, (hb.cell (p := ⟨w.heap.size + 1, 3, none⟩) h2).trans e3, h1.trans (hb.mono h1.size), by have := hb.size; omega⟩)
      clear hr hbe hK
      rcases h12 with rfl | rfl
      · go_enter Tryd.func19, Tryd.ntmps19
        go_upto_region 4 with (fail)
        generalize ((w.alloc _).alloc _) = v0 at *
        have HKD := Lib.hid (HN.out _ _ HK.out (Below.refl _ _).drew)
        go_region_held3 (fun w' => w'.cell? ⟨w.heap.size, 0, none⟩ = some (.int .i64 1) ∧ w'.cell? ⟨w.heap.size, 1, none⟩ = some (.int .u64 n) ∧ w'.cell? ⟨w.heap.size, 2, none⟩ = some (.string ⟨S.toArray⟩) ∧ w'.cell? ⟨w.heap.size, 3, none⟩ = some (.int .u32 (z : Int)) ∧ w'.cell? ⟨w.heap.size + 1, 0, none⟩ = some (.int .i64 1) ∧ w'.cell? ⟨w.heap.size + 1, 1, none⟩ = some (.int .u64 n2) ∧ w'.cell? ⟨w.heap.size + 1, 2, none⟩ = some (.string ⟨S2.toArray⟩) ∧ w'.cell? ⟨w.heap.size + 1, 3, none⟩ = some (.int .u32 (z2 : Int)) ∧ Below w.heap.size w w' ∧ w.heap.size + 1 < w'.heap.size)
          (first | (with_reducible assumption) | (with_reducible exact HK.out) | (with_reducible exact HKD.out))
          (first
            | (go_at_call 11; with_reducible refine (HT1.out _).mono ?_; rintro e wa ⟨rfl, hb1⟩; have hSa := HN.out _ _ (by first | (with_reducible assumption) | (with_reducible exact HK.out) | (with_reducible exact HKD.out)) hb1)
            | (go_at_call 11; with_reducible refine (HT2.out _).mono ?_; rintro e wb ⟨rfl, hb2⟩; have hSb := HN.out _ _ (by first | (with_reducible assumption) | (with_reducible exact HK.out) | (with_reducible exact HKD.out)) hb2))
        go_wp2_with fail
        go_ret
        exact ⟨by rw [← list_beq]; rfl, hSb.2.2.2.2.2.2.2.2.1⟩
      · go_enter Tryd.func19, Tryd.ntmps19
        go_upto_region 4 with (fail)
        generalize ((w.alloc _).alloc _) = v0 at *
        have HKD := Lib.hid (HN.out _ _ HK.out (Below.refl _ _).drew)
        go_region_held3 (fun w' => w'.cell? ⟨w.heap.size, 0, none⟩ = some (.int .i64 2) ∧ w'.cell? ⟨w.heap.size, 1, none⟩ = some (.int .u64 n) ∧ w'.cell? ⟨w.heap.size, 2, none⟩ = some (.string ⟨S.toArray⟩) ∧ w'.cell? ⟨w.heap.size, 3, none⟩ = some (.int .u32 (z : Int)) ∧ w'.cell? ⟨w.heap.size + 1, 0, none⟩ = some (.int .i64 2) ∧ w'.cell? ⟨w.heap.size + 1, 1, none⟩ = some (.int .u64 n2) ∧ w'.cell? ⟨w.heap.size + 1, 2, none⟩ = some (.string ⟨S2.toArray⟩) ∧ w'.cell? ⟨w.heap.size + 1, 3, none⟩ = some (.int .u32 (z2 : Int)) ∧ Below w.heap.size w w' ∧ w.heap.size + 1 < w'.heap.size)
          (first | (with_reducible assumption) | (with_reducible exact HK.out) | (with_reducible exact HKD.out))
          (first
            | (go_at_call 11; with_reducible refine (HT1.out _).mono ?_; rintro e wa ⟨rfl, hb1⟩; have hSa := HN.out _ _ (by first | (with_reducible assumption) | (with_reducible exact HK.out) | (with_reducible exact HKD.out)) hb1)
            | (go_at_call 11; with_reducible refine (HT2.out _).mono ?_; rintro e wb ⟨rfl, hb2⟩; have hSb := HN.out _ _ (by first | (with_reducible assumption) | (with_reducible exact HK.out) | (with_reducible exact HKD.out)) hb2))
        go_wp2_with fail
        go_ret
        exact ⟨by rw [← list_beq]; rfl, hSb.2.2.2.2.2.2.2.2.1⟩
    · have HE := Lib.hid (show alikeP s n s n2 T T2 = decide (n = n2) by rw [alikeP, if_pos rfl, if_neg h12])
      rw [HE.out]
      have z1 : (s == 1) = false := beq_eq_false_iff_ne.2 (fun c => h12 (.inl c))
      have z2 : (s == 2) = false := beq_eq_false_iff_ne.2 (fun c => h12 (.inr c))
      clear h12 HT1 HT2
      go_enter Tryd.func19, Tryd.ntmps19
      go_wp2
      go_ret
      exact ⟨rfl, ((Below.refl _ _).alloc (Nat.le_refl _) _).alloc (by rw [World.size_alloc]; omega) _⟩
  · have HE := Lib.hid (show alikeP s n s2 n2 T T2 = false by rw [alikeP, if_neg hs])
    rw [HE.out]
    have z1 : (s != s2) = true := by rw [bne_iff_ne]; exact hs
    clear hs HT1 HT2
    go_enter Tryd.func19, Tryd.ntmps19
    go_wp2
    go_ret
    exact ⟨rfl, ((Below.refl _ _).alloc (Nat.le_refl _) _).alloc (by rw [World.size_alloc]; omega) _⟩
end Go.Proofs.YtgdlfbphfogphaaDoor
