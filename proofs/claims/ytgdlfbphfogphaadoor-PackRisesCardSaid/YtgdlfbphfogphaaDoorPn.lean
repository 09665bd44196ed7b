/- PackApart: its walk, given what the writer does, that the examples hold, and strings.HasPrefix. -/
import Derived.Test.YtgdlfbphfogphaaDoorPm
import Derived.Deep.RegionHeld3
namespace Go.Proofs.YtgdlfbphfogphaaDoor
open Go.RowKit

def PrefixC : Prop := ∀ (t s : List UInt8) w, Calls Tryd.prog 18 #[.string ⟨t.toArray⟩, .string ⟨s.toArray⟩] w fun e w' => e = .returned (.bool (decide (s <+: t))) ∧ w' = w
theorem prow_set {w : World} {b k : Nat} {L : Array Value} {t : TypeId} (v : Value) (h : w.heap[b]? = some (.cells L t (0, 0))) : (w.setCell ⟨b, k, none⟩ v).heap[b]? = some (.cells (L.setIfInBounds k v) t (0, 0)) := by
  show (w.heap.modify b _)[b]? = _
  rw [Array.getElem?_modify, if_pos rfl, h]
  rfl
theorem prow_far {w : World} {b c k : Nat} {o : Option Obj} (v : Value) (hne : c ≠ b) (h : w.heap[b]? = o) : (w.setCell ⟨c, k, none⟩ v).heap[b]? = o := by
  rw [Below.heap_setCell _ _ _ _ (by simpa using fun e => hne e.symm)]; exact h
theorem prow_free {w : World} {b : Nat} {L : Array Value} {t : TypeId} (h : w.heap[b]? = some (.cells L t (0, 0))) (i : Nat) : w.frozen? ⟨b, i, none⟩ = false := by
  simp [World.frozen?, h]
/-- two things in memory, and what was there -/
structure Two (w : World) (A D : Array Value) (wz : World) : Prop where
  h1 : wz.heap[w.heap.size]? = some (.cells A 30 (0, 0))
  h2 : wz.heap[w.heap.size + 1]? = some (.cells D 30 (0, 0))
  hw : Below w.heap.size w wz
theorem Two.next {w wz wa : World} {A D : Array Value} (h : Two w A D wz) (hb : Below wz.heap.size wz wa) : Two w A D wa :=
  ⟨prow_below h.h1 hb (prow_lt h.h1), prow_below h.h2 hb (prow_lt h.h2), h.hw.trans (hb.mono h.hw.size)⟩
theorem Two.drew {w wz : World} {A D : Array Value} (h : Two w A D wz) : Two w A D wz.drew := ⟨h.h1, h.h2, h.hw.drew⟩
theorem Two.start (w : World) (A D : Array Value) : Two w A D ((w.alloc (.cells A 30)).alloc (.cells D 30)) :=
  ⟨(two_new w A D _).1, (two_new w A D _).2, ((Below.refl _ _).alloc (Nat.le_refl _) _).alloc (by rw [World.size_alloc]; omega) _⟩
theorem Two.set1 {w wz : World} {a0 a1 a2 a3 v0 v1 v2 v3 : Value} {D : Array Value} (h : Two w #[a0, a1, a2, a3] D wz) :
    Two w #[v0, v1, v2, v3] D ((((wz.setCell ⟨w.heap.size, 0, none⟩ v0).setCell ⟨w.heap.size, 1, none⟩ v1).setCell ⟨w.heap.size, 2, none⟩ v2).setCell ⟨w.heap.size, 3, none⟩ v3) := by
  refine ⟨?_, prow_far _ (by omega) (prow_far _ (by omega) (prow_far _ (by omega) (prow_far _ (by omega) h.h2))), (((h.hw.setCell (Nat.le_refl _) _).setCell (Nat.le_refl _) _).setCell (Nat.le_refl _) _).setCell (Nat.le_refl _) _⟩
  have k := prow_set (k := 3) v3 (prow_set (k := 2) v2 (prow_set (k := 1) v1 (prow_set (k := 0) v0 h.h1)))
  simp only [List.setIfInBounds_toArray, List.set_cons_zero, List.set_cons_succ] at k
  exact k
theorem Two.set2 {w wz : World} {a0 a1 a2 a3 v0 v1 v2 v3 : Value} {A : Array Value} (h : Two w A #[a0, a1, a2, a3] wz) :
    Two w A #[v0, v1, v2, v3] ((((wz.setCell ⟨w.heap.size + 1, 0, none⟩ v0).setCell ⟨w.heap.size + 1, 1, none⟩ v1).setCell ⟨w.heap.size + 1, 2, none⟩ v2).setCell ⟨w.heap.size + 1, 3, none⟩ v3) := by
  have hN : w.heap.size ≤ w.heap.size + 1 := by omega
  refine ⟨prow_far _ (by omega) (prow_far _ (by omega) (prow_far _ (by omega) (prow_far _ (by omega) h.h1))), ?_, (((h.hw.setCell hN _).setCell hN _).setCell hN _).setCell hN _⟩
  have k := prow_set (k := 3) v3 (prow_set (k := 2) v2 (prow_set (k := 1) v1 (prow_set (k := 0) v0 h.h2)))
  simp only [List.setIfInBounds_toArray, List.set_cons_zero, List.set_cons_succ] at k
  exact k
/-- the facts on lists that the law asks -/
theorem apart_facts (s s2 : Int) (n n2 : Nat) (T T2 : List UInt8) (hs : Sorts s) (hs2 : Sorts s2) (hn : n < 18446744073709551616) (hn2 : n2 < 18446744073709551616) (h : (laidP s n T).2 = 0) (h2 : (laidP s2 n2 T2).2 = 0) :
    (laidP s n T).1 ≠ [] ∧ decide ((laidP s n T).1 <+: (laidP s2 n2 T2).1) = alikeP s (n : Int) s2 (n2 : Int) T T2 ∧ ((laidP s n T).1 == (laidP s2 n2 T2).1) = alikeP s (n : Int) s2 (n2 : Int) T T2 := by
  have o1 := (laidP_ok s n T).1 h
  have o2 := (laidP_ok s2 n2 T2).1 h2
  have ha : alikeP s (n : Int) s2 (n2 : Int) T T2 = true ↔ (s = s2 ∧ if s = 1 ∨ s = 2 then T = T2 else n = n2) := by
    unfold alikeP
    by_cases e : s = s2
    · rw [if_pos e]
      by_cases e1 : s = 1 ∨ s = 2
      · rw [if_pos e1, if_pos e1, decide_eq_true_eq]; exact ⟨fun k => ⟨e, k⟩, fun k => k.2⟩
      · rw [if_neg e1, if_neg e1, decide_eq_true_eq]; exact ⟨fun k => ⟨e, by omega⟩, fun k => by have := k.2; omega⟩
    · rw [if_neg e]; exact ⟨(fun k => by cases k), fun k => absurd k.1 e⟩
  have hp : (laidP s n T).1 <+: (laidP s2 n2 T2).1 ↔ (s = s2 ∧ if s = 1 ∨ s = 2 then T = T2 else n = n2) := by
    constructor
    · exact laidP_apart s s2 n n2 T T2 hs hs2 o1 o2 hn hn2
    · rintro ⟨rfl, k⟩
      rw [laidP_alike s n n2 T T2 k]
      exact List.prefix_refl _
  refine ⟨laidP_some s n T hs o1, ?_, ?_⟩
  · rw [Bool.eq_iff_iff, decide_eq_true_eq, hp, ha]
  · rw [Bool.eq_iff_iff, beq_iff_eq, ha, ← hp]
    constructor
    · intro k; rw [k]; exact List.prefix_refl _
    · intro k
      obtain ⟨rfl, k2⟩ := hp.1 k
      rw [laidP_alike s n n2 T T2 k2]

set_option maxRecDepth 100000 in
set_option maxHeartbeats 4000000 in
theorem apart_any {G : World → Prop} {Wr : Nat → Nat → List UInt8 → World → Prop} (C : PackC G Wr) (HW : WorksC G) (HP : PrefixC) (s s2 : Int) (n n2 : Nat) (S S2 : List UInt8) (z z2 : Nat) (w : World)
    (hn : n < 18446744073709551616) (hn2 : n2 < 18446744073709551616) (hS : S.length ≤ 9223372036854775807) (hS2 : S2.length ≤ 9223372036854775807) (hz : z < 4294967296) (hz2 : z2 < 4294967296) (hG : G w) :
    Calls Tryd.prog 5 #[.agg #[.int .i64 s, .int .u64 (n : Int), .string ⟨S.toArray⟩, .int .u32 (z : Int)], .agg #[.int .i64 s2, .int .u64 (n2 : Int), .string ⟨S2.toArray⟩, .int .u32 (z2 : Int)]] w fun e w' => e = .returned (.bool true) ∧ Below w.heap.size w w' := by
  have HS1 := Lib.hid (fun w => psorted_any s (n : Int) (z : Int) ⟨S.toArray⟩ w)
  have HS2 := Lib.hid (fun w => psorted_any s2 (n2 : Int) (z2 : Int) ⟨S2.toArray⟩ w)
  have q1 := Sorts.of (sortP_in s).1 (sortP_in s).2
  have q2 := Sorts.of (sortP_in s2).1 (sortP_in s2).2
  generalize sortP s = r at *
  generalize sortP s2 = r2 at *
  have HL1 := Lib.hid (fun w (hG : G w) => plaid_any C r n S z w hn hS hz hG)
  have HL2 := Lib.hid (fun w (hG : G w) => plaid_any C r2 n2 S2 z2 w hn2 hS2 hz2 hG)
  have HAL := Lib.hid (fun w => palike_any r (n : Int) r2 (n2 : Int) S S2 z z2 w hS hS2 hz hz2)
  have HF := Lib.hid (apart_facts r r2 n n2 (textP S z) (textP S2 z2) q1 q2 hn hn2)
  generalize laidP r n (textP S z) = Q at *
  generalize laidP r2 n2 (textP S2 z2) = Q2 at *
  generalize alikeP r (n : Int) r2 (n2 : Int) (textP S z) (textP S2 z2) = al at *
  obtain ⟨A, er⟩ := Q
  obtain ⟨D, er2⟩ := Q2
  simp only at HL1 HL2 HF
  have HWK := Lib.hid HW
  have HPX := Lib.hid (fun w => HP D A w)
  have T0 := Lib.hid (Two.start w #[.int .i64 s, .int .u64 (n : Int), .string ⟨S.toArray⟩, .int .u32 (z : Int)] #[.int .i64 s2, .int .u64 (n2 : Int), .string ⟨S2.toArray⟩, .int .u32 (z2 : Int)])
  clear hn hn2 hS hS2 hz hz2 HW HP q1 q2
  go_enter Tryd.func5, Tryd.ntmps5
  go_wp2_with fail
  generalize ((w.alloc (.cells #[.int .i64 s, .int .u64 (n : Int), .string ⟨S.toArray⟩, .int .u32 (z : Int)] 30)).alloc (.cells #[.int .i64 s2, .int .u64 (n2 : Int), .string ⟨S2.toArray⟩, .int .u32 (z2 : Int)] 30)) = v0 at *
  refine (HWK.out _ (C.gb hG T0.out.hw)).mono ?_
  rintro e w1 ⟨rfl, b1⟩
  have T1 := Lib.hid (T0.out.next b1)
  clear b1 T0
  have c0 := (prow_cell T1.out.h1 0).trans rfl
  have c1 := (prow_cell T1.out.h1 1).trans rfl
  have c2 := (prow_cell T1.out.h1 2).trans rfl
  have c3 := (prow_cell T1.out.h1 3).trans rfl
  have l1 := prow_lt T1.out.h1
  go_wp2_with fail
  clear c0 c1 c2 c3 l1
  refine (HS1.out _).mono ?_
  rintro e w2 ⟨rfl, b2⟩
  have T2 := Lib.hid (T1.out.next b2)
  clear b2 T1
  have c0 := (prow_cell T2.out.h1 0).trans rfl
  have c1 := (prow_cell T2.out.h1 1).trans rfl
  have c2 := (prow_cell T2.out.h1 2).trans rfl
  have c3 := (prow_cell T2.out.h1 3).trans rfl
  have d0 := (prow_cell T2.out.h2 0).trans rfl
  have d1 := (prow_cell T2.out.h2 1).trans rfl
  have d2 := (prow_cell T2.out.h2 2).trans rfl
  have d3 := (prow_cell T2.out.h2 3).trans rfl
  have f1 := prow_free T2.out.h1
  have f2 := prow_free T2.out.h2
  have l1 := prow_lt T2.out.h1
  have l2 := prow_lt T2.out.h2
  go_wp2_with fail
  clear c0 c1 c2 c3 d0 d1 d2 d3 f1 f2 l1 l2
  refine (HS2.out _).mono ?_
  rintro e w3 ⟨rfl, b3⟩
  have T3 := Lib.hid (T2.out.set1.next b3)
  clear b3 T2 HS1 HS2
  have c0 := (prow_cell T3.out.h1 0).trans rfl
  have c1 := (prow_cell T3.out.h1 1).trans rfl
  have c2 := (prow_cell T3.out.h1 2).trans rfl
  have c3 := (prow_cell T3.out.h1 3).trans rfl
  have d0 := (prow_cell T3.out.h2 0).trans rfl
  have d1 := (prow_cell T3.out.h2 1).trans rfl
  have d2 := (prow_cell T3.out.h2 2).trans rfl
  have d3 := (prow_cell T3.out.h2 3).trans rfl
  have f1 := prow_free T3.out.h1
  have f2 := prow_free T3.out.h2
  have l1 := prow_lt T3.out.h1
  have l2 := prow_lt T3.out.h2
  go_wp2_with fail
  clear c0 c1 c2 c3 d0 d1 d2 d3 f1 f2 l1 l2
  refine (HL1.out _ (C.gb hG T3.out.set2.hw)).mono ?_
  rintro e w4 ⟨rfl, b4⟩
  have T4 := Lib.hid (T3.out.set2.next b4)
  clear b4 T3 HL1
  have c0 := (prow_cell T4.out.h1 0).trans rfl
  have c1 := (prow_cell T4.out.h1 1).trans rfl
  have c2 := (prow_cell T4.out.h1 2).trans rfl
  have c3 := (prow_cell T4.out.h1 3).trans rfl
  have d0 := (prow_cell T4.out.h2 0).trans rfl
  have d1 := (prow_cell T4.out.h2 1).trans rfl
  have d2 := (prow_cell T4.out.h2 2).trans rfl
  have d3 := (prow_cell T4.out.h2 3).trans rfl
  have l1 := prow_lt T4.out.h1
  have l2 := prow_lt T4.out.h2
  go_wp2_with fail
  clear c0 c1 c2 c3 d0 d1 d2 d3 l1 l2
  refine (HL2.out _ (C.gb hG T4.out.hw)).mono ?_
  rintro e w5 ⟨rfl, b5⟩
  have T5 := Lib.hid (T4.out.next b5)
  clear b5 T4 HL2
  by_cases he : er = 0
  · have y1 : (er == 0) = true := by rw [he]; rfl
    by_cases he2 : er2 = 0
    · have y2 : (er2 == 0) = true := by rw [he2]; rfl
      obtain ⟨g1, g2, g3⟩ := HF.out he he2
      have g4 : (A == []) = false := beq_eq_false_iff_ne.2 g1
      rw [g2] at HPX
      clear he he2 HF g2
      go_upto_region 9 with (fail)
      have HH := Lib.hid (show ∀ wz, Two w #[.int .i64 r, .int .u64 (n : Int), .string ⟨S.toArray⟩, .int .u32 (z : Int)] #[.int .i64 r2, .int .u64 (n2 : Int), .string ⟨S2.toArray⟩, .int .u32 (z2 : Int)] wz → wz.cell? ⟨w.heap.size, 0, none⟩ = some (.int .i64 r) ∧ wz.cell? ⟨w.heap.size, 1, none⟩ = some (.int .u64 (n : Int)) ∧ wz.cell? ⟨w.heap.size, 2, none⟩ = some (.string ⟨S.toArray⟩) ∧ wz.cell? ⟨w.heap.size, 3, none⟩ = some (.int .u32 (z : Int)) ∧ wz.cell? ⟨w.heap.size + 1, 0, none⟩ = some (.int .i64 r2) ∧ wz.cell? ⟨w.heap.size + 1, 1, none⟩ = some (.int .u64 (n2 : Int)) ∧ wz.cell? ⟨w.heap.size + 1, 2, none⟩ = some (.string ⟨S2.toArray⟩) ∧ wz.cell? ⟨w.heap.size + 1, 3, none⟩ = some (.int .u32 (z2 : Int)) ∧ Two w #[.int .i64 r, .int .u64 (n : Int), .string ⟨S.toArray⟩, .int .u32 (z : Int)] #[.int .i64 r2, .int .u64 (n2 : Int), .string ⟨S2.toArray⟩, .int .u32 (z2 : Int)] wz from fun wz h => ⟨(prow_cell h.h1 0).trans rfl, (prow_cell h.h1 1).trans rfl, (prow_cell h.h1 2).trans rfl, (prow_cell h.h1 3).trans rfl, (prow_cell h.h2 0).trans rfl, (prow_cell h.h2 1).trans rfl, (prow_cell h.h2 2).trans rfl, (prow_cell h.h2 3).trans rfl, h⟩)
      have HLS := Lib.hid (show ∀ wz, (wz.cell? ⟨w.heap.size, 0, none⟩ = some (.int .i64 r) ∧ wz.cell? ⟨w.heap.size, 1, none⟩ = some (.int .u64 (n : Int)) ∧ wz.cell? ⟨w.heap.size, 2, none⟩ = some (.string ⟨S.toArray⟩) ∧ wz.cell? ⟨w.heap.size, 3, none⟩ = some (.int .u32 (z : Int)) ∧ wz.cell? ⟨w.heap.size + 1, 0, none⟩ = some (.int .i64 r2) ∧ wz.cell? ⟨w.heap.size + 1, 1, none⟩ = some (.int .u64 (n2 : Int)) ∧ wz.cell? ⟨w.heap.size + 1, 2, none⟩ = some (.string ⟨S2.toArray⟩) ∧ wz.cell? ⟨w.heap.size + 1, 3, none⟩ = some (.int .u32 (z2 : Int)) ∧ Two w #[.int .i64 r, .int .u64 (n : Int), .string ⟨S.toArray⟩, .int .u32 (z : Int)] #[.int .i64 r2, .int .u64 (n2 : Int), .string ⟨S2.toArray⟩, .int .u32 (z2 : Int)] wz) → Two w #[.int .i64 r, .int .u64 (n : Int), .string ⟨S.toArray⟩, .int .u32 (z : Int)] #[.int .i64 r2, .int .u64 (n2 : Int), .string ⟨S2.toArray⟩, .int .u32 (z2 : Int)] wz from fun wz h => h.2.2.2.2.2.2.2.2)
      have HNX := Lib.hid (show ∀ wz wa, (wz.cell? ⟨w.heap.size, 0, none⟩ = some (.int .i64 r) ∧ wz.cell? ⟨w.heap.size, 1, none⟩ = some (.int .u64 (n : Int)) ∧ wz.cell? ⟨w.heap.size, 2, none⟩ = some (.string ⟨S.toArray⟩) ∧ wz.cell? ⟨w.heap.size, 3, none⟩ = some (.int .u32 (z : Int)) ∧ wz.cell? ⟨w.heap.size + 1, 0, none⟩ = some (.int .i64 r2) ∧ wz.cell? ⟨w.heap.size + 1, 1, none⟩ = some (.int .u64 (n2 : Int)) ∧ wz.cell? ⟨w.heap.size + 1, 2, none⟩ = some (.string ⟨S2.toArray⟩) ∧ wz.cell? ⟨w.heap.size + 1, 3, none⟩ = some (.int .u32 (z2 : Int)) ∧ Two w #[.int .i64 r, .int .u64 (n : Int), .string ⟨S.toArray⟩, .int .u32 (z : Int)] #[.int .i64 r2, .int .u64 (n2 : Int), .string ⟨S2.toArray⟩, .int .u32 (z2 : Int)] wz) → Below wz.heap.size wz wa → (wa.cell? ⟨w.heap.size, 0, none⟩ = some (.int .i64 r) ∧ wa.cell? ⟨w.heap.size, 1, none⟩ = some (.int .u64 (n : Int)) ∧ wa.cell? ⟨w.heap.size, 2, none⟩ = some (.string ⟨S.toArray⟩) ∧ wa.cell? ⟨w.heap.size, 3, none⟩ = some (.int .u32 (z : Int)) ∧ wa.cell? ⟨w.heap.size + 1, 0, none⟩ = some (.int .i64 r2) ∧ wa.cell? ⟨w.heap.size + 1, 1, none⟩ = some (.int .u64 (n2 : Int)) ∧ wa.cell? ⟨w.heap.size + 1, 2, none⟩ = some (.string ⟨S2.toArray⟩) ∧ wa.cell? ⟨w.heap.size + 1, 3, none⟩ = some (.int .u32 (z2 : Int)) ∧ Two w #[.int .i64 r, .int .u64 (n : Int), .string ⟨S.toArray⟩, .int .u32 (z : Int)] #[.int .i64 r2, .int .u64 (n2 : Int), .string ⟨S2.toArray⟩, .int .u32 (z2 : Int)] wa) from fun wz wa h hb => HH.out wa ((HLS.out wz h).next hb))
      go_region_held3 (fun w' => w'.cell? ⟨w.heap.size, 0, none⟩ = some (.int .i64 r) ∧ w'.cell? ⟨w.heap.size, 1, none⟩ = some (.int .u64 (n : Int)) ∧ w'.cell? ⟨w.heap.size, 2, none⟩ = some (.string ⟨S.toArray⟩) ∧ w'.cell? ⟨w.heap.size, 3, none⟩ = some (.int .u32 (z : Int)) ∧ w'.cell? ⟨w.heap.size + 1, 0, none⟩ = some (.int .i64 r2) ∧ w'.cell? ⟨w.heap.size + 1, 1, none⟩ = some (.int .u64 (n2 : Int)) ∧ w'.cell? ⟨w.heap.size + 1, 2, none⟩ = some (.string ⟨S2.toArray⟩) ∧ w'.cell? ⟨w.heap.size + 1, 3, none⟩ = some (.int .u32 (z2 : Int)) ∧ Two w #[.int .i64 r, .int .u64 (n : Int), .string ⟨S.toArray⟩, .int .u32 (z : Int)] #[.int .i64 r2, .int .u64 (n2 : Int), .string ⟨S2.toArray⟩, .int .u32 (z2 : Int)] w')
        (first | (with_reducible assumption) | (with_reducible exact HH.out _ T5.out) | (with_reducible exact HH.out _ T5.out.drew))
        (first
          | (go_at_call 18; with_reducible refine (HPX.out _).mono ?_; rintro e wa ⟨rfl, rfl⟩)
          | (go_at_call 19; with_reducible refine (HAL.out _).mono ?_; rintro e wb ⟨rfl, hb1⟩; have hSb := HNX.out _ _ (by first | (with_reducible assumption) | (with_reducible exact HH.out _ T5.out) | (with_reducible exact HH.out _ T5.out.drew)) hb1))
      all_goals
        go_wp2_with fail
        go_ret
        exact ⟨rfl, (HLS.out _ (by with_reducible assumption)).hw⟩
    · have y2 : (er2 == 0) = false := beq_eq_false_iff_ne.2 he2
      clear he he2 HF
      go_wp2
      go_ret
      exact ⟨rfl, T5.out.hw⟩
  · have y1 : (er == 0) = false := beq_eq_false_iff_ne.2 he
    clear he HF
    go_wp2
    go_ret
    exact ⟨rfl, T5.out.hw⟩
end Go.Proofs.YtgdlfbphfogphaaDoor
