/- ChainDigits and ChainWalks: their walks. -/
import Derived.Test.YtdobmhbfadijoaaDoorEc
import Derived.Test.YtdobmhbfadijoaaDoorEd
import Derived.Test.YtdobmhbfadijoaaDoorBs
namespace Go.Proofs.YtdobmhbfadijoaaDoor
open Go.RowKit

set_option maxRecDepth 100000 in
set_option maxHeartbeats 1000000 in
theorem chainDigits_any (C : ChainC) (s : (List UInt8)) (w : World) (hg : Glob w) : Calls Tryd.prog 3 #[.string ⟨s.toArray⟩] w fun e w' => e = .returned (.bool true) ∧ Below w.heap.size w w' := by
  obtain ⟨m, hm1, hm2, hm3⟩ := extract_take s 40
  rw [show ((40 : Nat) : Int) = 40 from rfl] at hm1
  have hk0 : (0 : Int) ≤ (m : Int) := by omega
  have hk1 : (m : Int) ≤ (s.length : Int) := by omega
  have HD := Lib.hid (fun wz (h : Wl w wz) => C.d (s.take 40) wz h.g (by rw [List.length_take]; unfold maxLen; omega))
  have HR := Lib.hid (fun wz (_ : Wl w wz) => rdigits_any (s.take 40) wz)
  have hdl : (digC (s.take 40)).length ≤ 67 := by rw [digC_len]; split <;> omega
  have HSM := Lib.hid (fun ao bo ca cb wz (ha : Ints ao (digC (s.take 40)) wz) (hb : Ints bo (digC (s.take 40)) wz) => same12_any (digC (s.take 40)) ao bo ca cb wz ha hb (by omega))
  have HW := Lib.hid (fun wz (h : Wl w wz) => works12_any C wz h.g)
  have HG := Lib.hid (show Wl w w from ⟨hg, Below.refl _ _⟩)
  clear hg hdl
  generalize digC (s.take 40) = D at *
  generalize s.take 40 = T at *
  go_enter Tryd.func3, Tryd.ntmps3
  go_wp2_with (first
    | (go_at_call 10; with_reducible refine (HD.out _ HG.out).mono ?_; rintro e w1 ⟨a1, c1, rfl, h1, b1⟩; have HG := Lib.hid (HG.out.next b1); have H1 := Lib.hid h1; clear h1 b1)
    | (go_at_call 11; with_reducible refine (HR.out _ HG.out).mono ?_; rintro e w2 ⟨a2, c2, rfl, h2, _, b2⟩; have HG := Lib.hid (HG.out.next b2); have H1 := Lib.hid (H1.out.next b2); have H2 := Lib.hid h2; clear h2 b2)
    | (go_at_call 9; with_reducible refine (HSM.out _ _ _ _ _ H1.out H2.out).mono ?_; rintro e w3 ⟨rfl, b3⟩; have HG := Lib.hid (HG.out.next b3); clear b3)
    | (go_at_call 12; with_reducible refine (HW.out _ HG.out).mono ?_; rintro e w4 ⟨rfl, b4⟩; have HG := Lib.hid (HG.out.next b4); clear b4))
  go_ret
  exact ⟨rfl, HG.out.o⟩
/-- an array of three ints in its block, and what is kept -/
abbrev Ar3 (b : Nat) (v0 v1 v2 : Value) (W wz : World) : Prop := wz.cell? ⟨b, 0, none⟩ = some v0 ∧ wz.cell? ⟨b, 1, none⟩ = some v1 ∧ wz.cell? ⟨b, 2, none⟩ = some v2 ∧ Below W.heap.size W wz
theorem ar3_next {b : Nat} {v0 v1 v2 : Value} {W wz wa : World} (h : Ar3 b v0 v1 v2 W wz) (hb : Below wz.heap.size wz wa) : Ar3 b v0 v1 v2 W wa := by
  obtain ⟨h0, h1, h2, h4⟩ := h
  have k : ∀ {o : Nat} {v : Value}, wz.cell? ⟨b, o, none⟩ = some v → wa.cell? ⟨b, o, none⟩ = some v := fun hc => (World.cell?_of_block (hb.block _ (World.block_lt_of_cell? wz _ hc))).trans hc
  exact ⟨k h0, k h1, k h2, h4.trans (hb.mono h4.size)⟩
theorem ar3_drew {b : Nat} {v0 v1 v2 : Value} {W wz : World} (h : Ar3 b v0 v1 v2 W wz) : Ar3 b v0 v1 v2 W wz.drew := ar3_next h (Below.refl _ _).drew
set_option maxRecDepth 100000 in
set_option maxHeartbeats 2000000 in
theorem chainWalks_any (C : ChainC) (i a z : Int) (x : (List UInt8)) (w : World) (hg : Glob w) : Calls Tryd.prog 4 #[.agg #[.int .i64 i, .int .i64 a, .int .i64 z], .string ⟨x.toArray⟩] w fun e w' => e = .returned (.bool true) ∧ Below w.heap.size w w' := by
  obtain ⟨m, hm1, hm2, hm3⟩ := extract_take x 60
  rw [show ((60 : Nat) : Int) = 60 from rfl] at hm1
  have hk0 : (0 : Int) ≤ (m : Int) := by omega
  have hk1 : (m : Int) ≤ (x.length : Int) := by omega
  have HL := Lib.hid (show (x.take 60).length ≤ 10000000 by rw [List.length_take]; omega)
  obtain ⟨b, hb⟩ : ∃ b, b = w.heap.size := ⟨_, rfl⟩
  obtain ⟨w1, hw1⟩ : ∃ w1, w1 = w.alloc (.cells #[.int .i64 i, .int .i64 a, .int .i64 z] 27) := ⟨_, rfl⟩
  have hb1 : Below w.heap.size w w1 := by rw [hw1]; exact by0 w _
  have hbl : w1.heap[b]? = some (.cells #[.int .i64 i, .int .i64 a, .int .i64 z] 27 (0, 0)) := by rw [hw1, hb]; exact heap_alloc_new _ _
  have hS1 : Ar3 b (.int .i64 i) (.int .i64 a) (.int .i64 z) w1 w1 := ⟨(lit_cell hbl 0).trans rfl, (lit_cell hbl 1).trans rfl, (lit_cell hbl 2).trans rfl, Below.refl _ _⟩
  have hg1 : Glob w1 := hg.below hg.size hb1
  have HK := Lib.hid (fun wz (h : Below w1.heap.size w1 wz) => C.k i a z (x.take 60) wz (hg1.below hg1.size h) HL.out)
  have HR := Lib.hid (fun wz (_ : Below w1.heap.size w1 wz) => rwalk_any i a z (x.take 60) wz HL.out)
  have HW := Lib.hid (fun wz (h : Below w1.heap.size w1 wz) => works12_any C wz (hg1.below hg1.size h))
  have HW1 := Lib.hid hw1
  have HB := Lib.hid hb
  have HB1 := Lib.hid hb1
  have HS1 := Lib.hid hS1
  clear hg hg1 hw1 hb hb1 hbl hS1
  generalize walkV i a z (x.take 60) = V at *
  generalize x.take 60 = X at *
  go_enter Tryd.func4, Tryd.ntmps4
  go_upto_region 1 with fail
  rw [← HW1.out, ← HB.out]
  go_upto_region 2 with fail
  have hs0 := HS1.out
  have hs1 := ar3_drew hs0
  go_region_held3 (fun wz => Ar3 b (.int .i64 i) (.int .i64 a) (.int .i64 z) w1 wz)
    (first | (with_reducible assumption))
    (first
      | (go_at_call 13; with_reducible refine (HK.out _ (show Below w1.heap.size w1 _ from (by with_reducible assumption : Ar3 b _ _ _ w1 _).2.2.2)).mono ?_; rintro e w2 ⟨rfl, hb2⟩; have hs2 := ar3_next (by with_reducible assumption) hb2)
      | (go_at_call 14; with_reducible refine (HR.out _ (show Below w1.heap.size w1 _ from (by with_reducible assumption : Ar3 b _ _ _ w1 _).2.2.2)).mono ?_; rintro e w3 ⟨rfl, hb3⟩; have hs3 := ar3_next (by with_reducible assumption) hb3)
      | (go_at_call 12; with_reducible refine (HW.out _ (show Below w1.heap.size w1 _ from (by with_reducible assumption : Ar3 b _ _ _ w1 _).2.2.2)).mono ?_; rintro e w4 ⟨rfl, hb4⟩; have hs4 := ar3_next (by with_reducible assumption) hb4))
  all_goals
    have HF := Lib.hid (below_next HB1.out (by with_reducible assumption : Ar3 b (.int .i64 i) (.int .i64 a) (.int .i64 z) w1 w4).2.2.2)
    go_wp2
    exact bodyPost_ret (v := .bool true) (by simp [results, Tryd.results4, go_sem]) rfl ⟨rfl, HF.out⟩
end Go.Proofs.YtdobmhbfadijoaaDoor
