/- A guessed digit of a quotient, by the program: the walk. -/
import Derived.Test.YtiglhgcckceikaaWz1
namespace Go.Proofs.Ytiglhgcckceikaa
open Go.RowKit

/-- two blocks, and all below -/
structure G2 (w : World) (A B : Array Value) (wz : World) : Prop where
  ha : wz.heap[w.heap.size]? = some (.cells A 26 (0, 0))
  hb : wz.heap[w.heap.size + 1]? = some (.cells B 24 (0, 0))
  hw : Below w.heap.size w wz
theorem G2.begin (w : World) (A B : Array Value) : G2 w A B ((w.alloc (.cells A 26)).alloc (.cells B 24)) := by
  refine ⟨arow_alloc _ (arow_new _ _ _), ?_, below2' _ _ _⟩
  have := arow_new (w.alloc (.cells A 26)) B 24
  rwa [World.size_alloc] at this
theorem G2.next {w wz wa : World} {A B : Array Value} (h : G2 w A B wz) (hb : Below wz.heap.size wz wa) : G2 w A B wa :=
  ⟨arow_below h.ha hb (arow_lt h.ha), arow_below h.hb hb (arow_lt h.hb), h.hw.trans (hb.mono h.hw.size)⟩
theorem G2.stored {w wz : World} {a0 a1 a2 a3 a4 a5 a6 a7 b0 b1 b2 b3 v0 v1 v2 v3 v4 v5 v6 v7 u0 u1 u2 u3 : Value} (h : G2 w #[a0, a1, a2, a3, a4, a5, a6, a7] #[b0, b1, b2, b3] wz) :
    G2 w #[v0, v1, v2, v3, v4, v5, v6, v7] #[u0, u1, u2, u3] ((((((((((((wz.setCell ⟨w.heap.size, 0, none⟩ v0).setCell ⟨w.heap.size, 1, none⟩ v1).setCell ⟨w.heap.size, 2, none⟩ v2).setCell ⟨w.heap.size, 3, none⟩ v3).setCell ⟨w.heap.size, 4, none⟩ v4).setCell ⟨w.heap.size, 5, none⟩ v5).setCell ⟨w.heap.size, 6, none⟩ v6).setCell ⟨w.heap.size, 7, none⟩ v7).setCell ⟨w.heap.size + 1, 0, none⟩ u0).setCell ⟨w.heap.size + 1, 1, none⟩ u1).setCell ⟨w.heap.size + 1, 2, none⟩ u2).setCell ⟨w.heap.size + 1, 3, none⟩ u3) :=
  ⟨far4 (by omega) (set8 h.ha), set4 (far8 (by omega) h.hb), below_set4 (below_set8 h.hw (Nat.le_refl _)) (by omega)⟩
theorem G2.drew {w wz : World} {A B : Array Value} (h : G2 w A B wz) : G2 w A B wz.drew := ⟨h.ha, h.hb, h.hw.drew⟩

set_option maxRecDepth 100000 in
set_option maxHeartbeats 2000000 in
theorem guess_fn (a b g : Int) (s m : Nat) (w : World) (hm : blN b.toNat = m) (hs : m + s = 256) (hb : In 4 b) (hg : g = gs (upI a s) (upI b s))
    (hd : ∀ w : World, d (upI a s) 4 < d (upI b s) 3 → ∃ r, Calls Try.prog 46 #[.int .u64 (d (upI a s) 4), .int .u64 (d (upI a s) 3), .int .u64 (d (upI b s) 3)] w fun e w' => e = .returned (.tuple #[.int .u64 g, .int .u64 r]) ∧ Below w.heap.size w w') :
    Calls Try.prog 51 #[.agg #[.int .u64 (d a 0), .int .u64 (d a 1), .int .u64 (d a 2), .int .u64 (d a 3), .int .u64 (d a 4), .int .u64 (d a 5), .int .u64 (d a 6), .int .u64 (d a 7)], .agg #[.int .u64 (d b 0), .int .u64 (d b 1), .int .u64 (d b 2), .int .u64 (d b 3)]] w fun e w' => e = .returned (.int .u64 g) ∧ Below w.heap.size w w' := by
  have HBL := Lib.hid (fun w => bitLen4_fn _ b w rfl hb)
  have hbl : bl b = (m : Int) := by rw [bl, hm]
  rw [hbl] at HBL
  have HU8 := Lib.hid (fun w => up8_any _ a s w rfl (by omega))
  have HU4 := Lib.hid (fun w => up4_any _ b s w rfl (by omega))
  have es : 256 - (m : Int) = (s : Int) := by omega
  have hm0 : m ≤ 256 := by omega
  have hs0 : s ≤ 256 := by omega
  have HG := Lib.hid hg
  have HD := Lib.hid hd
  clear hbl hm hg hd
  obtain ⟨x, hx⟩ : ∃ x, upI a s = x := ⟨_, rfl⟩
  obtain ⟨y, hy⟩ : ∃ y, upI b s = y := ⟨_, rfl⟩
  rw [hx] at HU8
  rw [hy] at HU4
  rw [hx, hy] at HG
  rw [hx, hy] at HD
  clear hx hy hs
  go_enter Try.func51, Try.ntmps51
  go_wp2_with fail
  have G := Lib.hid (G2.begin w #[.int .u64 (d a 0), .int .u64 (d a 1), .int .u64 (d a 2), .int .u64 (d a 3), .int .u64 (d a 4), .int .u64 (d a 5), .int .u64 (d a 6), .int .u64 (d a 7)] #[.int .u64 (d b 0), .int .u64 (d b 1), .int .u64 (d b 2), .int .u64 (d b 3)])
  generalize ((w.alloc (.cells #[.int .u64 (d a 0), .int .u64 (d a 1), .int .u64 (d a 2), .int .u64 (d a 3), .int .u64 (d a 4), .int .u64 (d a 5), .int .u64 (d a 6), .int .u64 (d a 7)] 26)).alloc (.cells #[.int .u64 (d b 0), .int .u64 (d b 1), .int .u64 (d b 2), .int .u64 (d b 3)] 24)) = v0 at *
  refine (HBL.out _).mono ?_
  rintro e w1 ⟨rfl, h1⟩
  have G := Lib.hid (G.out.next h1)
  clear h1
  go_wp2_with fail
  have a0 := (arow_cell G.out.ha 0).trans rfl
  have a1 := (arow_cell G.out.ha 1).trans rfl
  have a2 := (arow_cell G.out.ha 2).trans rfl
  have a3 := (arow_cell G.out.ha 3).trans rfl
  have a4 := (arow_cell G.out.ha 4).trans rfl
  have a5 := (arow_cell G.out.ha 5).trans rfl
  have a6 := (arow_cell G.out.ha 6).trans rfl
  have a7 := (arow_cell G.out.ha 7).trans rfl
  obtain ⟨b0, b1, b2, b3⟩ := cells4 G.out.hb
  go_region_with (first
    | (go_at_call 54; refine (HU8.out _).mono ?_; rintro e wa ⟨rfl, hb1⟩; have GA := Lib.hid (G.out.drew.next hb1); obtain ⟨c0, c1, c2, c3⟩ := cells4 GA.out.hb; clear hb1)
    | (go_at_call 47; refine (HU4.out _).mono ?_; rintro e wb ⟨rfl, hb2⟩; have GB := Lib.hid (GA.out.next hb2); obtain ⟨⟨z0, o0⟩, f0⟩ := out8 GB.out.ha rfl 0 (by decide); obtain ⟨⟨z1, o1⟩, f1⟩ := out8 GB.out.ha rfl 1 (by decide); obtain ⟨⟨z2, o2⟩, f2⟩ := out8 GB.out.ha rfl 2 (by decide); obtain ⟨⟨z3, o3⟩, f3⟩ := out8 GB.out.ha rfl 3 (by decide); obtain ⟨⟨z4, o4⟩, f4⟩ := out8 GB.out.ha rfl 4 (by decide); obtain ⟨⟨z5, o5⟩, f5⟩ := out8 GB.out.ha rfl 5 (by decide); obtain ⟨⟨z6, o6⟩, f6⟩ := out8 GB.out.ha rfl 6 (by decide); obtain ⟨⟨z7, o7⟩, f7⟩ := out8 GB.out.ha rfl 7 (by decide); obtain ⟨⟨y0, p0⟩, g0⟩ := out4 GB.out.hb rfl 0 (by decide); obtain ⟨⟨y1, p1⟩, g1⟩ := out4 GB.out.hb rfl 1 (by decide); obtain ⟨⟨y2, p2⟩, g2⟩ := out4 GB.out.hb rfl 2 (by decide); obtain ⟨⟨y3, p3⟩, g3⟩ := out4 GB.out.hb rfl 3 (by decide); clear hb2))
  all_goals
    have GE := Lib.hid (GB.out.stored (v0 := .int .u64 (d x 0)) (v1 := .int .u64 (d x 1)) (v2 := .int .u64 (d x 2)) (v3 := .int .u64 (d x 3)) (v4 := .int .u64 (d x 4)) (v5 := .int .u64 (d x 5)) (v6 := .int .u64 (d x 6)) (v7 := .int .u64 (d x 7)) (u0 := .int .u64 (d y 0)) (u1 := .int .u64 (d y 1)) (u2 := .int .u64 (d y 2)) (u3 := .int .u64 (d y 3)))
    generalize ((((((((((((wb.setCell ⟨w.heap.size, 0, none⟩ (.int .u64 (d x 0))).setCell ⟨w.heap.size, 1, none⟩ (.int .u64 (d x 1))).setCell ⟨w.heap.size, 2, none⟩ (.int .u64 (d x 2))).setCell ⟨w.heap.size, 3, none⟩ (.int .u64 (d x 3))).setCell ⟨w.heap.size, 4, none⟩ (.int .u64 (d x 4))).setCell ⟨w.heap.size, 5, none⟩ (.int .u64 (d x 5))).setCell ⟨w.heap.size, 6, none⟩ (.int .u64 (d x 6))).setCell ⟨w.heap.size, 7, none⟩ (.int .u64 (d x 7))).setCell ⟨w.heap.size + 1, 0, none⟩ (.int .u64 (d y 0))).setCell ⟨w.heap.size + 1, 1, none⟩ (.int .u64 (d y 1))).setCell ⟨w.heap.size + 1, 2, none⟩ (.int .u64 (d y 2))).setCell ⟨w.heap.size + 1, 3, none⟩ (.int .u64 (d y 3))) = wz at GE ⊢
    clear o0 f0 o1 f1 o2 f2 o3 f3 o4 f4 o5 f5 o6 f6 o7 f7 p0 g0 p1 g1 p2 g2 p3 g3 a0 a1 a2 a3 a4 a5 a6 a7 b0 b1 b2 b3 c0 c1 c2 c3 GB GA G
    have q3 : wz.cell? ⟨w.heap.size, 3, none⟩ = some (.int .u64 (d x 3)) := (arow_cell GE.out.ha 3).trans rfl
    have q4 : wz.cell? ⟨w.heap.size, 4, none⟩ = some (.int .u64 (d x 4)) := (arow_cell GE.out.ha 4).trans rfl
    have r3 : wz.cell? ⟨w.heap.size + 1, 3, none⟩ = some (.int .u64 (d y 3)) := (arow_cell GE.out.hb 3).trans rfl
    by_cases c : d y 3 ≤ d x 4
    · have HC := Lib.hid (show (18446744073709551615 : Int) = g by rw [HG.out, gs, if_pos c])
      have e1 : decide (d y 3 ≤ d x 4) = true := decide_eq_true c
      clear c
      go_wp2
      go_ret
      exact ⟨by rw [← HC.out]; rfl, GE.out.hw⟩
    · obtain ⟨r, hr⟩ := Classical.skolem.1 (fun w => HD.out w (by omega))
      have HR := Lib.hid hr
      have e1 : decide (d y 3 ≤ d x 4) = false := decide_eq_false c
      clear c hr
      go_wp2_with (go_at_call 46; refine (HR.out _).mono ?_; rintro e wc ⟨rfl, hbc⟩)
      go_ret
      exact ⟨rfl, GE.out.hw.trans (hbc.mono GE.out.hw.size)⟩

theorem guess_any (A B : Array Value) (a b : Int) (hA : A = #[.int .u64 (d a 0), .int .u64 (d a 1), .int .u64 (d a 2), .int .u64 (d a 3), .int .u64 (d a 4), .int .u64 (d a 5), .int .u64 (d a 6), .int .u64 (d a 7)]) (hB : B = #[.int .u64 (d b 0), .int .u64 (d b 1), .int .u64 (d b 2), .int .u64 (d b 3)]) (ha : 0 ≤ a) (hb : In 4 b) (h0 : 0 < b) (hab : a < b * 18446744073709551616) :
    ∃ g, a / b ≤ g ∧ Limb g ∧ ∀ w : World, Calls Try.prog 51 #[.agg A, .agg B] w fun e w' => e = .returned (.int .u64 g) ∧ Below w.heap.size w w' := by
  subst hA hB
  have hm := blN_le b.toNat 256 (by
    have h := hb.2
    have e4 : pw 4 = 115792089237316195423570985008687907853269984665640564039457584007913129639936 := by rfl
    rw [e4] at h
    have := hb.1
    omega)
  obtain ⟨s, hs⟩ : ∃ s, blN b.toNat + s = 256 := ⟨256 - blN b.toNat, by omega⟩
  obtain ⟨g1, g2, _, _⟩ := gs_ok a b s ha hb h0 hab hs
  refine ⟨gs (upI a s) (upI b s), g1, g2, fun w => guess_fn a b _ s _ w rfl hs hb rfl fun w hlt => ?_⟩
  have h := div64_any (d (upI a s) 4) (d (upI a s) 3) (d (upI b s) 3) w ⟨d_lo _ _, hlt⟩ (Limb.d _ _) (Limb.d _ _)
  refine ⟨(d (upI a s) 4 * 18446744073709551616 + d (upI a s) 3) % d (upI b s) 3, ?_⟩
  rw [show gs (upI a s) (upI b s) = (d (upI a s) 4 * 18446744073709551616 + d (upI a s) 3) / d (upI b s) 3 by rw [gs, if_neg (by omega)]]
  exact h
end Go.Proofs.Ytiglhgcckceikaa
