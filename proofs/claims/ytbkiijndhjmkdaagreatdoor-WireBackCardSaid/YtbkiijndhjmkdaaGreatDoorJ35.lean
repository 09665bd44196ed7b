/- The law's cert: a certificate that is cut into new memory. -/
import Derived.Test.YtbkiijndhjmkdaaGreatDoorJ34
import Derived.Test.YtbkiijndhjmkdaaGreatDoorJ28
namespace Go.Proofs.YtbkiijndhjmkdaaGreatDoor
open Go.RowKit

def revTo (r : RevR) : RevR := { r with slot := slotTo r.slot }
def certTo (c : CertR) : CertR := ⟨c.root, c.signed, (c.reveals.take 8).map revTo, c.coins.take 650, textsTo c.slotProof 20, textsTo c.partProof 20⟩
/-- a Cert's lists are as long as lists can be -/
structure CertS (x : CertE) : Prop where
  s : x.sp.length ≤ maxLen ∧ ∀ i (h : i < x.sp.length), x.sp[i].length ≤ maxLen
  p : x.pp.length ≤ maxLen ∧ ∀ i (h : i < x.pp.length), x.pp[i].length ≤ maxLen
  co : x.coins.length ≤ x.cc ∧ x.cc ≤ maxLen
  r : x.rl.length ≤ maxLen
  w : ∀ y ∈ x.rl, y.r.slot.sig.wots.length ≤ maxLen ∧ ∀ i (h : i < y.r.slot.sig.wots.length), y.r.slot.sig.wots[i].length ≤ maxLen
  q : ∀ y ∈ x.rl, y.r.slot.sig.path.length ≤ maxLen ∧ ∀ i (h : i < y.r.slot.sig.path.length), y.r.slot.sig.path[i].length ≤ maxLen
theorem own_keep {w w' : World} {base E sz n : Nat} {v : Value} {xs : List Value} (h : w.ownsRow base E sz v n xs) (hk : ∀ k, k < w.heap.size → w'.heap[k]? = w.heap[k]?) : w'.ownsRow base E sz v n xs := by
  obtain ⟨h1, h2⟩ := h
  refine ⟨h1, ?_⟩
  rcases h2 with h | ⟨g, cap, cur, a, b, c, d⟩
  · exact .inl h
  · exact .inr ⟨g, cap, cur, a, b, (hk g (lit_lt c)).trans c, d⟩
/-- what is so while a certificate's Reveals are cut -/
structure CutL (w6 : World) (rl : List RevE) (k : Nat) (ys : List RevE) (lv : Value) (wr : World) : Prop where
  own : wr.ownsRow w6.heap.size 93 11 lv k (ys.flatMap revQ)
  eq : ys.map (·.r) = ((rl.map (·.r)).take k).map revTo
  cut : ∀ y ∈ ys, Fresh w6.heap.size y.wa y.r.slot.sig.wots wr ∧ Fresh w6.heap.size y.pa y.r.slot.sig.path wr
  b : Below w6.heap.size w6 wr
theorem CutL.start (w6 : World) (rl : List RevE) : CutL w6 rl 0 [] (.slice none 0 0) w6 := ⟨World.ownsRow_nil _ _ _ _, rfl, (fun _ h => by cases h), Below.refl _ _⟩
theorem Fresh.grow {lo lo' : Nat} {ao : Option Addr} {L : List (List UInt8)} {w w' : World} (h : Fresh lo ao L w) (hl : lo' ≤ lo) (hs : w.heap.size ≤ w'.heap.size) (hk : ∀ k, lo ≤ k → k < w.heap.size → (∃ s, w.cell? ⟨k, 0, none⟩ = some (.string s)) → w'.heap[k]? = w.heap[k]?) : Fresh lo' ao L w' := by
  rcases h with h | ⟨b, h1, h2, h3, h4⟩
  · exact .inl h
  · by_cases hL : L = []
    · exact .inl hL
    · have hl0 := List.length_pos_iff.2 hL
      exact .inr ⟨b, h1, by omega, by omega, fun i hi => (World.cell?_of_block (a := ⟨b, i, none⟩) (hk b h2 h3 ⟨_, h4 0 hl0⟩)).trans (h4 i hi)⟩
theorem CutL.step {w6 wr w9 w7 : World} {rl : List RevE} {k : Nat} {ys : List RevE} {lv v7 : Value} {y : RevE} {z : SlotR} {za zp : Option Addr} {zc zd : Nat} {obj : Obj} (h : CutL w6 rl k ys lv wr) (hb : Below wr.heap.size wr w9) (hF1 : Fresh (wr.heap.size + 1) za z.sig.wots w9) (hF2 : Fresh (wr.heap.size + 1) zp z.sig.path w9) (hown7 : w7.ownsRow w6.heap.size 93 11 v7 (k + 1) (ys.flatMap revQ ++ revQ ⟨⟨y.r.pos, z, y.r.part⟩, za, zc, zp, zd⟩)) (hg7 : (w9.alloc obj).grownBy w7 lv.ownBlock) (hz : z = slotTo y.r.slot) (hyk : rl[k]? = some y) : CutL w6 rl (k + 1) (ys ++ [⟨⟨y.r.pos, z, y.r.part⟩, za, zc, zp, zd⟩]) v7 w7 := by
  have hlt := h.own.lt
  have hs9 := hb.size
  have hs6 := h.b.size
  have hs7 : w9.heap.size ≤ w7.heap.size := by have := hg7.size; rw [World.size_alloc] at this; omega
  have keep : ∀ q, q < w9.heap.size → some q ≠ lv.ownBlock → w7.heap[q]? = w9.heap[q]? := fun q hq hne => (hg7.block q (by rw [World.size_alloc]; omega) hne).trans (heap_alloc_old _ _ hq)
  have old : ys ≠ [] → ∀ q, (∃ s, wr.cell? ⟨q, 0, none⟩ = some (.string s)) → some q ≠ lv.ownBlock := by
    rintro hne q ⟨s, hs⟩ hq
    obtain ⟨hn, ⟨e, _⟩ | ⟨g, cap, cur, e, hb, hg0, hc1, hc2, hc3, hc4⟩⟩ := h.own
    · rw [e] at hq; cases hq
    · rw [e] at hq
      cases hq
      cases ys with
      | nil => exact hne rfl
      | cons a al =>
        rw [lit_cell hg0] at hs
        have hlk : 0 < k * 11 := by
          rw [← hn, List.flatMap_cons, List.length_append]
          have : (revQ a).length = 11 := rfl
          omega
        have e2 : (cur.toList.take (k * 11))[0]? = some (.string s) := by
          rw [List.getElem?_take_of_lt hlk, Array.getElem?_toList]; exact hs
        rw [hc4, List.flatMap_cons] at e2
        cases e2
  refine ⟨by rw [List.flatMap_append, List.flatMap_cons, List.flatMap_nil, List.append_nil]; exact hown7, ?_, fun x hx => ?_, ?_⟩
  · rw [List.map_append, h.eq, List.take_add_one, List.map_append, List.getElem?_map, hyk, hz]
    rfl
  · rcases List.mem_append.1 hx with hx | hx
    · obtain ⟨h1, h2⟩ := h.cut x hx
      have hne : ys ≠ [] := by intro e; rw [e] at hx; cases hx
      have kk : ∀ q, w6.heap.size ≤ q → q < wr.heap.size → (∃ s, wr.cell? ⟨q, 0, none⟩ = some (.string s)) → w7.heap[q]? = wr.heap[q]? := fun q _ hq hst => (keep q (by omega) (old hne q hst)).trans (hb.block q hq)
      exact ⟨h1.grow (Nat.le_refl _) (by omega) kk, h2.grow (Nat.le_refl _) (by omega) kk⟩
    · obtain rfl := List.mem_singleton.1 hx
      have new : ∀ q, wr.heap.size + 1 ≤ q → q < w9.heap.size → (∃ s, w9.cell? ⟨q, 0, none⟩ = some (.string s)) → w7.heap[q]? = w9.heap[q]? := fun q hq hq9 _ => keep q hq9 (fun e => by have := (hlt q e.symm).2; omega)
      exact ⟨hF1.grow (by omega) hs7 new, hF2.grow (by omega) hs7 new⟩
  · exact ((h.b.trans (hb.mono hs6)).trans ((by0 w9 obj).mono (by omega))).grown hg7 (by rw [World.size_alloc]; omega) (fun q e => (hlt q e).1)
theorem revs_get (x : RevE) (j : Nat) (hj : j < 11) : ∀ (ys : List RevE) (i : Nat), ys[i]? = some x → (ys.flatMap revQ)[i * 11 + j]? = (revQ x)[j]?
  | [], i, h => by cases h
  | y :: ys, 0, h => by
    cases h
    rw [List.flatMap_cons, Nat.zero_mul, Nat.zero_add, List.getElem?_append_left (by simp [revQ]; omega)]
  | y :: ys, i + 1, h => by
    rw [List.flatMap_cons, List.getElem?_append_right (by simp [revQ]; omega), show (i + 1) * 11 + j - (revQ y).length = i * 11 + j by simp [revQ]; omega]
    exact revs_get x j hj ys i h
/-- a list that lies far: from a block on -/
def FarS {α : Type} (lo : Nat) (ao : Option Addr) (L : List α) : Prop := L = [] ∨ ∃ b off, ao = some ⟨b, off, none⟩ ∧ lo ≤ b
theorem FarS.weak {α : Type} {lo lo' : Nat} {ao : Option Addr} {L : List α} (h : FarS lo ao L) (hl : lo' ≤ lo) : FarS lo' ao L := by
  rcases h with h | ⟨b, off, h1, h2⟩
  · exact .inl h
  · exact .inr ⟨b, off, h1, by omega⟩
theorem Fresh.far {lo lo' : Nat} {ao : Option Addr} {L : List (List UInt8)} {w : World} (h : Fresh lo ao L w) (hl : lo' ≤ lo) : FarS lo' ao L := by
  rcases h with h | ⟨b, h1, h2, _, _⟩
  · exact .inl h
  · exact .inr ⟨b, 0, h1, by omega⟩
/-- a certificate's lists lie far -/
structure FarC (lo : Nat) (y : CertE) : Prop where
  r : FarS lo y.ra y.rl
  x : ∀ z ∈ y.rl, FarS lo z.wa z.r.slot.sig.wots ∧ FarS lo z.pa z.r.slot.sig.path
  s : FarS lo y.sa y.sp
  p : FarS lo y.pa y.pp
theorem CutL.revs {w6 wr : World} {rl : List RevE} {k : Nat} {ys : List RevE} {lv : Value} (h : CutL w6 rl k ys lv wr) (hk : k ≤ rl.length) : ∃ ao cp, lv = .slice ao ys.length cp ∧ FarS w6.heap.size ao ys ∧ ∀ w', (∀ q, w6.heap.size ≤ q → q < wr.heap.size → w'.heap[q]? = wr.heap[q]?) → wr.heap.size ≤ w'.heap.size → Revs ao ys w' := by
  have hn : ys.length = k := by
    have := congrArg List.length h.eq
    rw [List.length_map, List.length_map, List.length_take, List.length_map] at this
    omega
  obtain ⟨h1, ⟨rfl, rfl⟩ | ⟨g, cap, cur, rfl, hb, hg0, hc1, hc2, hc3, hc4⟩⟩ := h.own
  · exact ⟨none, 0, by rw [hn], .inl (List.eq_nil_of_length_eq_zero hn), fun _ _ _ => .inl (List.eq_nil_of_length_eq_zero hn)⟩
  · refine ⟨_, cap, by rw [hn], .inr ⟨g, 0, rfl, hb⟩, fun w' hw hs => .inr ⟨g, 0, rfl, Nat.lt_of_lt_of_le (lit_lt hg0) hs, fun i x hx j hj => ?_⟩⟩
    have hi : i < ys.length := (List.getElem?_eq_some_iff.1 hx).1
    rw [lit_cell ((hw g hb (lit_lt hg0)).trans hg0), Nat.zero_add, ← revs_get x j hj ys i hx, ← hc4, List.getElem?_take_of_lt (by omega), Array.getElem?_toList]
set_option maxRecDepth 100000 in
set_option maxHeartbeats 4000000 in
theorem cutcert2_any (x : CertE) (w : World) (hM : CertM x w) (hS : CertS x) :
    Calls Tryz.prog 24 #[certV x] w fun e w' => (∃ y : CertE, y.r = certTo x.r ∧ e = .returned (certV y) ∧ CertM y w' ∧ FarC w.heap.size y ∧ y.ca = x.ca) ∧ Below w.heap.size w w' := by
  obtain ⟨root, sg, rl, co, sp, pp, ra, rc, ca, cc, sa, sc, pa, pc⟩ := x
  have hb0 : Below w.heap.size w ((w.alloc (.cells #[.string ⟨root.toArray⟩, .int .u64 (sg : Int), .slice ra rl.length rc, .slice ca co.length cc, .slice sa sp.length sc, .slice pa pp.length pc] 60)).alloc (.cells #[.string ⟨#[]⟩, .int .u64 0, .slice none 0 0, .slice none 0 0, .slice none 0 0, .slice none 0 0] 60)) := (by0 w _).alloc (by simp) _
  have hz0 : ((w.alloc (.cells #[.string ⟨root.toArray⟩, .int .u64 (sg : Int), .slice ra rl.length rc, .slice ca co.length cc, .slice sa sp.length sc, .slice pa pp.length pc] 60)).alloc (.cells #[.string ⟨#[]⟩, .int .u64 0, .slice none 0 0, .slice none 0 0, .slice none 0 0, .slice none 0 0] 60)).heap.size = w.heap.size + 1 + 1 := by simp
  have hx0 : ((w.alloc (.cells #[.string ⟨root.toArray⟩, .int .u64 (sg : Int), .slice ra rl.length rc, .slice ca co.length cc, .slice sa sp.length sc, .slice pa pp.length pc] 60)).alloc (.cells #[.string ⟨#[]⟩, .int .u64 0, .slice none 0 0, .slice none 0 0, .slice none 0 0, .slice none 0 0] 60)).heap[w.heap.size]? = some (.cells #[.string ⟨root.toArray⟩, .int .u64 (sg : Int), .slice ra rl.length rc, .slice ca co.length cc, .slice sa sp.length sc, .slice pa pp.length pc] 60 (0, 0)) := lit_old _ (heap_alloc_new w _)
  have hr0 : ((w.alloc (.cells #[.string ⟨root.toArray⟩, .int .u64 (sg : Int), .slice ra rl.length rc, .slice ca co.length cc, .slice sa sp.length sc, .slice pa pp.length pc] 60)).alloc (.cells #[.string ⟨#[]⟩, .int .u64 0, .slice none 0 0, .slice none 0 0, .slice none 0 0, .slice none 0 0] 60)).heap[w.heap.size + 1]? = some (.cells #[.string ⟨#[]⟩, .int .u64 0, .slice none 0 0, .slice none 0 0, .slice none 0 0, .slice none 0 0] 60 (0, 0)) := by
    rw [show w.heap.size + 1 = (w.alloc (.cells #[.string ⟨root.toArray⟩, .int .u64 (sg : Int), .slice ra rl.length rc, .slice ca co.length cc, .slice sa sp.length sc, .slice pa pp.length pc] 60)).heap.size by simp]; exact heap_alloc_new _ _
  have HB := Lib.hid hb0
  have HZ := Lib.hid hz0
  have HX := Lib.hid hx0
  have HR := Lib.hid hr0
  have HM := Lib.hid hM
  have HS := Lib.hid hS
  have HT1 := Lib.hid (fun (wz : World) (h : Strs sa sp wz) => texts_any sa sc 20 sp wz (by decide) hS.s.1 hS.s.2 h)
  have HT2 := Lib.hid (fun (wz : World) (h : Strs pa pp wz) => texts_any pa pc 20 pp wz (by decide) hS.p.1 hS.p.2 h)
  clear hb0 hz0 hx0 hr0 hM hS
  go_enter Tryz.func24, Tryz.ntmps24
  go_upto_region 1 with fail
  change Code.wp _ _ _ _ ((w.alloc (.cells #[.string ⟨root.toArray⟩, .int .u64 (sg : Int), .slice ra rl.length rc, .slice ca co.length cc, .slice sa sp.length sc, .slice pa pp.length pc] 60)).alloc (.cells #[.string ⟨#[]⟩, .int .u64 0, .slice none 0 0, .slice none 0 0, .slice none 0 0, .slice none 0 0] 60))
  generalize (w.alloc (.cells #[.string ⟨root.toArray⟩, .int .u64 (sg : Int), .slice ra rl.length rc, .slice ca co.length cc, .slice sa sp.length sc, .slice pa pp.length pc] 60)).alloc (.cells #[.string ⟨#[]⟩, .int .u64 0, .slice none 0 0, .slice none 0 0, .slice none 0 0, .slice none 0 0] 60) = w1 at *
  have hz := HZ.out
  have p4 := (lit_cell HX.out 4).trans rfl
  go_upto_region 2 with (go_at_call 51; refine (HT1.out _ (HM.out.s.below (Nat.le_refl _) HB.out)).mono ?_; rintro e w2 ⟨sa2, sc2, rfl, hS1, hb2⟩; have hX2 := (hb2.block w.heap.size (by omega)).trans HX.out; have q4 := (lit_cell hX2 4).trans rfl; have f4 := lit_free hX2 4)
  have hz2 := hb2.size
  have hb02 := HB.out.trans (hb2.mono (by omega))
  have hR2 := (hb2.block (w.heap.size + 1) (by omega)).trans HR.out
  have hx3 := lit_set (k := 4) (.slice sa2 (textsTo sp 20).length sc2) hX2
  have ho3 := Only.set w.heap.size 4 (.slice sa2 (textsTo sp 20).length sc2) w2
  have hb03 := hb02.trans (ho3.below (Nat.le_refl _) hb02.size)
  have hS3 := hS1.to (fun k hk hl => ho3.block k hl (by omega)) ho3.size
  have hR3 := (ho3.block (w.heap.size + 1) (by omega) (by omega)).trans hR2
  have hz3 : (w2.setCell ⟨w.heap.size, 4, none⟩ (.slice sa2 (textsTo sp 20).length sc2)).heap.size = w2.heap.size := by simp
  generalize w2.setCell ⟨w.heap.size, 4, none⟩ (.slice sa2 (textsTo sp 20).length sc2) = w3 at *
  have p5 := (lit_cell hx3 5).trans rfl
  clear hS1 ho3 hX2 hR2 q4 f4 p4
  go_upto_region 3 with (go_at_call 51; refine (HT2.out _ (HM.out.p.below (Nat.le_refl _) hb03)).mono ?_; rintro e w4 ⟨pa2, pc2, rfl, hS2, hb4⟩; have hX4 := (hb4.block w.heap.size (by omega)).trans hx3; have q5 := (lit_cell hX4 5).trans rfl; have f5 := lit_free hX4 5)
  have hz4 := hb4.size
  have hb04 := hb03.trans (hb4.mono (by omega))
  have hS4 := hS3.to (fun k hk hl => hb4.block k (by omega)) hb4.size
  have hR4 := (hb4.block (w.heap.size + 1) (by omega)).trans hR3
  have hx5 := lit_set (k := 5) (.slice pa2 (textsTo pp 20).length pc2) hX4
  have ho5 := Only.set w.heap.size 5 (.slice pa2 (textsTo pp 20).length pc2) w4
  have hb05 := hb04.trans (ho5.below (Nat.le_refl _) hb04.size)
  have hS5 := hS4.to (fun k hk hl => ho5.block k hl (by omega)) ho5.size
  have hT5 := hS2.to (fun k hk hl => ho5.block k hl (by omega)) ho5.size
  have hR5 := (ho5.block (w.heap.size + 1) (by omega) (by omega)).trans hR4
  have hz5 : (w4.setCell ⟨w.heap.size, 5, none⟩ (.slice pa2 (textsTo pp 20).length pc2)).heap.size = w4.heap.size := by simp
  generalize w4.setCell ⟨w.heap.size, 5, none⟩ (.slice pa2 (textsTo pp 20).length pc2) = w5 at *
  have p3 := (lit_cell hx5 3).trans rfl
  have f3 := lit_free hx5 3
  clear hS2 hS3 hS4 hR3 hR4 hX4 q5 f5 p5 ho5 HT1 HT2 hx3
  obtain ⟨m, hm1, hm2, hm3, hm4⟩ : ∃ m : Nat, min (co.length : Int) 650 = (m : Int) ∧ m ≤ co.length ∧ (co.take 650).length = m ∧ m ≤ 650 := ⟨min co.length 650, by omega, by omega, by rw [List.length_take, Nat.min_comm], by omega⟩
  have m0 : (0 : Int) ≤ (m : Int) := by omega
  have m1 : (m : Int) ≤ (cc : Int) := by have := HS.out.co.1; dsimp only at this; omega
  have HS5 := Lib.hid (hS5.keep (lo' := w.heap.size + 1 + 1) (by omega) (fun _ _ => rfl) (Nat.le_refl _))
  have HT5 := Lib.hid (hT5.keep (lo' := w.heap.size + 1 + 1) (by omega) (fun _ _ => rfl) (Nat.le_refl _))
  have HB5 := Lib.hid hb05
  have HX5 := Lib.hid hx5
  have HR5 := Lib.hid hR5
  have HZ5 : Hid (w.heap.size + 1 + 1 ≤ w5.heap.size) := Lib.hid (by omega)
  clear hS5 hT5 hb05 hx5 hR5 hz hz2 hz3 hz4 hz5 hb02 hb03 hb04 hb2 hb4
  go_upto_region 5 with fail
  have hx6 := lit_set (k := 3) (.slice ca m cc) HX5.out
  have ho6 := Only.set w.heap.size 3 (.slice ca m cc) w5
  have HB6 := Lib.hid (HB5.out.trans (ho6.below (Nat.le_refl _) HB5.out.size))
  have HS6 := Lib.hid (HS5.out.to (fun k hk hl => ho6.block k hl (by omega)) ho6.size)
  have HT6 := Lib.hid (HT5.out.to (fun k hk hl => ho6.block k hl (by omega)) ho6.size)
  have HR6 := Lib.hid ((ho6.block (w.heap.size + 1) (lit_lt HR5.out) (by omega)).trans HR5.out)
  have HZ6 : Hid (w.heap.size + 1 + 1 ≤ (w5.setCell ⟨w.heap.size, 3, none⟩ (.slice ca m cc)).heap.size) := Lib.hid (by have := HZ5.out; simp; exact this)
  generalize w5.setCell ⟨w.heap.size, 3, none⟩ (.slice ca m cc) = w6 at *
  have HX6 := Lib.hid hx6
  have HN6 : Hid (w.heap.size < w6.heap.size) := Lib.hid (lit_lt hx6)
  clear hx6 ho6 p3 f3 HS5 HT5 HB5 HX5 HR5 HZ5
  obtain ⟨i0, hi, hz, hs, hby⟩ := infoRev
  go_wp2
  go_loopw [3, 4] (fun lv iv wr => ∃ (k : Nat) (ys : List RevE), k ≤ rl.length ∧ k ≤ 8 ∧ iv = .int .i64 (k : Int) ∧ Hid (CutL w6 rl k ys lv wr)) (fun _ iv _ => rl.length - (intOf iv).toNat)
  case atStart => exact ⟨0, [], by omega, by omega, rfl, Lib.hid (CutL.start w6 rl)⟩
  case round =>
    obtain ⟨k, ys, hk, hk8, rfl, HL⟩ := hrel
    have hxr := (HL.out.b.block w.heap.size HN6.out).trans HX6.out
    have c2 := (lit_cell hxr 2).trans rfl
    have k0 : (0 : Int) ≤ (k : Int) := by omega
    by_cases hlt : k < rl.length ∧ k < 8
    · obtain ⟨hlt1, hlt2⟩ := hlt
      have k1 : (k : Int) < (rl.length : Int) := by omega
      have k2 : (k : Int) < (8 : Int) := by omega
      obtain ⟨y, hy⟩ : ∃ y, rl[k] = y := ⟨_, rfl⟩
      have hyk : rl[k]? = some y := by rw [List.getElem?_eq_getElem hlt1, hy]
      have hymem : y ∈ rl := hy ▸ List.getElem_mem hlt1
      rcases HM.out.r with hnil | ⟨bb, off, hra, hbb, hcs⟩
      · exact absurd hnil (by intro e; dsimp only at e; rw [e] at hlt1; exact absurd hlt1 (by simp))
      dsimp only at hra hcs
      subst hra
      have hbr : wr.heap[bb]? = w.heap[bb]? := (HL.out.b.block bb (by have := HN6.out; omega)).trans (HB6.out.block bb hbb)
      obtain ⟨d0, d1, d2, d3, d4, d5, d6, d7, d8, d9, d10⟩ := rev_cells (w := wr) (bb := bb) (q := off + k * 11) (x := y) (fun j hj => by rw [Nat.add_assoc]; exact (World.cell?_of_block (a := ⟨bb, off + (k * 11 + j), none⟩) hbr).trans (hcs k y hyk j hj))
      have HSM : Hid (SlotM ⟨y.r.slot, y.wa, y.wc, y.pa, y.pc⟩ w) := Lib.hid ⟨(HM.out.x y hymem).1, (HM.out.x y hymem).2⟩
      have HCS := Lib.hid (fun (wz : World) (h : SlotM ⟨y.r.slot, y.wa, y.wc, y.pa, y.pc⟩ wz) => cutslot2_any ⟨y.r.slot, y.wa, y.wc, y.pa, y.pc⟩ wz h (HS.out.w y hymem).1 (HS.out.w y hymem).2 (HS.out.q y hymem).1 (HS.out.q y hymem).2)
      have HYK := Lib.hid hyk
      have HXR := Lib.hid hxr
      have HNX := Lib.hid (heap_alloc_new wr (.cells (revQ y).toArray 93))
      have HBA := Lib.hid (by0 wr (.cells (revQ y).toArray 93))
      have HZA : Hid ((wr.alloc (.cells (revQ y).toArray 93)).heap.size = wr.heap.size + 1) := Lib.hid (by simp)
      clear hy hyk hymem hbb hcs hbr hxr
      go_upto_region 9 with fail
      change Code.wp _ _ _ _ (wr.alloc (.cells (revQ y).toArray 93))
      generalize wr.alloc (.cells (revQ y).toArray 93) = wb at *
      have hnx := HNX.out
      simp only [revQ] at hnx
      have e1 := (lit_cell hnx 1).trans rfl; have e2 := (lit_cell hnx 2).trans rfl; have e3 := (lit_cell hnx 3).trans rfl; have e4 := (lit_cell hnx 4).trans rfl; have e5 := (lit_cell hnx 5).trans rfl
      have hza := HZA.out
      have hb0b := HB6.out.trans ((HL.out.b.mono HB6.out.size).trans (HBA.out.mono (by have := HL.out.b.size; have := HB6.out.size; omega)))
      have HSB := Lib.hid (HCS.out wb ⟨HSM.out.ws.below (Nat.le_refl _) hb0b, HSM.out.ps.below (Nat.le_refl _) hb0b⟩)
      clear d0 d1 d2 d3 d4 d5 d6 d7 d8 d9 d10 c2 HCS HSM hb0b
      go_upto_region 10 with (go_at_call 18; refine HSB.out.mono ?_; rintro e w8 ⟨⟨⟨z, za, zc, zp, zd⟩, hz8, rfl, hF1, hF2⟩, hb8⟩; have HZ8 := Lib.hid hz8; clear hz8; have hX8 := (hb8.block wr.heap.size (by omega)).trans hnx; have g1 := lit_free hX8 1; have g2 := lit_free hX8 2; have g3 := lit_free hX8 3; have g4 := lit_free hX8 4; have g5 := lit_free hX8 5; have i1 := (lit_cell hX8 1).trans rfl; have i2 := (lit_cell hX8 2).trans rfl; have i3 := (lit_cell hX8 3).trans rfl; have i4 := (lit_cell hX8 4).trans rfl; have i5 := (lit_cell hX8 5).trans rfl)
      have hX9 := lit_set (k := 5) (.slice zp z.sig.path.length zd) (lit_set (k := 4) (.slice za z.sig.wots.length zc) (lit_set (k := 3) (.int .u64 (z.sig.index : Int)) (lit_set (k := 2) (.bool z.signed) (lit_set (k := 1) (.int .u64 (z.l : Int)) (hX8)))))
      have ho9 : Only wr.heap.size w8 ((((((w8).setCell ⟨wr.heap.size, 1, none⟩ (.int .u64 (z.l : Int))).setCell ⟨wr.heap.size, 2, none⟩ (.bool z.signed)).setCell ⟨wr.heap.size, 3, none⟩ (.int .u64 (z.sig.index : Int))).setCell ⟨wr.heap.size, 4, none⟩ (.slice za z.sig.wots.length zc)).setCell ⟨wr.heap.size, 5, none⟩ (.slice zp z.sig.path.length zd)) := ((((((Only.refl wr.heap.size w8).trans (Only.set wr.heap.size 1 (.int .u64 (z.l : Int)) (w8))).trans (Only.set wr.heap.size 2 (.bool z.signed) ((w8).setCell ⟨wr.heap.size, 1, none⟩ (.int .u64 (z.l : Int))))).trans (Only.set wr.heap.size 3 (.int .u64 (z.sig.index : Int)) (((w8).setCell ⟨wr.heap.size, 1, none⟩ (.int .u64 (z.l : Int))).setCell ⟨wr.heap.size, 2, none⟩ (.bool z.signed)))).trans (Only.set wr.heap.size 4 (.slice za z.sig.wots.length zc) ((((w8).setCell ⟨wr.heap.size, 1, none⟩ (.int .u64 (z.l : Int))).setCell ⟨wr.heap.size, 2, none⟩ (.bool z.signed)).setCell ⟨wr.heap.size, 3, none⟩ (.int .u64 (z.sig.index : Int))))).trans (Only.set wr.heap.size 5 (.slice zp z.sig.path.length zd) (((((w8).setCell ⟨wr.heap.size, 1, none⟩ (.int .u64 (z.l : Int))).setCell ⟨wr.heap.size, 2, none⟩ (.bool z.signed)).setCell ⟨wr.heap.size, 3, none⟩ (.int .u64 (z.sig.index : Int))).setCell ⟨wr.heap.size, 4, none⟩ (.slice za z.sig.wots.length zc))))
      have hs9 : ((((((w8).setCell ⟨wr.heap.size, 1, none⟩ (.int .u64 (z.l : Int))).setCell ⟨wr.heap.size, 2, none⟩ (.bool z.signed)).setCell ⟨wr.heap.size, 3, none⟩ (.int .u64 (z.sig.index : Int))).setCell ⟨wr.heap.size, 4, none⟩ (.slice za z.sig.wots.length zc)).setCell ⟨wr.heap.size, 5, none⟩ (.slice zp z.sig.path.length zd)).heap.size = w8.heap.size := by simp
      generalize (((((w8).setCell ⟨wr.heap.size, 1, none⟩ (.int .u64 (z.l : Int))).setCell ⟨wr.heap.size, 2, none⟩ (.bool z.signed)).setCell ⟨wr.heap.size, 3, none⟩ (.int .u64 (z.sig.index : Int))).setCell ⟨wr.heap.size, 4, none⟩ (.slice za z.sig.wots.length zc)).setCell ⟨wr.heap.size, 5, none⟩ (.slice zp z.sig.path.length zd) = w9 at *
      have j0 := (lit_cell hX9 0).trans rfl; have j1 := (lit_cell hX9 1).trans rfl; have j2 := (lit_cell hX9 2).trans rfl; have j3 := (lit_cell hX9 3).trans rfl; have j4 := (lit_cell hX9 4).trans rfl; have j5 := (lit_cell hX9 5).trans rfl; have j6 := (lit_cell hX9 6).trans rfl; have j7 := (lit_cell hX9 7).trans rfl; have j8 := (lit_cell hX9 8).trans rfl; have j9 := (lit_cell hX9 9).trans rfl; have j10 := (lit_cell hX9 10).trans rfl
      have hs8b := hb8.size
      have HB9 : Hid (Below wr.heap.size wr w9) := Lib.hid ((HBA.out.trans (hb8.mono (by omega))).trans (ho9.below (Nat.le_refl _) (by omega)))
      have HF1 := Lib.hid ((hF1.to (w' := w9) (fun q hq hl => ho9.block q hl (by omega)) ho9.size).keep (lo' := wr.heap.size + 1) (by omega) (fun _ _ => rfl) (Nat.le_refl _))
      have HF2 := Lib.hid ((hF2.to (w' := w9) (fun q hq hl => ho9.block q hl (by omega)) ho9.size).keep (lo' := wr.heap.size + 1) (by omega) (fun _ _ => rfl) (Nat.le_refl _))
      have HB8 := Lib.hid hb8
      have HO9 := Lib.hid ho9
      have HS9 := Lib.hid hs9
      have HSA : Hid (wr.heap.size + 1 ≤ w8.heap.size) := Lib.hid (by have := hb8.size; omega)
      have HOW : Hid (w9.ownsRow w6.heap.size 93 11 u3 k (ys.flatMap revQ)) := Lib.hid (own_keep HL.out.own (fun q hq => (ho9.block q (by omega) (by omega)).trans ((hb8.block q (by omega)).trans (HBA.out.block q hq))))
      clear hF1 hF2 hb8 ho9 hs9 hX8 hs8b g1 g2 g3 g4 g5 i1 i2 i3 i4 i5 e1 e2 e3 e4 e5 hnx hza hX9 HSB
      have HBS : Hid (w6.heap.size ≤ wr.heap.size) := Lib.hid HL.out.b.size
      go_upto_region 7 with (at_builtin; (refine wpList_append_own _ rfl _ _ 57 rfl w6.heap.size 93 i0 (.agg #[.int .u64 0, .int .u64 0, .bool false, .int .u64 0, .slice none 0 0, .slice none 0 0, .string ⟨#[]⟩, .int .u64 0, .int .u64 0, .int .u64 0, .int .u64 0]) 11 128 Tryz.underlying57 hi hz hs hby rfl (by decide) u3 k (ys.flatMap revQ) rfl (HOW.out.alloc _) ⟨w9.heap.size, 0, none⟩ 1 1 (revQ ⟨⟨y.r.pos, z, y.r.part⟩, za, zc, zp, zd⟩) rfl rfl (rev_new w9 ⟨⟨y.r.pos, z, y.r.part⟩, za, zc, zp, zd⟩ _) (rev_one _) (by unfold maxLen; omega) (by omega) (by rw [World.size_alloc]; have := HBS.out; have := HSA.out; have := HS9.out; omega) ?_); intro v7 w7 hown7 hg7 _)
      have HL2 := Lib.hid (CutL.step HL.out HB9.out HF1.out HF2.out hown7 hg7 HZ8.out HYK.out)
      clear hown7 hg7 j0 j1 j2 j3 j4 j5 j6 j7 j8 j9 j10
      go_wp2
      go_roundw
      case rel => exact ⟨k + 1, _, by omega, by omega, by go_num, HL2⟩
      case measure => simp [intOf]; omega
    · obtain ⟨ao, cp, rfl, hFR, hRV⟩ := HL.out.revs hk
      have HFR := Lib.hid hFR
      have hxw := (HL.out.b.block (w.heap.size + 1) (by have := HZ6.out; omega)).trans HR6.out
      have hx7 := lit_set (k := 2) (.slice ao ys.length cp) hxr
      have ho7 := Only.set w.heap.size 2 (.slice ao ys.length cp) wr
      have hr7 := (ho7.block (w.heap.size + 1) (lit_lt hxw) (by omega)).trans hxw
      have g2 := lit_free hxr 2
      have HTAKE : Hid ((rl.map (·.r)).take k = (rl.map (·.r)).take 8) := Lib.hid (by
        by_cases h : k < 8
        · have : k = rl.length := by omega
          rw [List.take_of_length_le (by simp; omega), List.take_of_length_le (by simp; omega)]
        · rw [show k = 8 by omega])
      have hcase : (¬ (k : Int) < (8 : Int) ∧ (k : Int) < (rl.length : Int)) ∨ ¬ (k : Int) < (rl.length : Int) := by omega
      have HRV := Lib.hid hRV
      clear hlt hRV hFR
      rcases hcase with ⟨k2, k1⟩ | k1
      all_goals
        go_upto_region 12 with fail
        have hs7 : (wr.setCell ⟨w.heap.size, 2, none⟩ (.slice ao ys.length cp)).heap.size = wr.heap.size := by simp
        generalize wr.setCell ⟨w.heap.size, 2, none⟩ (.slice ao ys.length cp) = w7 at *
        have a0 := (lit_cell hx7 0).trans rfl; have b0 := (lit_cell hr7 0).trans rfl; have f0 := lit_free hr7 0; have a1 := (lit_cell hx7 1).trans rfl; have b1 := (lit_cell hr7 1).trans rfl; have f1 := lit_free hr7 1; have a2 := (lit_cell hx7 2).trans rfl; have b2 := (lit_cell hr7 2).trans rfl; have f2 := lit_free hr7 2; have a3 := (lit_cell hx7 3).trans rfl; have b3 := (lit_cell hr7 3).trans rfl; have f3 := lit_free hr7 3; have a4 := (lit_cell hx7 4).trans rfl; have b4 := (lit_cell hr7 4).trans rfl; have f4 := lit_free hr7 4; have a5 := (lit_cell hx7 5).trans rfl; have b5 := (lit_cell hr7 5).trans rfl; have f5 := lit_free hr7 5
        go_wp2
        have hx8 := lit_set (k := 5) (.slice pa2 (textsTo pp 20).length pc2) (lit_set (k := 4) (.slice sa2 (textsTo sp 20).length sc2) (lit_set (k := 3) (.slice ca m cc) (lit_set (k := 2) (.slice ao ys.length cp) (lit_set (k := 1) (.int .u64 (sg : Int)) (lit_set (k := 0) (.string ⟨root.toArray⟩) (hr7))))))
        have ho8 : Only (w.heap.size + 1) w7 (((((((w7).setCell ⟨w.heap.size + 1, 0, none⟩ (.string ⟨root.toArray⟩)).setCell ⟨w.heap.size + 1, 1, none⟩ (.int .u64 (sg : Int))).setCell ⟨w.heap.size + 1, 2, none⟩ (.slice ao ys.length cp)).setCell ⟨w.heap.size + 1, 3, none⟩ (.slice ca m cc)).setCell ⟨w.heap.size + 1, 4, none⟩ (.slice sa2 (textsTo sp 20).length sc2)).setCell ⟨w.heap.size + 1, 5, none⟩ (.slice pa2 (textsTo pp 20).length pc2)) := (((((((Only.refl (w.heap.size + 1) w7).trans (Only.set (w.heap.size + 1) 0 (.string ⟨root.toArray⟩) (w7))).trans (Only.set (w.heap.size + 1) 1 (.int .u64 (sg : Int)) ((w7).setCell ⟨w.heap.size + 1, 0, none⟩ (.string ⟨root.toArray⟩)))).trans (Only.set (w.heap.size + 1) 2 (.slice ao ys.length cp) (((w7).setCell ⟨w.heap.size + 1, 0, none⟩ (.string ⟨root.toArray⟩)).setCell ⟨w.heap.size + 1, 1, none⟩ (.int .u64 (sg : Int))))).trans (Only.set (w.heap.size + 1) 3 (.slice ca m cc) ((((w7).setCell ⟨w.heap.size + 1, 0, none⟩ (.string ⟨root.toArray⟩)).setCell ⟨w.heap.size + 1, 1, none⟩ (.int .u64 (sg : Int))).setCell ⟨w.heap.size + 1, 2, none⟩ (.slice ao ys.length cp)))).trans (Only.set (w.heap.size + 1) 4 (.slice sa2 (textsTo sp 20).length sc2) (((((w7).setCell ⟨w.heap.size + 1, 0, none⟩ (.string ⟨root.toArray⟩)).setCell ⟨w.heap.size + 1, 1, none⟩ (.int .u64 (sg : Int))).setCell ⟨w.heap.size + 1, 2, none⟩ (.slice ao ys.length cp)).setCell ⟨w.heap.size + 1, 3, none⟩ (.slice ca m cc)))).trans (Only.set (w.heap.size + 1) 5 (.slice pa2 (textsTo pp 20).length pc2) ((((((w7).setCell ⟨w.heap.size + 1, 0, none⟩ (.string ⟨root.toArray⟩)).setCell ⟨w.heap.size + 1, 1, none⟩ (.int .u64 (sg : Int))).setCell ⟨w.heap.size + 1, 2, none⟩ (.slice ao ys.length cp)).setCell ⟨w.heap.size + 1, 3, none⟩ (.slice ca m cc)).setCell ⟨w.heap.size + 1, 4, none⟩ (.slice sa2 (textsTo sp 20).length sc2))))
        have hs8 : (((((((w7).setCell ⟨w.heap.size + 1, 0, none⟩ (.string ⟨root.toArray⟩)).setCell ⟨w.heap.size + 1, 1, none⟩ (.int .u64 (sg : Int))).setCell ⟨w.heap.size + 1, 2, none⟩ (.slice ao ys.length cp)).setCell ⟨w.heap.size + 1, 3, none⟩ (.slice ca m cc)).setCell ⟨w.heap.size + 1, 4, none⟩ (.slice sa2 (textsTo sp 20).length sc2)).setCell ⟨w.heap.size + 1, 5, none⟩ (.slice pa2 (textsTo pp 20).length pc2)).heap.size = w7.heap.size := by simp
        generalize ((((((w7).setCell ⟨w.heap.size + 1, 0, none⟩ (.string ⟨root.toArray⟩)).setCell ⟨w.heap.size + 1, 1, none⟩ (.int .u64 (sg : Int))).setCell ⟨w.heap.size + 1, 2, none⟩ (.slice ao ys.length cp)).setCell ⟨w.heap.size + 1, 3, none⟩ (.slice ca m cc)).setCell ⟨w.heap.size + 1, 4, none⟩ (.slice sa2 (textsTo sp 20).length sc2)).setCell ⟨w.heap.size + 1, 5, none⟩ (.slice pa2 (textsTo pp 20).length pc2) = w8 at *
        have z0 := (lit_cell hx8 0).trans rfl; have z1 := (lit_cell hx8 1).trans rfl; have z2 := (lit_cell hx8 2).trans rfl; have z3 := (lit_cell hx8 3).trans rfl; have z4 := (lit_cell hx8 4).trans rfl; have z5 := (lit_cell hx8 5).trans rfl
        have h60 := HZ6.out
        have hbs := HL.out.b.size
        have hb6 := HB6.out.size
        have hall : ∀ q, w.heap.size + 1 + 1 ≤ q → q < wr.heap.size → w8.heap[q]? = wr.heap[q]? := fun q hq hl => (ho8.block q (by omega) (by omega)).trans (ho7.block q hl (by omega))
        have hb8 : Below w.heap.size w w8 := ((HB6.out.trans (HL.out.b.mono hb6)).trans (ho7.below (Nat.le_refl _) (by omega))).trans (ho8.below (by omega) (by omega))
        have h66 : ∀ q, w.heap.size + 1 + 1 ≤ q → q < w6.heap.size → w8.heap[q]? = w6.heap[q]? := fun q hq hl => (hall q hq (by omega)).trans (HL.out.b.block q hl)
        subst hm3
        refine bodyPost_ret (v := certV ⟨root, sg, ys, co.take 650, textsTo sp 20, textsTo pp 20, ao, cp, ca, cc, sa2, sc2, pa2, pc2⟩) (by simp [results, Tryz.results24, go_sem, z0, z1, z2, z3, z4, z5]) rfl ⟨⟨_, ?_, rfl, ⟨HRV.out w8 (fun q hq hl => hall q (by omega) hl) (by omega), fun x hx => ⟨((HL.out.cut x hx).1.to (fun q hq hl => hall q (by omega) hl) (by omega)).strs, ((HL.out.cut x hx).2.to (fun q hq hl => hall q (by omega) hl) (by omega)).strs⟩, ?_, (HS6.out.to h66 (by omega)).strs, (HT6.out.to h66 (by omega)).strs⟩, ⟨HFR.out.weak (by omega), fun z hz => ⟨(HL.out.cut z hz).1.far (by omega), (HL.out.cut z hz).2.far (by omega)⟩, HS6.out.far (by omega), HT6.out.far (by omega)⟩, rfl⟩, hb8⟩
        · show (⟨root, sg, ys.map (·.r), co.take 650, textsTo sp 20, textsTo pp 20⟩ : CertR) = _
          rw [HL.out.eq, HTAKE.out]
          rfl
        · rcases HM.out.co with h | ⟨b, off, h1, h2, h3⟩
          · exact .inl (by rw [show co = [] from h]; rfl)
          · refine .inr ⟨b, off, h1, by omega, fun i hi => ?_⟩
            have hi2 : i < co.length := by rw [List.length_take] at hi; omega
            rw [List.getElem_take]
            exact (World.cell?_of_block (a := ⟨b, off + i, none⟩) (hb8.block b h2)).trans (h3 i hi2)
theorem cutcert_any (x : CertE) (w : World) (hM : CertM x w) (hS : CertS x) :
    Calls Tryz.prog 24 #[certV x] w fun e w' => (∃ y : CertE, y.r = certTo x.r ∧ e = .returned (certV y) ∧ CertM y w') ∧ Below w.heap.size w w' :=
  (cutcert2_any x w hM hS).mono fun _ _ ⟨⟨y, h1, h2, h3, _⟩, hb⟩ => ⟨⟨y, h1, h2, h3⟩, hb⟩
end Go.Proofs.YtbkiijndhjmkdaaGreatDoor
/- The law's WireCuts. -/
namespace Go.Proofs.YtbkiijndhjmkdaaGreatDoor
open Go.RowKit

theorem certTo_len (x : CertR) : (layCertP (certTo x)).1.length ≤ 60000 := layOr_len fun h => by
  unfold mayCertB at h
  simp only [Bool.and_eq_true, decide_eq_true_eq] at h
  obtain ⟨⟨⟨⟨⟨h0, h1⟩, h2⟩, h3⟩, h4⟩, h5⟩ := h
  have a := mapP_len (certF (certTo x))
  simp only [certF, List.map_cons, List.map_nil, List.sum_cons, List.sum_nil] at a ⊢
  have t1 : ∀ l : List (List UInt8), (textsTo l 20).length ≤ 20 := fun l => by rw [textsTo, List.length_map, List.length_take]; omega
  have b1 : (digsP (certTo x).partProof).length ≤ 3 + 20 * 35 := digsP_len ((mayB_iff _ _).2 ⟨t1 _, ((mayB_iff _ _).1 h1).2⟩)
  have b2 : (digsP (certTo x).slotProof).length ≤ 3 + 20 * 35 := digsP_len ((mayB_iff _ _).2 ⟨t1 _, ((mayB_iff _ _).1 h2).2⟩)
  have b3 := binP_len h0
  have b4 := numZ_len (certTo x).signed
  have b5 : (coinsP (certTo x).coins).length ≤ 3 + 640 * 9 := by
    unfold coinsP
    split
    · simp
    · have h6 := headP_len 3 (certTo x).coins.length
      have h7 := lists_len numP (fun _ => true) 9 (fun n _ => numP_len n) (certTo x).coins (by simp)
      rw [List.length_append]
      omega
  have b6 : (revsP (certTo x).reveals).length ≤ 3 + 8 * 3058 := by
    unfold revsP
    split
    · simp
    · have h6 := headP_len 3 (certTo x).reveals.length
      have h7 := lists_len (fun r => mapP (revF r)) mayRevB 3058 (fun r hr => rev_len hr) (certTo x).reveals h5
      have h8 : (certTo x).reveals.length ≤ 8 := by simp only [certTo, List.length_map, List.length_take]; omega
      rw [List.length_append]
      omega
  omega
theorem certTo_p {x : CertR} (h : CertP x) : CertP (certTo x) := by
  refine ⟨h.s, fun r hr => ?_, fun n hn => h.co n (List.mem_of_mem_take hn)⟩
  obtain ⟨r0, hr0, rfl⟩ := List.mem_map.1 hr
  exact h.r r0 (List.mem_of_mem_take hr0)
theorem certTo_in {x : CertR} (h : CertP x) {y : CertE} (hy : y.r = certTo x) : CertIn y := by
  have hp := certTo_p h
  rw [← hy] at hp
  have t1 : ∀ l : List (List UInt8), ∀ k, (textsTo l k).length ≤ k := fun l k => by rw [textsTo, List.length_map, List.length_take]; omega
  have h1 : y.rl.length ≤ 8 := by
    have : y.r.reveals.length ≤ 8 := by rw [hy]; simp only [certTo, List.length_map, List.length_take]; omega
    rwa [show y.r.reveals.length = y.rl.length from List.length_map ..] at this
  have h2 : y.coins.length ≤ 650 := by
    have : y.r.coins.length ≤ 650 := by rw [hy]; simp only [certTo, List.length_take]; omega
    exact this
  have h3 : y.sp.length ≤ 20 := by
    have : y.r.slotProof.length ≤ 20 := by rw [hy]; exact t1 _ _
    exact this
  have h4 : y.pp.length ≤ 20 := by
    have : y.r.partProof.length ≤ 20 := by rw [hy]; exact t1 _ _
    exact this
  refine ⟨hp.s, ⟨by omega, fun z hz => ?_⟩, ⟨by omega, hp.co⟩, by omega, by omega⟩
  have hz2 : z.r ∈ y.r.reveals := List.mem_map.2 ⟨z, hz, rfl⟩
  obtain ⟨a, b, c, d⟩ := hp.r _ hz2
  rw [hy] at hz2
  obtain ⟨r0, hr0, e⟩ := List.mem_map.1 hz2
  refine ⟨a, ⟨c, ⟨d, ?_, ?_⟩⟩, b⟩
  · rw [← e]; exact Nat.le_trans (t1 r0.slot.sig.wots 70) (by decide)
  · rw [← e]; exact Nat.le_trans (t1 r0.slot.sig.path 20) (by decide)
theorem rcert_bad {S : (List UInt8)} (hb : ∃ f, wholeG certC.get S = .error f) (w : World) (hG : GlobW w) (hS : S.length ≤ 1000000) (hgl : 4 ≤ w.heap.size) :
    Calls Tryz.prog 27 #[.string ⟨S.toArray⟩] w fun e w' => (∃ g, e = .returned (.tuple #[.agg #[.string ⟨#[]⟩, .int .u64 0, .slice none 0 0, .slice none 0 0, .slice none 0 0, .slice none 0 0], .iface 106 (.pointer (some ⟨g, 0, none⟩))])) ∧ Below w.heap.size w w' := by
  obtain ⟨⟨c, b⟩, hf⟩ := hb
  refine (wreadCert_any S w hG hS hgl).mono fun e w' hA => ?_
  rw [AnsCert, hf] at hA
  obtain ⟨hc, ⟨v, rfl, hv⟩, hb⟩ := hA
  obtain ⟨g, rfl⟩ := hv.shape0 (by omega)
  exact ⟨⟨g, rfl⟩, hb⟩
theorem rcert_back {c : CertR} (hI : CertP c) (h : (layCertP c).2 = 0) (w : World) (hG : GlobW w) (hS : (layCertP c).1.length ≤ 1000000) (hgl : 4 ≤ w.heap.size) :
    Calls Tryz.prog 27 #[.string ⟨(layCertP c).1.toArray⟩] w fun e w' => (∃ y : CertE, y.r = c ∧ e = .returned (.tuple #[certV y, .nilIface]) ∧ FreshC w.heap.size y w') ∧ Below w.heap.size w w' := by
  refine (wreadCert_any _ w hG hS hgl).mono fun e w' hA => ?_
  rw [AnsCert, cert_again hI h] at hA
  exact hA
end Go.Proofs.YtbkiijndhjmkdaaGreatDoor
