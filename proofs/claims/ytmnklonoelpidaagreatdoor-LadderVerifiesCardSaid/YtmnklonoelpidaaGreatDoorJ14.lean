/- Breaking patterns: a few are exchanged, whatever the numbers that are drawn. -/
import Derived.Test.YtmnklonoelpidaaGreatDoorJ13
import Derived.Lib.ItoaNum
namespace Go.Proofs.YtmnklonoelpidaaGreatDoor
open Go.RowKit Go.Sort

/-- block l holds a number of 64 bits -/
structure Sx (w0 : World) (l r : Nat) (w : World) : Prop where
  c : w.cell? ⟨l, 0, none⟩ = some (.int .u64 (r : Int))
  f : w.frozen? ⟨l, 0, none⟩ = false
  new : w0.heap.size ≤ l
  lt : r < 18446744073709551616
set_option maxRecDepth 100000 in
set_option maxHeartbeats 2000000 in
theorem npow_any (m : Nat) (hm : m ≤ 100000) (w : World) : Calls Tryz.prog 196 #[.int .i64 (m : Int)] w fun e w' => e = .returned (.int .u64 ((2 ^ Lib.bitLen m : Nat) : Int)) ∧ w = w' := by
  have HL := Lib.hid (ylen_any m (by omega) w)
  have h1 : IntKind.u64.wrap (m : Int) = (m : Int) := by rw [IntKind.wrap_u64]; omega
  have hb : Lib.bitLen m ≤ 17 := by
    have : m = 0 ∨ 0 < m := by omega
    rcases this with rfl | h0
    · decide
    · obtain ⟨g1, g2, g3⟩ := Lib.bitLenAux_bounds 64 m (by omega) (by omega)
      have g2 : 2 ^ (Lib.bitLen m - 1) ≤ m := g2
      rcases Nat.lt_or_ge 17 (Lib.bitLen m) with h | h
      · have : 2 ^ 17 ≤ 2 ^ (Lib.bitLen m - 1) := Nat.pow_le_pow_right (by decide) (by omega)
        omega
      · exact h
  generalize Lib.bitLen m = k at *
  have hp : 2 ^ k ≤ 2 ^ 17 := Nat.pow_le_pow_right (by decide) hb
  have hw : IntKind.u64.wrap ((2 : Int) ^ k) = ((2 ^ k : Nat) : Int) := by
    rw [IntKind.wrap_u64, show ((2 : Int) ^ k) = ((2 ^ k : Nat) : Int) by simp]
    generalize 2 ^ k = q at *
    omega
  clear hp
  go_enter Tryz.func196, Tryz.ntmps196
  go_wp2_with (go_at_call 131; refine HL.out.mono ?_; rintro e w' ⟨rfl, rfl⟩)
  go_ret
  exact ⟨by simp, rfl⟩
theorem xor_nat (a b : Int) : ∃ v : Nat, bits BinOp.xor IntKind.u64 a b = (v : Int) ∧ v < 18446744073709551616 := by
  obtain ⟨z, hz⟩ : ∃ z, bits BinOp.xor IntKind.u64 a b = IntKind.u64.wrap z := ⟨_, rfl⟩
  rw [hz, IntKind.wrap_u64]
  exact ⟨(z % 18446744073709551616).toNat, by omega, by omega⟩
set_option maxRecDepth 100000 in
set_option maxHeartbeats 2000000 in
theorem next_any (w0 : World) (b n : Nat) (c0 : Array Value) (d : Array Nat) (l r : Nat) (w : World) (hR : Rw w0 b c0 n d w) (hS : Sx w0 l r w) :
    Calls Tryz.prog 197 #[.pointer (some ⟨l, 0, none⟩)] w fun e w' => ∃ r' : Nat, e = .returned (.int .u64 (r' : Int)) ∧ Sx w0 l r' w' ∧ Rw w0 b c0 n d w' := by
  have f1 := hS.c
  have g1 := hS.f
  have HR := Lib.hid hR
  have HS := Lib.hid hS
  clear hR hS
  obtain ⟨r1, e1, l1⟩ := xor_nat (r : Int) (IntKind.u64.wrap ((r : Int) * 8192))
  obtain ⟨r2, e2, l2⟩ := xor_nat (r1 : Int) ((r1 : Int) / 128)
  obtain ⟨r3, e3, l3⟩ := xor_nat (r2 : Int) (IntKind.u64.wrap ((r2 : Int) * 131072))
  have step : ∀ (v : World) (s s' : Nat), s' < 18446744073709551616 → Sx w0 l s v → Rw w0 b c0 n d v → Sx w0 l s' (v.setCell ⟨l, 0, none⟩ (.int .u64 (s' : Int))).drew ∧ Rw w0 b c0 n d (v.setCell ⟨l, 0, none⟩ (.int .u64 (s' : Int))).drew := by
    intro v s s' hs h1 h2
    exact ⟨⟨(setCell_get h1.c), (by show (v.setCell _ _).frozen? _ = false; rw [World.frozen?_setCell]; exact h1.f), h1.new, hs⟩, (h2.store h1.new 0 _).drew⟩
  have HT := Lib.hid step
  clear step
  go_enter Tryz.func197, Tryz.ntmps197
  go_wp2
  go_region
  have HA := Lib.hid (HT.out w r r1 l1 HS.out HR.out)
  have f2 := HA.out.1.c
  have g2 := HA.out.1.f
  generalize (w.setCell ⟨l, 0, none⟩ (.int .u64 (r1 : Int))).drew = v1 at *
  go_wp2
  go_region
  have HB := Lib.hid (HT.out v1 r1 r2 l2 HA.out.1 HA.out.2)
  have f3 := HB.out.1.c
  have g3 := HB.out.1.f
  generalize (v1.setCell ⟨l, 0, none⟩ (.int .u64 (r2 : Int))).drew = v2 at *
  go_wp2
  go_region
  have HC := Lib.hid (HT.out v2 r2 r3 l3 HB.out.1 HB.out.2)
  have f4 := HC.out.1.c
  generalize (v2.setCell ⟨l, 0, none⟩ (.int .u64 (r3 : Int))).drew = v3 at *
  go_wp2
  go_ret
  exact ⟨r3, rfl, HC.out.1, HC.out.2⟩
theorem Sx.swap2 {w0 w : World} {l r b : Nat} (h : Sx w0 l r w) (hb : b < w0.heap.size) {i j : Nat} {u v : Value} : Sx w0 l r ((w.drew.setCell ⟨b, i, none⟩ u).setCell ⟨b, j, none⟩ v) := by
  have hne : b ≠ l := by have := h.new; omega
  refine ⟨?_, ?_, h.new, h.lt⟩
  · rw [World.cell?_setCell_far _ _ _ _ hne, World.cell?_setCell_far _ _ _ _ hne]; exact h.c
  · rw [World.frozen?_setCell, World.frozen?_setCell]; exact h.f
theorem and_any (a m : Nat) (ha : a < 18446744073709551616) (hm : m < 18446744073709551616) : ∃ v : Nat, bits BinOp.and IntKind.u64 (a : Int) (m : Int) = (v : Int) ∧ v ≤ m :=
  ⟨a &&& m, u64_and_nat a m ha hm, Nat.and_le_right⟩
set_option maxRecDepth 100000 in
set_option maxHeartbeats 2000000 in
theorem break_any (w0 : World) (b n cap : Nat) (c0 : Array Value) (hn : n ≤ 100000) (d : Array Nat) (lo hi : Nat) (hlo : lo + 12 < hi) (hh : hi ≤ n) (w : World) (hR : Rw w0 b c0 n d w) :
    Calls Tryz.prog 188 #[.slice (some ⟨b, 0, none⟩) n cap, .int .i64 (lo : Int), .int .i64 (hi : Int)] w fun e w' => ∃ e' : Array Nat, e = .returned (.tuple #[]) ∧ PermIn lo hi d e' ∧ Rw w0 b c0 n e' w' := by
  obtain ⟨m, hm⟩ : ∃ m, m = hi - lo := ⟨_, rfl⟩
  obtain ⟨q, hq⟩ : ∃ q, q = m / 4 := ⟨_, rfl⟩
  have e1 : (hi : Int) - (lo : Int) = (m : Int) := by omega
  have e2 : (m : Int) / 4 = (q : Int) := by omega
  have hm8 : 8 ≤ (m : Int) := by omega
  have e0 : IntKind.u64.wrap (m : Int) = (m : Int) := by rw [IntKind.wrap_u64]; omega
  obtain ⟨k, hk⟩ : ∃ k, k = 2 ^ Lib.bitLen m := ⟨_, rfl⟩
  have hkb : m < k ∧ k ≤ 2 * m := by
    obtain ⟨g1, g2, g3⟩ := Lib.bitLenAux_bounds 64 m (by omega) (by omega)
    have g1 : 1 ≤ Lib.bitLen m := g1
    have g2 : 2 ^ (Lib.bitLen m - 1) ≤ m := g2
    have g3 : m < 2 ^ Lib.bitLen m := g3
    have g4 : 2 ^ Lib.bitLen m = 2 * 2 ^ (Lib.bitLen m - 1) := by rw [show Lib.bitLen m = Lib.bitLen m - 1 + 1 by omega, Nat.pow_succ, Nat.mul_comm]; simp
    omega
  have HNP := Lib.hid (fun w => npow_any m (by omega) w)
  rw [← hk] at HNP
  have HNX := Lib.hid (fun l r d w h1 h2 => next_any w0 b n c0 d l r w h1 h2)
  obtain ⟨l, hl⟩ : ∃ l, l = w.heap.size := ⟨_, rfl⟩
  have hsz := hR.size
  obtain ⟨c, hc⟩ : ∃ c, c = lo + 2 * q := ⟨_, rfl⟩
  have e3 : (lo : Int) + (q : Int) * 2 = (c : Int) := by omega
  have hcl : lo + 2 ≤ c := by omega
  have hch : c + 1 < hi := by omega
  have hlm : lo + m = hi := by omega
  have hkm : m < k ∧ k ≤ 200000 := by omega
  obtain ⟨km, hkm2⟩ : ∃ km, km = k - 1 := ⟨_, rfl⟩
  have e4 : (k : Int) - 1 = (km : Int) := by omega
  have hkm3 : m ≤ km ∧ km < 2 * m := by omega
  obtain ⟨wa, hwa⟩ : ∃ wa, w.alloc (.cells #[.int .u64 (m : Int)] 239) = wa := ⟨_, rfl⟩
  have hha : wa.heap[l]? = some (.cells #[.int .u64 (m : Int)] 239 (0, 0)) := by rw [← hwa]; exact alloc_new _ _ hl
  have HS := Lib.hid (show Sx w0 l m wa from ⟨by rw [lit_cell hha]; rfl, lit_free hha 0, by rw [hl]; exact hR.kept.size, by omega⟩)
  have HR := Lib.hid (show Rw w0 b c0 n d wa by rw [← hwa]; exact hR.alloc _)
  have HL := Lib.hid hl
  have HWA := Lib.hid hwa
  clear hR hk hm hq hl hc hkm2 hha hwa hkb
  go_enter Tryz.func188, Tryz.ntmps188
  go_wp2_with fail
  rw [HWA.out]
  refine (HNP.out _).mono ?_
  rintro e w' ⟨rfl, rfl⟩
  go_wp2
  rw [← HL.out]
  go_loopw [9] (fun v wr => ∃ (t r : Nat) (dk : Array Nat), v = .int .i64 ((c : Int) - 1 + (t : Int)) ∧ t ≤ 3 ∧ Hid (PermIn lo hi d dk) ∧ Hid (Sx w0 l r wr ∧ Rw w0 b c0 n dk wr)) (fun v _ => (c + 2 - intOf v).toNat)
  case atStart => exact ⟨0, m, d, by congr 1; omega, by omega, Lib.hid (permIn_refl _ _ _), Lib.hid ⟨HS.out, HR.out⟩⟩
  case round =>
    obtain ⟨t, r, dk, rfl, ht, HP, HQ⟩ := hrel
    obtain ⟨x, hx⟩ : ∃ x, x = c - 1 + t := ⟨_, rfl⟩
    rw [show (c : Int) - 1 + (t : Int) = (x : Int) by omega]
    have hxb : lo ≤ x ∧ x ≤ c + 2 := by omega
    by_cases ht3 : t = 3
    · have hl : ¬ (x : Int) ≤ (c : Int) + 1 := by omega
      clear hx
      go_wp2
      go_end0
      exact ⟨rfl, dk, HP.out, HQ.out.2⟩
    · have hl : (x : Int) ≤ (c : Int) + 1 := by omega
      have hxh : x < hi := by omega
      have HX := Lib.hid hx
      clear hx
      go_wp2_with fail
      refine (HNX.out l r dk _ HQ.out.2 HQ.out.1).mono ?_
      rintro e w' ⟨r', rfl, hs2, hr2⟩
      have HS2 := Lib.hid hs2
      have HR2 := Lib.hid hr2
      obtain ⟨v, ev, hv⟩ := and_any r' km hs2.lt (by omega)
      have hvi : (v : Int) ≤ 200000 := by omega
      clear hs2 hr2
      by_cases hvm : m ≤ v
      · have hvm1 : decide (m ≤ v) = true := by rw [decide_eq_true_iff]; exact hvm
        obtain ⟨o, ho⟩ : ∃ o, o = v - m := ⟨_, rfl⟩
        have eo : (v : Int) - (m : Int) = (o : Int) := by omega
        have hom : o < m := by omega
        obtain ⟨z, hz⟩ : ∃ z, z = lo + o := ⟨_, rfl⟩
        have ez : IntKind.i64.wrap ((lo : Int) + (o : Int)) = (z : Int) := by rw [IntWalk.i64_in _ (by omega)]; omega
        have hzb : lo ≤ z ∧ z < hi := by omega
        clear ho hz
        obtain ⟨ya, hya⟩ : ∃ y, y = dk[x]! := ⟨_, rfl⟩
        obtain ⟨yb, hyb⟩ : ∃ y, y = dk[z]! := ⟨_, rfl⟩
        have fa : w'.cell? ⟨b, x, none⟩ = some (.int .u64 (ya : Int)) := by rw [hya]; exact HR2.out.cell x (by omega)
        have fb : w'.cell? ⟨b, z, none⟩ = some (.int .u64 (yb : Int)) := by rw [hyb]; exact HR2.out.cell z (by omega)
        have ga := HR2.out.free x
        have gb := HR2.out.free z
        have ba : (0 : Int) ≤ (x : Int) ∧ (x : Int) < (n : Int) := by omega
        have bz : (0 : Int) ≤ (z : Int) ∧ (z : Int) < (n : Int) := by omega
        have HPP := Lib.hid (permIn_trans _ _ _ _ _ HP.out (swp_permIn dk lo hi x z (by omega) (by omega) (by omega) (by omega) (by rw [HR2.out.size]; omega)))
        have HSW := Lib.hid (show Sx w0 l r' ((w'.drew.setCell ⟨b, x, none⟩ (.int .u64 (yb : Int))).setCell ⟨b, z, none⟩ (.int .u64 (ya : Int))) ∧ Rw w0 b c0 n (swp dk x z) ((w'.drew.setCell ⟨b, x, none⟩ (.int .u64 (yb : Int))).setCell ⟨b, z, none⟩ (.int .u64 (ya : Int))) by
          have h := HR2.out.drew.swap x z (by omega) (by omega)
          rw [← hya, ← hyb] at h
          exact ⟨HS2.out.swap2 HR2.out.old, h⟩)
        have HYY := Lib.hid (And.intro hya hyb)
        clear hya hyb
        by_cases hsame : x = z
        · have hyy : ya = yb := by rw [HYY.out.1, HYY.out.2, hsame]
          have HSM := Lib.hid hsame
          clear hsame HYY
          subst hyy
          have fa2 : (w'.drew.setCell ⟨b, x, none⟩ (.int .u64 (ya : Int))).cell? ⟨b, z, none⟩ = some (.int .u64 (ya : Int)) := by rw [HSM.out]; exact setCell_get fb
          have fa3 : (w'.setCell ⟨b, x, none⟩ (.int .u64 (ya : Int))).cell? ⟨b, z, none⟩ = some (.int .u64 (ya : Int)) := by rw [HSM.out]; exact setCell_get fb
          have fb2 : (w'.drew.setCell ⟨b, z, none⟩ (.int .u64 (ya : Int))).cell? ⟨b, x, none⟩ = some (.int .u64 (ya : Int)) := by rw [← HSM.out]; exact setCell_get fa
          go_wp2
          go_region
          go_wp2
          go_roundw
          case rel => exact ⟨t + 1, r', _, by have := HX.out; congr 1; omega, by omega, HPP, HSW⟩
          case measure => simp [intOf] <;> omega
        · have ne1 : ¬ z = x := fun h => hsame h.symm
          have ne2 : ¬ x = z := hsame
          clear HYY hsame
          go_wp2
          go_region
          go_wp2
          go_roundw
          case rel => exact ⟨t + 1, r', _, by have := HX.out; congr 1; omega, by omega, HPP, HSW⟩
          case measure => simp [intOf] <;> omega
      · have hvm1 : decide (m ≤ v) = false := by rw [decide_eq_false_iff_not]; exact hvm
        have hom : v < m := by omega
        obtain ⟨z, hz⟩ : ∃ z, z = lo + v := ⟨_, rfl⟩
        have ez : IntKind.i64.wrap ((lo : Int) + (v : Int)) = (z : Int) := by rw [IntWalk.i64_in _ (by omega)]; omega
        have hzb : lo ≤ z ∧ z < hi := by omega
        clear hz
        obtain ⟨ya, hya⟩ : ∃ y, y = dk[x]! := ⟨_, rfl⟩
        obtain ⟨yb, hyb⟩ : ∃ y, y = dk[z]! := ⟨_, rfl⟩
        have fa : w'.cell? ⟨b, x, none⟩ = some (.int .u64 (ya : Int)) := by rw [hya]; exact HR2.out.cell x (by omega)
        have fb : w'.cell? ⟨b, z, none⟩ = some (.int .u64 (yb : Int)) := by rw [hyb]; exact HR2.out.cell z (by omega)
        have ga := HR2.out.free x
        have gb := HR2.out.free z
        have ba : (0 : Int) ≤ (x : Int) ∧ (x : Int) < (n : Int) := by omega
        have bz : (0 : Int) ≤ (z : Int) ∧ (z : Int) < (n : Int) := by omega
        have HPP := Lib.hid (permIn_trans _ _ _ _ _ HP.out (swp_permIn dk lo hi x z (by omega) (by omega) (by omega) (by omega) (by rw [HR2.out.size]; omega)))
        have HSW := Lib.hid (show Sx w0 l r' ((w'.drew.setCell ⟨b, x, none⟩ (.int .u64 (yb : Int))).setCell ⟨b, z, none⟩ (.int .u64 (ya : Int))) ∧ Rw w0 b c0 n (swp dk x z) ((w'.drew.setCell ⟨b, x, none⟩ (.int .u64 (yb : Int))).setCell ⟨b, z, none⟩ (.int .u64 (ya : Int))) by
          have h := HR2.out.drew.swap x z (by omega) (by omega)
          rw [← hya, ← hyb] at h
          exact ⟨HS2.out.swap2 HR2.out.old, h⟩)
        have HYY := Lib.hid (And.intro hya hyb)
        clear hya hyb
        by_cases hsame : x = z
        · have hyy : ya = yb := by rw [HYY.out.1, HYY.out.2, hsame]
          have HSM := Lib.hid hsame
          clear hsame HYY
          subst hyy
          have fa2 : (w'.drew.setCell ⟨b, x, none⟩ (.int .u64 (ya : Int))).cell? ⟨b, z, none⟩ = some (.int .u64 (ya : Int)) := by rw [HSM.out]; exact setCell_get fb
          have fa3 : (w'.setCell ⟨b, x, none⟩ (.int .u64 (ya : Int))).cell? ⟨b, z, none⟩ = some (.int .u64 (ya : Int)) := by rw [HSM.out]; exact setCell_get fb
          have fb2 : (w'.drew.setCell ⟨b, z, none⟩ (.int .u64 (ya : Int))).cell? ⟨b, x, none⟩ = some (.int .u64 (ya : Int)) := by rw [← HSM.out]; exact setCell_get fa
          go_wp2
          go_region
          go_wp2
          go_roundw
          case rel => exact ⟨t + 1, r', _, by have := HX.out; congr 1; omega, by omega, HPP, HSW⟩
          case measure => simp [intOf] <;> omega
        · have ne1 : ¬ z = x := fun h => hsame h.symm
          have ne2 : ¬ x = z := hsame
          clear HYY hsame
          go_wp2
          go_region
          go_wp2
          go_roundw
          case rel => exact ⟨t + 1, r', _, by have := HX.out; congr 1; omega, by omega, HPP, HSW⟩
          case measure => simp [intOf] <;> omega
end Go.Proofs.YtmnklonoelpidaaGreatDoor
/- Sorting a part of a row by insertion. -/
namespace Go.Proofs.YtmnklonoelpidaaGreatDoor
open Go.RowKit Go.Sort

def SrtBut (lo i j : Nat) (d : Array Nat) : Prop := ∀ p q, lo ≤ p → p < q → q ≤ i → q ≠ j → d[p]! ≤ d[q]!
theorem Srt.startBut {lo i : Nat} {d : Array Nat} (h : Srt lo i d) : SrtBut lo i i d := fun p q h1 hpq hq hne => h p q h1 hpq (by omega)
theorem SrtBut.step {lo i j : Nat} {d : Array Nat} (h : SrtBut lo i (j + 1) d) (hlo : lo ≤ j) (hj : j + 1 ≤ i) (hi : i < d.size) (hl : d[j + 1]! < d[j]!) : SrtBut lo i j (swp d (j + 1) j) := by
  have e1 : (swp d (j + 1) j)[j + 1]! = d[j]! := swp_left d (j + 1) j (by omega) (by omega)
  have e2 : (swp d (j + 1) j)[j]! = d[j + 1]! := swp_right d (j + 1) j (by omega)
  have e3 : ∀ k, k ≠ j + 1 → k ≠ j → (swp d (j + 1) j)[k]! = d[k]! := fun k h1 h2 => swp_other d (j + 1) j k h1 h2
  intro p q hp hpq hq hne
  by_cases q1 : q = j + 1
  · subst q1
    rw [e1]
    by_cases p1 : p = j
    · subst p1; rw [e2]; omega
    · rw [e3 p (by omega) p1]; exact h p j hp (by omega) (by omega) (by omega)
  · rw [e3 q q1 hne]
    by_cases p1 : p = j + 1
    · subst p1; rw [e1]; exact h j q hlo (by omega) hq q1
    · by_cases p2 : p = j
      · subst p2; rw [e2]; exact h (p + 1) q (by omega) (by omega) hq q1
      · rw [e3 p p1 p2]; exact h p q hp hpq hq q1
theorem SrtBut.stop {lo i j : Nat} {d : Array Nat} (h : SrtBut lo i j d) (hs : j = lo ∨ d[j - 1]! ≤ d[j]!) : Srt lo (i + 1) d := by
  intro p q hp hpq hq
  by_cases e : q = j
  · subst e
    rcases hs with h0 | h0
    · omega
    · by_cases p1 : p = q - 1
      · subst p1; exact h0
      · exact Nat.le_trans (h p (q - 1) hp (by omega) (by omega) (by omega)) h0
  · exact h p q hp hpq (by omega) e
set_option maxRecDepth 100000 in
set_option maxHeartbeats 2000000 in
theorem insr_any (w0 : World) (b n cap : Nat) (c0 : Array Value) (hn : n ≤ 100000) (d : Array Nat) (lo hi : Nat) (hlo : lo ≤ hi) (hh : hi ≤ n) (w : World) (hR : Rw w0 b c0 n d w) :
    Calls Tryz.prog 186 #[.slice (some ⟨b, 0, none⟩) n cap, .int .i64 (lo : Int), .int .i64 (hi : Int)] w fun e w' => ∃ e' : Array Nat, e = .returned (.tuple #[]) ∧ PermIn lo hi d e' ∧ Srt lo hi e' ∧ Rw w0 b c0 n e' w' := by
  have HR := Lib.hid hR
  have n1 : (n : Int) ≤ 100000 := by omega
  clear hR
  go_enter Tryz.func186, Tryz.ntmps186
  go_wp2
  go_loopw [6] (fun vi wr => ∃ (i : Nat) (dk : Array Nat), vi = .int .i64 (i : Int) ∧ lo < i ∧ i ≤ hi + 1 ∧ Hid (PermIn lo hi d dk) ∧ Hid (Rw w0 b c0 n dk wr) ∧ Hid (Srt lo i dk)) (fun vi _ => hi + 1 - (intOf vi).toNat)
  case atStart => exact ⟨lo + 1, d, by go_num, by omega, by omega, Lib.hid (permIn_refl _ _ _), HR, Lib.hid (Srt.one lo d)⟩
  case round =>
    obtain ⟨i, dk, rfl, hi0, hib, HP, HD, HU⟩ := hrel
    by_cases hlt : i < hi
    · have hl : (i : Int) < (hi : Int) := by omega
      go_wp2
      go_loopw [7] (fun vj wr2 => ∃ (j : Nat) (dj : Array Nat), vj = .int .i64 (j : Int) ∧ lo ≤ j ∧ j ≤ i ∧ Hid (PermIn lo hi d dj) ∧ Hid (Rw w0 b c0 n dj wr2) ∧ Hid (SrtBut lo i j dj)) (fun vj _ => (intOf vj).toNat)
      case atStart => exact ⟨i, dk, rfl, by omega, Nat.le_refl _, HP, HD, Lib.hid HU.out.startBut⟩
      case round =>
        obtain ⟨j, dj, rfl, hjl, hji, HPj, HJ, HB⟩ := hrel
        obtain ⟨G, hG⟩ : ∃ G : Nat → Nat, ∀ t, G t = dj[t]! := ⟨fun t => dj[t]!, fun _ => rfl⟩
        have hcw : ∀ t, t < n → wr.cell? ⟨b, t, none⟩ = some (.int .u64 (G t : Int)) := fun t ht => by rw [hG]; exact HJ.out.cell t ht
        have hfw : ∀ t, t < n → wr.frozen? ⟨b, t, none⟩ = false := fun t ht => HJ.out.free t
        have HG := Lib.hid hG
        clear hG
        go_wp2
        by_cases hja : lo < j
        · have hja' : (lo : Int) < (j : Int) := by omega
          have jn : j < n := by omega
          have jn1 : j - 1 < n := by omega
          go_quiet (first | (go_at_call 192; refine Calls.quiet_of_same ((less_any _ _ _).mono (fun e w' h => ⟨h.1, h.2.symm⟩))))
          go_wp2
          · have hlt2 : G j < G (j - 1) := by omega
            go_region
            all_goals go_wp2
            go_roundw
            case rel =>
              obtain ⟨m, rfl⟩ : ∃ m, j = m + 1 := ⟨j - 1, by omega⟩
              rw [show m + 1 - 1 = m from rfl] at hlt2
              have hz := HJ.out.size
              have hS := (HJ.out.drewN (nq + 1)).swap (m + 1) m (by omega) (by omega)
              rw [← HG.out, ← HG.out] at hS
              exact ⟨m, swp dj (m + 1) m, by congr 1; omega, by omega, by omega, Lib.hid (permIn_trans _ _ _ _ _ HPj.out (swp_permIn _ _ _ _ _ (by omega) (by omega) (by omega) (by omega) (by omega))), Lib.hid hS,
                Lib.hid (HB.out.step (by omega) (by omega) (by omega) (by rw [← HG.out, ← HG.out]; exact hlt2))⟩
            case measure => simp [intOf]; omega
          · have hlt2 : ¬ G j < G (j - 1) := by omega
            go_roundw
            case rel => exact ⟨i + 1, dj, by go_num, by omega, by omega, HPj, Lib.hid (HJ.out.drewN nq), Lib.hid (HB.out.stop (.inr (by rw [← HG.out, ← HG.out]; omega)))⟩
            case measure => simp [intOf]; omega
        · have hja' : decide (lo < j) = false := by rw [decide_eq_false_iff_not]; exact hja
          go_quiet (first | (go_at_call 192; refine Calls.quiet_of_same ((less_any _ _ _).mono (fun e w' h => ⟨h.1, h.2.symm⟩))))
          go_wp2
          go_roundw
          case rel => exact ⟨i + 1, dj, by go_num, by omega, by omega, HPj, Lib.hid (HJ.out.drewN nq), Lib.hid (HB.out.stop (.inl (by omega)))⟩
          case measure => simp [intOf]; omega
    · have hl : ¬ (i : Int) < (hi : Int) := by omega
      go_wp2
      go_end0
      exact ⟨rfl, dk, HP.out, fun p q h1 h2 h3 => HU.out p q h1 h2 (by omega), HD.out⟩
end Go.Proofs.YtmnklonoelpidaaGreatDoor
