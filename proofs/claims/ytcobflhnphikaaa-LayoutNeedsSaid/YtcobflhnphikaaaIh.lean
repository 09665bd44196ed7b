/- Breaking patterns: a few are exchanged, whatever the numbers that are drawn. -/
import Derived.Test.YtcobflhnphikaaaIg
namespace Go.Proofs.Ytcobflhnphikaaa
open Go.RowKit Go.Sort

/-- block l holds a number of 64 bits -/
structure Sx (w0 : World) (l r : Nat) (w : World) : Prop where
  c : w.cell? ⟨l, 0, none⟩ = some (.int .u64 (r : Int))
  f : w.frozen? ⟨l, 0, none⟩ = false
  new : w0.heap.size ≤ l
  lt : r < 18446744073709551616
set_option maxRecDepth 100000 in
set_option maxHeartbeats 2000000 in
theorem npow_any (m : Nat) (hm : m ≤ 49) (w : World) : Calls Try.prog 53 #[.int .i64 (m : Int)] w fun e w' => e = .returned (.int .u64 ((2 ^ Lib.bitLen m : Nat) : Int)) ∧ w = w' := by
  have HL := Lib.hid (len_any m (by omega) w)
  have h1 : IntKind.u64.wrap (m : Int) = (m : Int) := by rw [IntKind.wrap_u64]; omega
  have hb : Lib.bitLen m ≤ 6 := by
    have : m = 0 ∨ 0 < m := by omega
    rcases this with rfl | h0
    · decide
    · obtain ⟨g1, g2, g3⟩ := Lib.bitLenAux_bounds 64 m (by omega) (by omega)
      have g2 : 2 ^ (Lib.bitLen m - 1) ≤ m := g2
      rcases Nat.lt_or_ge 6 (Lib.bitLen m) with h | h
      · have : 2 ^ 6 ≤ 2 ^ (Lib.bitLen m - 1) := Nat.pow_le_pow_right (by decide) (by omega)
        omega
      · exact h
  generalize Lib.bitLen m = k at *
  have hp : 2 ^ k ≤ 2 ^ 6 := Nat.pow_le_pow_right (by decide) hb
  have hw : IntKind.u64.wrap ((2 : Int) ^ k) = ((2 ^ k : Nat) : Int) := by
    rw [IntKind.wrap_u64, show ((2 : Int) ^ k) = ((2 ^ k : Nat) : Int) by simp]
    generalize 2 ^ k = q at *
    omega
  clear hp
  go_enter Try.func53, Try.ntmps53
  go_wp2_with (go_at_call 22; refine HL.out.mono ?_; rintro e w' ⟨rfl, rfl⟩)
  go_ret
  exact ⟨by simp, rfl⟩
theorem xor_nat (a b : Int) : ∃ v : Nat, bits BinOp.xor IntKind.u64 a b = (v : Int) ∧ v < 18446744073709551616 := by
  obtain ⟨z, hz⟩ : ∃ z, bits BinOp.xor IntKind.u64 a b = IntKind.u64.wrap z := ⟨_, rfl⟩
  rw [hz, IntKind.wrap_u64]
  exact ⟨(z % 18446744073709551616).toNat, by omega, by omega⟩
set_option maxRecDepth 100000 in
set_option maxHeartbeats 2000000 in
theorem next_any (w0 : World) (b n : Nat) (c0 : Array Value) (d : Array Nat) (l r : Nat) (w : World) (hR : Rw w0 b c0 n d w) (hS : Sx w0 l r w) :
    Calls Try.prog 54 #[.pointer (some ⟨l, 0, none⟩)] w fun e w' => ∃ r' : Nat, e = .returned (.int .u64 (r' : Int)) ∧ Sx w0 l r' w' ∧ Rw w0 b c0 n d w' := by
  have f1 := hS.c
  have g1 := hS.f
  have HR := Lib.hid hR
  have HS := Lib.hid hS
  clear hR hS
  obtain ⟨r1, e1, l1⟩ := xor_nat (r : Int) (IntKind.u64.wrap ((r : Int) * 8192))
  obtain ⟨r2, e2, l2⟩ := xor_nat (r1 : Int) ((r1 : Int) / 128)
  obtain ⟨r3, e3, l3⟩ := xor_nat (r2 : Int) (IntKind.u64.wrap ((r2 : Int) * 131072))
  have step : ∀ (v : World) (s s' : Nat), s' < 18446744073709551616 → Sx w0 l s v → Rw w0 b c0 n d v → Sx w0 l s' (v.setCell ⟨l, 0, none⟩ (.int .u64 (s' : Int))).drew ∧ Rw w0 b c0 n d (v.setCell ⟨l, 0, none⟩ (.int .u64 (s' : Int))).drew := by
    intro v s s' hs h1 h2
    exact ⟨⟨(setCell_get h1.c), (by show (v.setCell _ _).frozen? _ = false; rw [World.frozen?_setCell]; exact h1.f), h1.new, hs⟩, (h2.store h1.new 0 _).drew⟩
  have HT := Lib.hid step
  clear step
  go_enter Try.func54, Try.ntmps54
  go_wp2
  go_region
  have HA := Lib.hid (HT.out w r r1 l1 HS.out HR.out)
  have f2 := HA.out.1.c
  have g2 := HA.out.1.f
  generalize (w.setCell ⟨l, 0, none⟩ (.int .u64 (r1 : Int))).drew = v1 at *
  go_wp2
  go_region
  have HB := Lib.hid (HT.out v1 r1 r2 l2 HA.out.1 HA.out.2)
  have f3 := HB.out.1.c
  have g3 := HB.out.1.f
  generalize (v1.setCell ⟨l, 0, none⟩ (.int .u64 (r2 : Int))).drew = v2 at *
  go_wp2
  go_region
  have HC := Lib.hid (HT.out v2 r2 r3 l3 HB.out.1 HB.out.2)
  have f4 := HC.out.1.c
  generalize (v2.setCell ⟨l, 0, none⟩ (.int .u64 (r3 : Int))).drew = v3 at *
  go_wp2
  go_ret
  exact ⟨r3, rfl, HC.out.1, HC.out.2⟩
theorem Sx.swap2 {w0 w : World} {l r b : Nat} (h : Sx w0 l r w) (hb : b < w0.heap.size) {i j : Nat} {u v : Value} : Sx w0 l r ((w.drew.setCell ⟨b, i, none⟩ u).setCell ⟨b, j, none⟩ v) := by
  have hne : b ≠ l := by have := h.new; omega
  refine ⟨?_, ?_, h.new, h.lt⟩
  · rw [World.cell?_setCell_far _ _ _ _ hne, World.cell?_setCell_far _ _ _ _ hne]; exact h.c
  · rw [World.frozen?_setCell, World.frozen?_setCell]; exact h.f
theorem and_any (a m : Nat) (ha : a < 18446744073709551616) (hm : m < 18446744073709551616) : ∃ v : Nat, bits BinOp.and IntKind.u64 (a : Int) (m : Int) = (v : Int) ∧ v ≤ m :=
  ⟨a &&& m, u64_and_nat a m ha hm, Nat.and_le_right⟩
set_option maxRecDepth 100000 in
set_option maxHeartbeats 2000000 in
theorem break_any (w0 : World) (b n cap : Nat) (c0 : Array Value) (hn : n ≤ 100000) (d : Array Nat) (lo hi : Nat) (hlo : lo + 12 < hi) (hh : hi ≤ n) (h50 : hi < lo + 50) (w : World) (hR : Rw w0 b c0 n d w) :
    Calls Try.prog 45 #[.slice (some ⟨b, 0, none⟩) n cap, .int .i64 (lo : Int), .int .i64 (hi : Int)] w fun e w' => ∃ e' : Array Nat, e = .returned (.tuple #[]) ∧ PermIn lo hi d e' ∧ Rw w0 b c0 n e' w' := by
  obtain ⟨m, hm⟩ : ∃ m, m = hi - lo := ⟨_, rfl⟩
  obtain ⟨q, hq⟩ : ∃ q, q = m / 4 := ⟨_, rfl⟩
  have e1 : (hi : Int) - (lo : Int) = (m : Int) := by omega
  have e2 : (m : Int) / 4 = (q : Int) := by omega
  have hm8 : 8 ≤ (m : Int) := by omega
  have e0 : IntKind.u64.wrap (m : Int) = (m : Int) := by rw [IntKind.wrap_u64]; omega
  obtain ⟨k, hk⟩ : ∃ k, k = 2 ^ Lib.bitLen m := ⟨_, rfl⟩
  have hkb : m < k ∧ k ≤ 2 * m := by
    obtain ⟨g1, g2, g3⟩ := Lib.bitLenAux_bounds 64 m (by omega) (by omega)
    have g1 : 1 ≤ Lib.bitLen m := g1
    have g2 : 2 ^ (Lib.bitLen m - 1) ≤ m := g2
    have g3 : m < 2 ^ Lib.bitLen m := g3
    have g4 : 2 ^ Lib.bitLen m = 2 * 2 ^ (Lib.bitLen m - 1) := by rw [show Lib.bitLen m = Lib.bitLen m - 1 + 1 by omega, Nat.pow_succ, Nat.mul_comm]; simp
    omega
  have HNP := Lib.hid (fun w => npow_any m (by omega) w)
  rw [← hk] at HNP
  have HNX := Lib.hid (fun l r d w h1 h2 => next_any w0 b n c0 d l r w h1 h2)
  obtain ⟨l, hl⟩ : ∃ l, l = w.heap.size := ⟨_, rfl⟩
  have hsz := hR.size
  obtain ⟨c, hc⟩ : ∃ c, c = lo + 2 * q := ⟨_, rfl⟩
  have e3 : (lo : Int) + (q : Int) * 2 = (c : Int) := by omega
  have hcl : lo + 2 ≤ c := by omega
  have hch : c + 1 < hi := by omega
  have hlm : lo + m = hi := by omega
  have hkm : m < k ∧ k ≤ 100 := by omega
  obtain ⟨km, hkm2⟩ : ∃ km, km = k - 1 := ⟨_, rfl⟩
  have e4 : (k : Int) - 1 = (km : Int) := by omega
  have hkm3 : m ≤ km ∧ km < 2 * m := by omega
  obtain ⟨wa, hwa⟩ : ∃ wa, w.alloc (.cells #[.int .u64 (m : Int)] 70) = wa := ⟨_, rfl⟩
  have hha : wa.heap[l]? = some (.cells #[.int .u64 (m : Int)] 70 (0, 0)) := by rw [← hwa]; exact alloc_new _ _ hl
  have HS := Lib.hid (show Sx w0 l m wa from ⟨by rw [lit_cell hha]; rfl, lit_free hha 0, by rw [hl]; exact hR.kept.size, by omega⟩)
  have HR := Lib.hid (show Rw w0 b c0 n d wa by rw [← hwa]; exact hR.alloc _)
  have HL := Lib.hid hl
  have HWA := Lib.hid hwa
  clear hR hk hm hq hl hc hkm2 hha hwa hkb
  go_enter Try.func45, Try.ntmps45
  go_wp2_with fail
  rw [HWA.out]
  refine (HNP.out _).mono ?_
  rintro e w' ⟨rfl, rfl⟩
  go_wp2
  rw [← HL.out]
  go_loopw [9] (fun v wr => ∃ (t r : Nat) (dk : Array Nat), v = .int .i64 ((c : Int) - 1 + (t : Int)) ∧ t ≤ 3 ∧ Hid (PermIn lo hi d dk) ∧ Hid (Sx w0 l r wr ∧ Rw w0 b c0 n dk wr)) (fun v _ => (c + 2 - intOf v).toNat)
  case atStart => exact ⟨0, m, d, by congr 1; omega, by omega, Lib.hid (permIn_refl _ _ _), Lib.hid ⟨HS.out, HR.out⟩⟩
  case round =>
    obtain ⟨t, r, dk, rfl, ht, HP, HQ⟩ := hrel
    obtain ⟨x, hx⟩ : ∃ x, x = c - 1 + t := ⟨_, rfl⟩
    rw [show (c : Int) - 1 + (t : Int) = (x : Int) by omega]
    have hxb : lo ≤ x ∧ x ≤ c + 2 := by omega
    by_cases ht3 : t = 3
    · have hl : ¬ (x : Int) ≤ (c : Int) + 1 := by omega
      clear hx
      go_wp2
      go_end0
      exact ⟨rfl, dk, HP.out, HQ.out.2⟩
    · have hl : (x : Int) ≤ (c : Int) + 1 := by omega
      have hxh : x < hi := by omega
      have HX := Lib.hid hx
      clear hx
      go_wp2_with fail
      refine (HNX.out l r dk _ HQ.out.2 HQ.out.1).mono ?_
      rintro e w' ⟨r', rfl, hs2, hr2⟩
      have HS2 := Lib.hid hs2
      have HR2 := Lib.hid hr2
      obtain ⟨v, ev, hv⟩ := and_any r' km hs2.lt (by omega)
      have hvi : (v : Int) ≤ 100 := by omega
      clear hs2 hr2
      by_cases hvm : m ≤ v
      · have hvm1 : decide (m ≤ v) = true := by rw [decide_eq_true_iff]; exact hvm
        obtain ⟨o, ho⟩ : ∃ o, o = v - m := ⟨_, rfl⟩
        have eo : (v : Int) - (m : Int) = (o : Int) := by omega
        have hom : o < m := by omega
        obtain ⟨z, hz⟩ : ∃ z, z = lo + o := ⟨_, rfl⟩
        have ez : IntKind.i64.wrap ((lo : Int) + (o : Int)) = (z : Int) := by rw [IntWalk.i64_in _ (by omega)]; omega
        have hzb : lo ≤ z ∧ z < hi := by omega
        clear ho hz
        obtain ⟨ya, hya⟩ : ∃ y, y = dk[x]! := ⟨_, rfl⟩
        obtain ⟨yb, hyb⟩ : ∃ y, y = dk[z]! := ⟨_, rfl⟩
        have fa : w'.cell? ⟨b, x, none⟩ = some (.int .u64 (ya : Int)) := by rw [hya]; exact HR2.out.cell x (by omega)
        have fb : w'.cell? ⟨b, z, none⟩ = some (.int .u64 (yb : Int)) := by rw [hyb]; exact HR2.out.cell z (by omega)
        have ga := HR2.out.free x
        have gb := HR2.out.free z
        have ba : (0 : Int) ≤ (x : Int) ∧ (x : Int) < (n : Int) := by omega
        have bz : (0 : Int) ≤ (z : Int) ∧ (z : Int) < (n : Int) := by omega
        have HPP := Lib.hid (permIn_trans _ _ _ _ _ HP.out (swp_permIn dk lo hi x z (by omega) (by omega) (by omega) (by omega) (by rw [HR2.out.size]; omega)))
        have HSW := Lib.hid (show Sx w0 l r' ((w'.drew.setCell ⟨b, x, none⟩ (.int .u64 (yb : Int))).setCell ⟨b, z, none⟩ (.int .u64 (ya : Int))) ∧ Rw w0 b c0 n (swp dk x z) ((w'.drew.setCell ⟨b, x, none⟩ (.int .u64 (yb : Int))).setCell ⟨b, z, none⟩ (.int .u64 (ya : Int))) by
          have h := HR2.out.drew.swap x z (by omega) (by omega)
          rw [← hya, ← hyb] at h
          exact ⟨HS2.out.swap2 HR2.out.old, h⟩)
        have HYY := Lib.hid (And.intro hya hyb)
        clear hya hyb
        by_cases hsame : x = z
        · have hyy : ya = yb := by rw [HYY.out.1, HYY.out.2, hsame]
          have HSM := Lib.hid hsame
          clear hsame HYY
          subst hyy
          have fa2 : (w'.drew.setCell ⟨b, x, none⟩ (.int .u64 (ya : Int))).cell? ⟨b, z, none⟩ = some (.int .u64 (ya : Int)) := by rw [HSM.out]; exact setCell_get fb
          have fa3 : (w'.setCell ⟨b, x, none⟩ (.int .u64 (ya : Int))).cell? ⟨b, z, none⟩ = some (.int .u64 (ya : Int)) := by rw [HSM.out]; exact setCell_get fb
          have fb2 : (w'.drew.setCell ⟨b, z, none⟩ (.int .u64 (ya : Int))).cell? ⟨b, x, none⟩ = some (.int .u64 (ya : Int)) := by rw [← HSM.out]; exact setCell_get fa
          go_wp2
          go_region
          go_wp2
          go_roundw
          case rel => exact ⟨t + 1, r', _, by have := HX.out; congr 1; omega, by omega, HPP, HSW⟩
          case measure => simp [intOf] <;> omega
        · have ne1 : ¬ z = x := fun h => hsame h.symm
          have ne2 : ¬ x = z := hsame
          clear HYY hsame
          go_wp2
          go_region
          go_wp2
          go_roundw
          case rel => exact ⟨t + 1, r', _, by have := HX.out; congr 1; omega, by omega, HPP, HSW⟩
          case measure => simp [intOf] <;> omega
      · have hvm1 : decide (m ≤ v) = false := by rw [decide_eq_false_iff_not]; exact hvm
        have hom : v < m := by omega
        obtain ⟨z, hz⟩ : ∃ z, z = lo + v := ⟨_, rfl⟩
        have ez : IntKind.i64.wrap ((lo : Int) + (v : Int)) = (z : Int) := by rw [IntWalk.i64_in _ (by omega)]; omega
        have hzb : lo ≤ z ∧ z < hi := by omega
        clear hz
        obtain ⟨ya, hya⟩ : ∃ y, y = dk[x]! := ⟨_, rfl⟩
        obtain ⟨yb, hyb⟩ : ∃ y, y = dk[z]! := ⟨_, rfl⟩
        have fa : w'.cell? ⟨b, x, none⟩ = some (.int .u64 (ya : Int)) := by rw [hya]; exact HR2.out.cell x (by omega)
        have fb : w'.cell? ⟨b, z, none⟩ = some (.int .u64 (yb : Int)) := by rw [hyb]; exact HR2.out.cell z (by omega)
        have ga := HR2.out.free x
        have gb := HR2.out.free z
        have ba : (0 : Int) ≤ (x : Int) ∧ (x : Int) < (n : Int) := by omega
        have bz : (0 : Int) ≤ (z : Int) ∧ (z : Int) < (n : Int) := by omega
        have HPP := Lib.hid (permIn_trans _ _ _ _ _ HP.out (swp_permIn dk lo hi x z (by omega) (by omega) (by omega) (by omega) (by rw [HR2.out.size]; omega)))
        have HSW := Lib.hid (show Sx w0 l r' ((w'.drew.setCell ⟨b, x, none⟩ (.int .u64 (yb : Int))).setCell ⟨b, z, none⟩ (.int .u64 (ya : Int))) ∧ Rw w0 b c0 n (swp dk x z) ((w'.drew.setCell ⟨b, x, none⟩ (.int .u64 (yb : Int))).setCell ⟨b, z, none⟩ (.int .u64 (ya : Int))) by
          have h := HR2.out.drew.swap x z (by omega) (by omega)
          rw [← hya, ← hyb] at h
          exact ⟨HS2.out.swap2 HR2.out.old, h⟩)
        have HYY := Lib.hid (And.intro hya hyb)
        clear hya hyb
        by_cases hsame : x = z
        · have hyy : ya = yb := by rw [HYY.out.1, HYY.out.2, hsame]
          have HSM := Lib.hid hsame
          clear hsame HYY
          subst hyy
          have fa2 : (w'.drew.setCell ⟨b, x, none⟩ (.int .u64 (ya : Int))).cell? ⟨b, z, none⟩ = some (.int .u64 (ya : Int)) := by rw [HSM.out]; exact setCell_get fb
          have fa3 : (w'.setCell ⟨b, x, none⟩ (.int .u64 (ya : Int))).cell? ⟨b, z, none⟩ = some (.int .u64 (ya : Int)) := by rw [HSM.out]; exact setCell_get fb
          have fb2 : (w'.drew.setCell ⟨b, z, none⟩ (.int .u64 (ya : Int))).cell? ⟨b, x, none⟩ = some (.int .u64 (ya : Int)) := by rw [← HSM.out]; exact setCell_get fa
          go_wp2
          go_region
          go_wp2
          go_roundw
          case rel => exact ⟨t + 1, r', _, by have := HX.out; congr 1; omega, by omega, HPP, HSW⟩
          case measure => simp [intOf] <;> omega
        · have ne1 : ¬ z = x := fun h => hsame h.symm
          have ne2 : ¬ x = z := hsame
          clear HYY hsame
          go_wp2
          go_region
          go_wp2
          go_roundw
          case rel => exact ⟨t + 1, r', _, by have := HX.out; congr 1; omega, by omega, HPP, HSW⟩
          case measure => simp [intOf] <;> omega
end Go.Proofs.Ytcobflhnphikaaa
