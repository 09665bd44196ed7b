/- Limbs of bits, as the document's answer takes them, and the law's comparison with them. -/
import Derived.Test.YtiglhgcckceikaaRb
import Derived.IntWalk
import Derived.StillTailTactics
import Derived.BigQuiet
namespace Go.Proofs.Ytiglhgcckceikaa
open Go.RowKit

theorem Try.info22 : (Try.prog.info? 22).map (fun i => (i.zero, i.size, i.bytes)) = some (some (.int .u64 0), 1, 8) := by kernel_rfl
def limbsV (x m : Nat) : List Value := (List.range m).map fun i => .int .u64 (d (x : Int) i)
theorem limbsV_get (x m i : Nat) (h : i < m) : (limbsV x m)[i]? = some (.int .u64 (d (x : Int) i)) := by
  rw [limbsV, List.getElem?_map, List.getElem?_range h]; rfl
theorem limbsV_len (x m : Nat) : (limbsV x m).length = m := by rw [limbsV, List.length_map, List.length_range]

/-- a bit that is laid above a number's: limb by limb -/
theorem limb_set (y k L p j : Nat) (hk : k = 64 * L + p) (hp : p < 64) (hy : y < 2 ^ k) :
    d ((y + 2 ^ k : Nat) : Int) j = if j = L then bits .or .u64 (d (y : Int) L) ((2 ^ p : Nat) : Int) else d (y : Int) j := by
  have hdiv : ∀ i, i ≤ L → (y + 2 ^ k) / 2 ^ (64 * i) = y / 2 ^ (64 * i) + 2 ^ (k - 64 * i) := by
    intro i hi
    have e : 2 ^ k = 2 ^ (64 * i) * 2 ^ (k - 64 * i) := by rw [← Nat.pow_add]; congr 1; omega
    conv => lhs; rw [e]
    rw [Nat.add_mul_div_left _ _ (Nat.two_pow_pos _)]
  by_cases h : j = L
  · subst h
    rw [if_pos rfl, limb_nat, limb_nat, hdiv j (Nat.le_refl _), show k - 64 * j = p by omega]
    have hq : y / 2 ^ (64 * j) < 2 ^ p := by
      rw [Nat.div_lt_iff_lt_mul (Nat.two_pow_pos _), ← Nat.pow_add, Nat.add_comm p, ← hk]; exact hy
    have hpp : 2 ^ p * 2 ≤ 18446744073709551616 := by
      rw [← Nat.pow_succ, show (18446744073709551616 : Nat) = 2 ^ 64 by decide]
      exact Nat.pow_le_pow_right (by decide) (by omega)
    generalize y / 2 ^ (64 * j) = q at hq
    rw [Nat.mod_eq_of_lt (by omega), Nat.mod_eq_of_lt (by omega)]
    have hor : bits .or .u64 (q : Int) ((2 ^ p : Nat) : Int) = bits .or .u64 ((2 ^ p : Nat) : Int) (q : Int) := by
      show IntKind.u64.wrap ((BitVec.ofInt 64 (q : Int) ||| BitVec.ofInt 64 ((2 ^ p : Nat) : Int)).toNat : Int) = IntKind.u64.wrap ((BitVec.ofInt 64 ((2 ^ p : Nat) : Int) ||| BitVec.ofInt 64 (q : Int)).toNat : Int)
      rw [BitVec.or_comm]
    rw [hor, or_add (2 ^ p) q p 1 (by omega) hq (by omega)]
    omega
  · rw [if_neg h, limb_nat, limb_nat]
    by_cases h1 : j < L
    · rw [hdiv j (by omega)]
      obtain ⟨r, hr⟩ : ∃ r, k - 64 * j = 64 + r := ⟨k - 64 * j - 64, by omega⟩
      rw [hr, Nat.pow_add, show (2 : Nat) ^ 64 = 18446744073709551616 by decide, Nat.add_mul_mod_self_left]
    · have h2 : 2 ^ (k + 1) ≤ 2 ^ (64 * j) := Nat.pow_le_pow_right (by decide) (by omega)
      rw [Nat.pow_succ] at h2
      rw [Nat.div_eq_of_lt (by omega), Nat.div_eq_of_lt (by omega)]
theorem limbsV_same (x k m : Nat) (h : x.testBit k = false) : limbsV (x % 2 ^ (k + 1)) m = limbsV (x % 2 ^ k) m := by
  rw [mod_succ, h]; simp
theorem limbsV_over (x k m : Nat) (h : 64 * m ≤ k) : limbsV (x % 2 ^ (k + 1)) m = limbsV (x % 2 ^ k) m := by
  by_cases hb : x.testBit k = true
  · rw [mod_succ, hb, Bool.toNat_true, Nat.mul_one]
    refine List.map_congr_left fun i hi => ?_
    rw [List.mem_range] at hi
    have hL : k / 64 ≠ i := by omega
    rw [limb_set (x % 2 ^ k) k (k / 64) (k % 64) i (by omega) (by omega) (Nat.mod_lt _ (Nat.two_pow_pos _)), if_neg (fun e => hL e.symm)]
  · exact limbsV_same x k m (by simpa using hb)
theorem limbsV_set (x k L p m : Nat) (hk : k = 64 * L + p) (hp : p < 64) (h : x.testBit k = true) :
    (limbsV (x % 2 ^ k) m).set L (.int .u64 (bits .or .u64 (d ((x % 2 ^ k : Nat) : Int) L) ((2 ^ p : Nat) : Int))) = limbsV (x % 2 ^ (k + 1)) m := by
  apply List.ext_getElem?
  intro i
  by_cases hi : i < m
  · rw [limbsV_get _ m i hi, List.getElem?_set, limbsV_len]
    rw [mod_succ, h, Bool.toNat_true, Nat.mul_one, limb_set (x % 2 ^ k) k L p i hk hp (Nat.mod_lt _ (Nat.two_pow_pos _))]
    by_cases e : L = i
    · subst e; simp [hi]
    · rw [if_neg e, if_neg (fun c => e c.symm), limbsV_get _ m i hi]
  · rw [List.getElem?_eq_none (by rw [List.length_set, limbsV_len]; omega), List.getElem?_eq_none (by rw [limbsV_len]; omega)]
theorem over_same (x k m : Nat) (h : x.testBit k = false) : decide (2 ^ (64 * m) ≤ x % 2 ^ (k + 1)) = decide (2 ^ (64 * m) ≤ x % 2 ^ k) := by
  rw [mod_succ, h]; simp
theorem over_true (x k m : Nat) (h : x.testBit k = true) (hk : 64 * m ≤ k) : decide (2 ^ (64 * m) ≤ x % 2 ^ (k + 1)) = true := by
  have := Nat.pow_le_pow_right (n := 2) (by decide) hk
  rw [mod_succ, h, Bool.toNat_true, Nat.mul_one]
  exact decide_eq_true (by omega)
theorem over_low (x k m : Nat) (hk : k < 64 * m) : decide (2 ^ (64 * m) ≤ x % 2 ^ (k + 1)) = decide (2 ^ (64 * m) ≤ x % 2 ^ k) := by
  have h1 := Nat.pow_le_pow_right (n := 2) (by decide) (show k + 1 ≤ 64 * m by omega)
  have h2 := Nat.pow_le_pow_right (n := 2) (by decide) (show k ≤ 64 * m by omega)
  have h3 := Nat.mod_lt x (Nat.two_pow_pos (k + 1))
  have h4 := Nat.mod_lt x (Nat.two_pow_pos k)
  rw [decide_eq_false (by omega), decide_eq_false (by omega)]
theorem wrap_two (p : Nat) (h : p < 64) : IntKind.u64.wrap ((2 : Int) ^ p) = ((2 ^ p : Nat) : Int) := by
  have h1 : 2 ^ p < 18446744073709551616 := by
    rw [show (18446744073709551616 : Nat) = 2 ^ 64 by decide]
    exact Nat.pow_lt_pow_right (by decide) h
  rw [wrapU64, show ((2 : Int) ^ p) = ((2 ^ p : Nat) : Int) by rw [Int.natCast_pow]; rfl]
  exact Int.emod_eq_of_lt (Int.natCast_nonneg _) (Int.ofNat_lt.2 h1)
theorem limbsV_zero (x m : Nat) : (madeCells #[Value.int .u64 0] m).toList = limbsV (x % 2 ^ 0) m := by
  rw [toList_madeCells_one, Nat.pow_zero, Nat.mod_one, limbsV]
  apply List.ext_getElem?
  intro i
  by_cases h : i < m
  · rw [List.getElem?_replicate, if_pos h, List.getElem?_map, List.getElem?_range h]
    simp [d]
  · rw [List.getElem?_eq_none (by rw [List.length_replicate]; omega), List.getElem?_eq_none (by rw [List.length_map, List.length_range]; omega)]

set_option maxRecDepth 100000 in
set_option maxHeartbeats 1000000 in
theorem limbs_any (ao : Option Addr) (cap x n m : Nat) (w : World) (hx : x < 2 ^ n) (hB : Bs ao x n w) (hn : n ≤ 5000) (hm : m ≤ 8) :
    Calls Try.prog 35 #[.slice ao n cap, .int .i64 (m : Int)] w fun e w' => ∃ g, e = .returned (.tuple #[.slice (some ⟨g, 0, none⟩) m m, .bool (decide (2 ^ (64 * m) ≤ x))]) ∧ g < w'.heap.size ∧
      (∀ j, j < m → w'.cell? ⟨g, j, none⟩ = some (.int .u64 (d (x : Int) j))) ∧ Below w.heap.size w w' := by
  obtain ⟨i0, hi, hz0, hz1, hz2⟩ := info_parts Try.info22
  have HB := Lib.hid hB
  have HX := Lib.hid hx
  clear hB hx
  have w1 : IntKind.i64.wrap (64 * (m : Int)) = 64 * (m : Int) := IntWalk.i64_in _ (by omega)
  have hm2 : 8 * m ≤ 281474976710656 := by omega
  have hm3 : m ≤ maxLen := by unfold maxLen; omega
  go_enter Try.func35, Try.ntmps35
  go_wp2_with (at_make; refine wpList_make_full _ rfl _ _ 30 rfl w.heap.size 22 i0 (.int .u64 0) 1 Try.underlying30 hi hz0 hz1 _ _ _ _ m rfl rfl rfl rfl (by rw [hz2]; exact hm2) hm3 (Nat.le_refl _) ?_)
  intro w1' hown hgrow
  rw [limbsV_zero x m] at hown
  have hbe : Below w.heap.size w w1' := (Below.refl _ _).grown hgrow (Nat.le_refl _) (fun k e => by cases e)
  clear hi hz0 hz1 hz2 hm2 hm3 hgrow
  go_wp2
  go_loopw [7, 8] (fun v i wr => ∃ k : Nat, k ≤ n ∧ i = .int .i64 (k : Int) ∧ v = .bool (decide (2 ^ (64 * m) ≤ x % 2 ^ k)) ∧ Hid (wr.ownsRow w.heap.size 22 1 (.slice (some ⟨w.heap.size, 0, none⟩) m m) m (limbsV (x % 2 ^ k) m)) ∧ Below w.heap.size w wr)
    (fun _ i _ => n - (intOf i).toNat)
  case atStart => exact ⟨0, by omega, rfl, by rw [Nat.pow_zero, Nat.mod_one, decide_eq_false (by have := Nat.two_pow_pos (64 * m); omega)], Lib.hid hown, hbe⟩
  case round =>
    clear hown hbe
    obtain ⟨k, hk, rfl, rfl, HO, hbe⟩ := hrel
    by_cases hlt : k < n
    · have k1 : (k : Int) < (n : Int) := by omega
      obtain ⟨b, rfl, hc⟩ := (HB.out.below hbe (Nat.le_refl _)).cell k hlt
      obtain ⟨ov, hov⟩ : ∃ ov, decide (2 ^ (64 * m) ≤ x % 2 ^ k) = ov := ⟨_, rfl⟩
      obtain ⟨bx, hbx⟩ : ∃ bx, x.testBit k = bx := ⟨_, rfl⟩
      rw [hbx] at hc
      rw [hov]
      have HV := Lib.hid hov
      have HT := Lib.hid hbx
      clear hov hbx
      cases bx
      · go_wp2
        go_roundw
        case rel => exact ⟨k + 1, by omega, by go_num, by rw [over_same x k m HT.out, HV.out], Lib.hid (by rw [limbsV_same x k m HT.out]; exact HO.out), hbe⟩
        case measure => simp [intOf]; omega
      · by_cases h64 : 64 * m ≤ k
        · have h65 : 64 * (m : Int) ≤ (k : Int) := by omega
          go_wp2
          go_roundw
          case rel => exact ⟨k + 1, by omega, by go_num, by rw [over_true x k m HT.out h64], Lib.hid (by rw [limbsV_over x k m h64]; exact HO.out), hbe⟩
          case measure => simp [intOf]; omega
        · have h65 : ¬ 64 * (m : Int) ≤ (k : Int) := by omega
          obtain ⟨L, hL⟩ : ∃ L, k / 64 = L := ⟨_, rfl⟩
          obtain ⟨p, hp⟩ : ∃ p, k % 64 = p := ⟨_, rfl⟩
          have hkL : k = 64 * L + p := by omega
          have hp64 : p < 64 := by omega
          have hLm : L < m := by omega
          have HS := Lib.hid (limbsV_set x k L p m hkL hp64 HT.out)
          have e1 : (k : Int) / 64 = (L : Int) := by omega
          have e2 : (k : Int).tmod 64 = (p : Int) := by rw [Int.tmod_eq_emod_of_nonneg (by omega)]; omega
          obtain ⟨y, hy⟩ : ∃ y, x % 2 ^ k = y := ⟨_, rfl⟩
          rw [hy] at HO HS
          have l1 : (L : Int) < (m : Int) := by omega
          have hcl := (HO.out.cellAt L (by omega)).trans (limbsV_get _ m L hLm)
          have hfr := HO.out.frozenAt L
          clear hkL hp hL h64 hy
          have p1 : (p : Int) < 64 := by omega
          have w3 : IntKind.i64.wrap (L : Int) = (L : Int) := IntWalk.i64_in _ (by omega)
          go_wp2
          go_still_tail 13, (by kernel_rfl)
          change wpList _ _ _ _ _ (World.drew _)
          go_wp2
          go_roundw
          case rel =>
            refine ⟨k + 1, by omega, by go_num, by rw [over_low x k m (by omega), HV.out], Lib.hid ?_, (hbe.setCell (Nat.le_refl _) _).drew⟩
            rw [wrap_two p hp64, ← HS.out]
            exact (HO.out.stored L _).1.drew
          case measure => simp [intOf] <;> omega
    · have ek : k = n := by omega
      have k1 : ¬ (k : Int) < (n : Int) := by omega
      subst ek
      have hmod : x % 2 ^ k = x := Nat.mod_eq_of_lt HX.out
      rw [hmod] at HO
      rw [hmod]
      clear hmod
      go_wp2
      refine bodyPost_ret (v := .tuple #[.slice (some ⟨w.heap.size, 0, none⟩) m m, .bool (decide (2 ^ (64 * m) ≤ x))]) (by simp [results, Try.results35, go_sem, *]) rfl ?_
      exact ⟨_, rfl, (HO.out.lt _ rfl).2, fun j hj => (HO.out.cellAt j (by omega)).trans (limbsV_get x m j hj), hbe⟩

set_option maxRecDepth 100000 in
set_option maxHeartbeats 1000000 in
theorem is_any (ao : Option Addr) (cap b cap2 x n m : Nat) (ov : Bool) (w : World) (hx : x < 2 ^ n) (hB : Bs ao x n w) (hn : n ≤ 5000) (hm : m ≤ 8) (hb : b < w.heap.size)
    (hl : ∀ j, j < m → w.cell? ⟨b, j, none⟩ = some (.int .u64 (d (x : Int) j))) (ho : ov = decide (2 ^ (64 * m) ≤ x)) :
    Calls Try.prog 10 #[.slice (some ⟨b, 0, none⟩) m cap2, .bool ov, .slice ao n cap] w fun e w' => e = .returned (.bool true) ∧ Below w.heap.size w w' := by
  have hc := limbs_any ao cap x n m w hx hB hn hm
  rw [← ho] at hc
  have HL := Lib.hid hl
  clear hl hB hx ho
  go_enter Try.func10, Try.ntmps10
  go_wp2_with (go_at_call 35; refine hc.mono ?_; rintro e w1 ⟨g, rfl, hg, hl2, hb1⟩)
  have HL2 := Lib.hid hl2
  have HL1 := Lib.hid (fun j (hj : j < m) => (hb1.cell (p := ⟨b, j, none⟩) hb).trans (HL.out j hj))
  clear hl2 hc
  go_wp2
  go_loopw [9] (fun i wr => ∃ k : Nat, k ≤ m ∧ i = .int .i64 (k : Int) ∧ Below w1.heap.size w1 wr) (fun i _ => m - (intOf i).toNat)
  case atStart => exact ⟨0, by omega, rfl, Below.refl _ _⟩
  case round =>
    obtain ⟨k, hk, rfl, hbe⟩ := hrel
    by_cases hlt : k < m
    · have k1 : (k : Int) < (m : Int) := by omega
      have h1 := (hbe.cell (p := ⟨b, k, none⟩) (by have := hb1.size; show b < _; omega)).trans (HL1.out k hlt)
      have h2 := (hbe.cell (p := ⟨g, k, none⟩) hg).trans (HL2.out k hlt)
      go_wp2
      go_quiet (fail)
      go_wp2
      go_roundw
      case rel => exact ⟨k + 1, by omega, by go_num, ⟨hbe.os, hbe.tape, hbe.output, hbe.size, hbe.block⟩⟩
      case measure => simp [intOf] <;> omega
    · have ek : k = m := by omega
      have k1 : ¬ (k : Int) < (m : Int) := by omega
      subst ek
      go_wp2
      go_ret
      exact ⟨rfl, hb1.trans (hbe.mono hb1.size)⟩
end Go.Proofs.Ytiglhgcckceikaa
