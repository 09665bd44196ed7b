/- The law's told: an error that a call answers, and the fault that it should be. -/
import Derived.Test.YtlhmmplkdjibkaaGreatDoorJ2
import Derived.Test.YtlhmmplkdjibkaaGreatDoorJ4
import Derived.Test.YtlhmmplkdjibkaaGreatDoorJ1
import Derived.Deep.QuietTactic
import Derived.Deep.RegionHeld3
import Derived.Deep.Cut
import Derived.BigQuiet
import Derived.WalkSmall
namespace Go.Proofs.YtlhmmplkdjibkaaGreatDoor
open Go.RowKit Go.Extern.Stop Go.Stop Go.Extern

/-- errors.As at a pointer in memory that is a fault's -/
theorem as_any (f P : Nat) (wz : World) (hg : GlobE wz) (hP : wz.heap[P]? = some (.cells #[.pointer none] 85 (0, 0))) :
    Calls Tryz.prog 34 #[.iface 85 (.pointer (some ⟨f, 0, none⟩)), .iface 87 (.pointer (some ⟨P, 0, none⟩))] wz fun e w' => e = .returned (.bool true) ∧ w'.cell? ⟨P, 0, none⟩ = some (.pointer (some ⟨f, 0, none⟩)) ∧ Only P wz w' := by
  refine (as_hit ⟨f, 0, none⟩ ⟨P, 0, none⟩ (.pointer none) wz hg ((lit_cell hP 0).trans rfl) (lit_free hP 0)).mono ?_
  rintro e w' ⟨rfl, rfl⟩
  refine ⟨rfl, (lit_cell (lit_set _ (lit_old _ (lit_old _ (lit_old _ (lit_old _ hP))))) 0).trans rfl, (Only.of_below ?_).trans (Only.set P 0 _ _)⟩
  exact ((((Below.refl _ _).alloc (Nat.le_refl _) _).alloc (by simp) _).alloc (by simp; omega) _).alloc (by simp; omega) _

set_option maxRecDepth 100000 in
set_option maxHeartbeats 4000000 in
theorem lawtold_any (lo : Nat) (c a a2 : Int) (v : Value) (w : World) (hg : GlobE w) (hv : ErrV lo c a v w) (ha : c ≠ 0 → a2 = a) :
    Calls Tryz.prog 11 #[v, .agg #[.int .i64 c, .int .i64 a2]] w fun e w' => e = .returned (.bool true) ∧ Below w.heap.size w w' := by
  have hN := heap_alloc_new w (.cells #[.int .i64 c, .int .i64 a2] 42)
  have hb0 : Below w.heap.size w (w.alloc (.cells #[.int .i64 c, .int .i64 a2] 42)) := by0 w _
  have hv1 := hv.next hb0
  have hg1 := hg.next hb0
  have hz1 : (w.alloc (.cells #[.int .i64 c, .int .i64 a2] 42)).heap.size = w.heap.size + 1 := by simp
  have p0 := (lit_cell hN 0).trans rfl
  have p1 := (lit_cell hN 1).trans rfl
  clear hv hg
  by_cases hc : c = 0
  · unfold ErrV at hv1
    rw [if_pos hc] at hv1
    subst hv1 hc
    go_enter Tryz.func11, Tryz.ntmps11
    go_upto_region 1 with fail
    change Code.wp _ _ _ _ (w.alloc (.cells #[.int .i64 0, .int .i64 a2] 42))
    generalize w.alloc (.cells #[.int .i64 0, .int .i64 a2] 42) = w1 at *
    go_wp2
    go_ret
    exact ⟨rfl, hb0⟩
  · unfold ErrV at hv1
    rw [if_neg hc] at hv1
    obtain rfl := ha hc
    obtain ⟨f, _, rfl, h0, h1⟩ := hv1
    have hc0 : (c == 0) = false := by simpa using hc
    go_enter Tryz.func11, Tryz.ntmps11
    go_upto_region 1 with fail
    change Code.wp _ _ _ _ (w.alloc (.cells #[.int .i64 c, .int .i64 a2] 42))
    generalize w.alloc (.cells #[.int .i64 c, .int .i64 a2] 42) = w1 at *
    have hfl : f < w1.heap.size := World.block_lt_of_cell? w1 _ h0
    have HA := Lib.hid (show ∀ wz, Below (w1.alloc (.cells #[.pointer none] 85)).heap.size (w1.alloc (.cells #[.pointer none] 85)) wz → Calls Tryz.prog 34 #[.iface 85 (.pointer (some ⟨f, 0, none⟩)), .iface 87 (.pointer (some ⟨w1.heap.size, 0, none⟩))] wz (fun e w' => e = .returned (.bool true) ∧ w'.cell? ⟨w1.heap.size, 0, none⟩ = some (.pointer (some ⟨f, 0, none⟩)) ∧ w'.cell? ⟨f, 0, none⟩ = some (.int .i64 c) ∧ w'.cell? ⟨f, 1, none⟩ = some (.int .i64 a2) ∧ w'.cell? ⟨w.heap.size, 0, none⟩ = some (.int .i64 c) ∧ w'.cell? ⟨w.heap.size, 1, none⟩ = some (.int .i64 a2) ∧ Below w.heap.size w w') from fun wz hz => by
      have hbA : Below w1.heap.size w1 wz := (by0 w1 (.cells #[.pointer none] 85)).trans (hz.mono (by simp))
      refine (as_any f w1.heap.size wz (hg1.next hbA) ((hz.block _ (by simp)).trans (heap_alloc_new w1 _))).mono ?_
      rintro e w' ⟨rfl, k, ho⟩
      have kk : ∀ b o, b < w1.heap.size → w'.cell? ⟨b, o, none⟩ = w1.cell? ⟨b, o, none⟩ := fun b o hb => World.cell?_of_block (a := ⟨b, o, none⟩) ((ho.block b (Nat.lt_of_lt_of_le hb hbA.size) (by omega)).trans (hbA.block b hb))
      exact ⟨rfl, k, (kk f 0 hfl).trans h0, (kk f 1 hfl).trans h1, (kk _ 0 (by omega)).trans p0, (kk _ 1 (by omega)).trans p1, hb0.trans ((hbA.mono (by omega)).trans (ho.below (by omega) (Nat.le_trans (by omega) hbA.size)))⟩)
    clear h0 h1 hg1 hN
    go_upto_region 4 with fail
    change Code.wp _ _ _ _ (w1.alloc (.cells #[.pointer none] 85))
    generalize w1.alloc (.cells #[.pointer none] 85) = wa at *
    have HA0 := Lib.hid (HA.out wa.drew (Below.refl _ _).drew)
    generalize w1.heap.size = P at *
    generalize hXe : w.heap.size = X at *
    subst hz1
    have HXE := Lib.hid hXe
    clear HA hfl p0 p1 hb0 hXe
    go_region_with
      (first
        | (go_at_call 34; with_reducible refine HA0.out.mono ?_; rintro e w2 ⟨rfl, q0, q1, q2, q3, q4, b2⟩)
        | (go_at_call 35; with_reducible refine (is_fault _ _ _ q1).mono ?_; rintro e w3 ⟨rfl, rfl⟩))
    all_goals
      go_wp2
      go_ret
      exact ⟨rfl, by rw [HXE.out]; exact b2⟩
end Go.Proofs.YtlhmmplkdjibkaaGreatDoor
/- What Take answers: its bounds. What a reader is to do, as a hypothesis; the law's take. -/
namespace Go.Proofs.YtlhmmplkdjibkaaGreatDoor
open Go.RowKit

theorem rowU_size (s c : Nat) (hc : c < 256) (hs : s ≠ 0) : (rowU s c).1 ≤ 2 ∧ (rowU s c).2.1 < 65536 := by
  unfold rowU
  rw [if_neg hs]
  repeat' split
  all_goals simp <;> omega
theorem ErrV.only {lo : Nat} {c a : Int} {v : Value} {b : Nat} {w w' : World} (h : ErrV lo c a v w) (ho : Only b w w') (hb : b < lo) : ErrV lo c a v w' := by
  unfold ErrV at *
  by_cases hc : c = 0
  · rw [if_pos hc] at *; exact h
  · rw [if_neg hc] at *
    obtain ⟨f, h0, h1, h2, h3⟩ := h
    have hl : f < w.heap.size := World.block_lt_of_cell? w _ h2
    have hk := ho.block f hl (by omega)
    exact ⟨f, h0, h1, (World.cell?_of_block (a := ⟨f, 0, none⟩) hk).trans h2, (World.cell?_of_block (a := ⟨f, 1, none⟩) hk).trans h3⟩
/-- bounds of an answer -/
structure Fits (left : List UInt8) (s : Nat) (P : TP) : Prop where
  t12 : s = 1 ∨ s = 2 → P.n = P.t.length
  t0 : ¬ (s = 1 ∨ s = 2) → P.t = []
  n64 : P.n < 18446744073709551616
  n16 : s ≠ 0 → P.n < 65536
  tl : P.t.length ≤ left.length
  ml : P.m ≤ left.length
  c5 : P.c ≤ 5
  bad : P.c ≠ 0 → P.m = 0 ∧ P.n = 0
  good : P.c = 0 → 1 ≤ P.m
theorem Fits.err (left : List UInt8) (s c : Nat) (h0 : c ≠ 0) (h5 : c ≤ 5) : Fits left s ⟨0, [], c, 0⟩ :=
  ⟨fun _ => rfl, fun _ => rfl, by simp, fun _ => by simp, by simp, by simp, h5, fun _ => ⟨rfl, rfl⟩, fun h => absurd h h0⟩
theorem takeP_fits (left : List UInt8) (most s : Nat) : Fits left s (takeP left most s) := by
  cases left with
  | nil => exact Fits.err _ _ 4 (by decide) (by decide)
  | cons b r =>
    rw [takeP]
    have hq : b.toNat < 256 := b.toNat_lt
    have hfit := rowU_fit s b.toNat hq
    have hsz := rowU_size s b.toNat hq
    generalize rowU s b.toNat = R at *
    obtain ⟨sz, n0, least⟩ := R
    simp only at hfit hsz ⊢
    by_cases h0 : sz < 0
    · rw [if_pos h0]; exact Fits.err _ _ 5 (by decide) (by decide)
    · rw [if_neg h0]
      obtain ⟨z, rfl⟩ : ∃ z : Nat, sz = (z : Int) := ⟨sz.toNat, by omega⟩
      rw [Int.toNat_natCast]
      have hz : z ≤ 8 ∧ n0 < 256 ∧ (0 < z → n0 = 0) := by
        rcases hfit with h | h | h
        · have : (z : Int) = -1 := by simpa using congrArg Prod.fst h
          omega
        · omega
        · omega
      by_cases h1 : r.length < z
      · rw [if_pos h1]; exact Fits.err _ _ 4 (by decide) (by decide)
      · rw [if_neg h1]
        have hN := beN_lt (r.take z) n0
        have hl : (r.take z).length = z := by rw [List.length_take]; omega
        rw [hl] at hN
        have h64 : beN n0 (r.take z) < 18446744073709551616 := by
          by_cases h : 0 < z
          · rw [hz.2.2 h, Nat.zero_add, Nat.one_mul] at hN
            rw [hz.2.2 h]
            exact Nat.lt_of_lt_of_le hN (Nat.le_trans (Nat.pow_le_pow_right (by decide) hz.1) (by decide))
          · obtain rfl : z = 0 := by omega
            rw [List.take_zero, beN]; omega
        have h16 : s ≠ 0 → beN n0 (r.take z) < 65536 := by
          intro hs
          have h2 := hsz hs
          by_cases h : 0 < z
          · rw [hz.2.2 h, Nat.zero_add, Nat.one_mul] at hN
            rw [hz.2.2 h]
            exact Nat.lt_of_lt_of_le hN (Nat.le_trans (Nat.pow_le_pow_right (by decide) (show z ≤ 2 by omega)) (by decide))
          · obtain rfl : z = 0 := by omega
            rw [List.take_zero, beN]; omega
        generalize beN n0 (r.take z) = N at *
        clear hN hl hfit hsz
        by_cases h2 : N < least
        · rw [if_pos h2]; exact Fits.err _ _ 5 (by decide) (by decide)
        · rw [if_neg h2]
          by_cases h3 : s ≠ 0 ∧ most < N
          · rw [if_pos h3]; exact Fits.err _ _ 3 (by decide) (by decide)
          · rw [if_neg h3]
            by_cases h4 : s = 1 ∨ s = 2
            · rw [if_pos h4]
              by_cases h5 : r.length - z < N
              · rw [if_pos h5]; exact Fits.err _ _ 4 (by decide) (by decide)
              · rw [if_neg h5]
                have hd : ((r.drop z).take N).length = N := by rw [List.length_take, List.length_drop]; omega
                exact ⟨fun _ => hd.symm, fun h => absurd h4 h, h64, h16, by show ((r.drop z).take N).length ≤ _; rw [hd, List.length_cons]; omega, by show 1 + z + N ≤ _; rw [List.length_cons]; omega, Nat.zero_le _, fun h => absurd rfl h, fun _ => by show 1 ≤ 1 + z + N; omega⟩
            · rw [if_neg h4]
              exact ⟨fun h => absurd h h4, fun _ => rfl, h64, h16, Nat.zero_le _, by show 1 + z ≤ _; rw [List.length_cons]; omega, Nat.zero_le _, fun h => absurd rfl h, fun _ => by show 1 ≤ 1 + z; omega⟩

end Go.Proofs.YtlhmmplkdjibkaaGreatDoor
/- The program's own reader, from below: what gives up; take. -/
namespace Go.Proofs.YtlhmmplkdjibkaaGreatDoor
open Go.RowKit

/-- the program's reader -/
def RAt (b : Nat) (S : List UInt8) (a most : Nat) (w : World) : Prop := w.heap[b]? = some (.cells #[.string ⟨S.toArray⟩, .int .i64 (a : Int), .int .i64 (most : Int)] 186 (0, 0))
/-- the panic that carries a fault at block f -/
abbrev upF (f : Nat) : Ending := .panicked [{ v := .iface 85 (.pointer (some ⟨f, 0, none⟩)), recovered := false }]
/-- a call that gave up with a Code; of what was there only block A may have turned -/
structure Gave (c A : Nat) (w : World) (e : Ending) (w' : World) : Prop where
  f : ∃ f, w.heap.size ≤ f ∧ e = upF f ∧ w'.heap[f]? = some (.cells #[.int .i64 (c : Int), .int .i64 0] 42 (0, 0))
  o : Only A w w'
theorem Gave.from {c A : Nat} {w w1 : World} {e : Ending} {w' : World} (h : Gave c A w1 e w') (ho : Only A w w1) : Gave c A w e w' := by
  obtain ⟨f, h1, h2, h3⟩ := h.f
  exact ⟨⟨f, Nat.le_trans ho.size h1, h2, h3⟩, ho.trans h.o⟩

set_option maxRecDepth 100000 in
theorem giveUp_any (c A : Nat) (w : World) : Calls Tryz.prog 123 #[.int .i64 (c : Int)] w (Gave c A w) := by
  have HN := Lib.hid (heap_alloc_new w (.cells #[.int .i64 (c : Int), .int .i64 0] 42))
  have HO := Lib.hid (Only.of_below (b := A) (by0 w (.cells #[.int .i64 (c : Int), .int .i64 0] 42)))
  go_enter Tryz.func123, Tryz.ntmps123
  go_wp2
  exact ⟨rfl, ⟨⟨_, Nat.le_refl _, rfl, HN.out⟩, HO.out⟩⟩

/-- what take answers and leaves -/
structure Cut (A : Nat) (S : List UInt8) (a m n : Nat) (w : World) (e : Ending) (w' : World) : Prop where
  e : e = .returned (.string ⟨((S.drop a).take n).toArray⟩)
  r : RAt A S (a + n) m w'
  o : Only A w w'

set_option maxRecDepth 100000 in
set_option maxHeartbeats 1000000 in
theorem qtake_short (A : Nat) (S : List UInt8) (a m n : Nat) (w : World) (hR : RAt A S a m w) (_hS : S.length ≤ 1000000) (ha : a ≤ S.length) (hn : n ≤ 9223372036854775807) (hs : (S.drop a).length < n) :
    Calls Tryz.prog 122 #[.pointer (some ⟨A, 0, none⟩), .int .i64 (n : Int)] w (Gave 4 A w) := by
  have c0 := (lit_cell hR 0).trans rfl
  have c1 := (lit_cell hR 1).trans rfl
  have hlt : (S.length : Int) - (a : Int) < (n : Int) := by rw [List.length_drop] at hs; omega
  have w1 : wrap64 ((S.length : Int) - (a : Int)) = (S.length : Int) - (a : Int) := w64 _ (by omega) (by omega)
  clear hs _hS ha hn hR
  go_enter Tryz.func122, Tryz.ntmps122
  go_wp2
  go_quiet (fail)
  have HO := Lib.hid (Only.of_below (b := A) (by0q w nq))
  generalize w.drewN nq = wq at *
  have HG := Lib.hid (giveUp_any 4 A wq)
  go_wp2_with (go_at_call 123; refine HG.out.mono ?_; rintro e w2 ⟨⟨f, hf, rfl, hc⟩, ho⟩)
  exact ⟨rfl, (⟨⟨f, hf, rfl, hc⟩, ho⟩ : Gave 4 A wq _ w2).from HO.out⟩

set_option maxRecDepth 100000 in
set_option maxHeartbeats 1000000 in
theorem qtake_ok (A : Nat) (S : List UInt8) (a m n : Nat) (w : World) (hR : RAt A S a m w) (hS : S.length ≤ 1000000) (ha : a ≤ S.length) (hs : n ≤ (S.drop a).length) :
    Calls Tryz.prog 122 #[.pointer (some ⟨A, 0, none⟩), .int .i64 (n : Int)] w (Cut A S a m n w) := by
  have HR := Lib.hid hR
  have c0 := (lit_cell hR 0).trans rfl
  have c1 := (lit_cell hR 1).trans rfl
  have hle : a + n ≤ S.length := by rw [List.length_drop] at hs; omega
  have hlt : ¬ (S.length : Int) - (a : Int) < (n : Int) := by omega
  have w1 : wrap64 ((S.length : Int) - (a : Int)) = (S.length : Int) - (a : Int) := w64 _ (by omega) (by omega)
  have w2 : wrap64 ((a : Int) + (n : Int)) = (a : Int) + (n : Int) := w64 _ (by omega) (by omega)
  have hex : (⟨S.toArray⟩ : ByteArray).extract a (a + n) = ⟨((S.drop a).take n).toArray⟩ := by rw [extract_list, List.drop_take, Nat.add_sub_cancel_left]
  have HX := Lib.hid hex
  have s1 : (0 : Int) ≤ (a : Int) := by omega
  have s2 : (a : Int) ≤ (a : Int) + (n : Int) := by omega
  have s3 : (a : Int) + (n : Int) ≤ (S.length : Int) := by omega
  have s4 : ((a : Int) + (n : Int)).toNat = a + n := by omega
  clear hs hS ha hR hle hex
  obtain ⟨T, hT⟩ : ∃ T, (S.drop a).take n = T := ⟨_, rfl⟩
  rw [hT] at HX
  have HT := Lib.hid hT
  clear hT
  have hex := HX.out
  go_enter Tryz.func122, Tryz.ntmps122
  go_wp2
  go_quiet (fail)
  have HO := Lib.hid (Only.of_below (b := A) (by0q w nq))
  have HRq := Lib.hid (show RAt A S a m (w.drewN nq) from HR.out)
  generalize w.drewN nq = wq at *
  have c0 := (lit_cell HRq.out 0).trans rfl
  have c1 := (lit_cell HRq.out 1).trans rfl
  have f1 := lit_free HRq.out 1
  clear HR
  go_upto_region 5 with fail
  have HO2 := Lib.hid (HO.out.trans (Only.set A 1 (.int .i64 ((a : Int) + (n : Int))) wq))
  have HR2 := Lib.hid (show RAt A S (a + n) m (wq.setCell ⟨A, 1, none⟩ (.int .i64 ((a : Int) + (n : Int)))) from by
    unfold RAt
    rw [Int.natCast_add]
    exact (lit_set _ HRq.out).trans rfl)
  go_quiet (fail)
  have HO3 := Lib.hid (HO2.out.trans (Only.of_below (b := A) (by0q _ nq)))
  have HR3 := Lib.hid (show RAt A S (a + n) m ((wq.setCell ⟨A, 1, none⟩ (.int .i64 ((a : Int) + (n : Int)))).drewN nq) from HR2.out)
  go_wp2
  go_ret
  exact ⟨by rw [HT.out]; rfl, HR3.out, HO3.out⟩
end Go.Proofs.YtlhmmplkdjibkaaGreatDoor
/- Wire's own program: what gives up; must, sure. -/
namespace Go.Proofs.YtlhmmplkdjibkaaGreatDoor
open Go.RowKit

/-- a call that gave up with a fault; its block lies at lo or behind -/
def Up (lo : Nat) (c a : Int) (e : Ending) (w : World) : Prop := ∃ f, lo ≤ f ∧ e = upF f ∧ w.cell? ⟨f, 0, none⟩ = some (.int .i64 c) ∧ w.cell? ⟨f, 1, none⟩ = some (.int .i64 a)
theorem Up.mono {lo lo' : Nat} {c a : Int} {e : Ending} {w : World} (h : Up lo c a e w) (hl : lo' ≤ lo) : Up lo' c a e w := by
  obtain ⟨f, h1, h2⟩ := h
  exact ⟨f, Nat.le_trans hl h1, h2⟩
theorem ErrV.shape {lo : Nat} {c a : Int} {v : Value} {w : World} (hc : c ≠ 0) (h : ErrV lo c a v w) : ∃ f, v = .iface 85 (.pointer (some ⟨f, 0, none⟩)) ∧ Up lo c a (upF f) w := by
  unfold ErrV at h
  rw [if_neg hc] at h
  obtain ⟨g, h1, h2, h3⟩ := h
  exact ⟨g, h2, g, h1, rfl, h3⟩

set_option maxRecDepth 100000 in
theorem must_yes (c : Int) (w : World) : Calls Tryz.prog 117 #[.bool true, .int .i64 c] w fun e w' => e = .returned (.tuple #[]) ∧ w' = w := by
  go_enter Tryz.func117, Tryz.ntmps117
  go_wp2
  exact bodyPost_end (results_none rfl _ _ _) rfl ⟨rfl, rfl⟩
set_option maxRecDepth 100000 in
theorem must_no (c : Int) (w : World) : Calls Tryz.prog 117 #[.bool false, .int .i64 c] w fun e w' => Up w.heap.size c 0 e w' ∧ Below w.heap.size w w' := by
  have HN := Lib.hid (heap_alloc_new w (.cells #[.int .i64 c, .int .i64 0] 42))
  have HO := Lib.hid (by0 w (.cells #[.int .i64 c, .int .i64 0] 42))
  go_enter Tryz.func117, Tryz.ntmps117
  go_wp2
  exact ⟨rfl, ⟨_, Nat.le_refl _, rfl, (lit_cell HN.out 0).trans rfl, (lit_cell HN.out 1).trans rfl⟩, HO.out⟩
set_option maxRecDepth 100000 in
theorem sureI_ok (n : Int) (w : World) : Calls Tryz.prog 111 #[.int .i64 n, .nilIface] w fun e w' => e = .returned (.int .i64 n) ∧ w' = w := by
  go_enter Tryz.func111, Tryz.ntmps111
  go_wp2
  go_ret
  exact ⟨rfl, rfl⟩
set_option maxRecDepth 100000 in
theorem sureI_bad (n : Int) (f : Nat) (w : World) : Calls Tryz.prog 111 #[.int .i64 n, .iface 85 (.pointer (some ⟨f, 0, none⟩))] w fun e w' => e = upF f ∧ w' = w := by
  go_enter Tryz.func111, Tryz.ntmps111
  go_wp2
  exact ⟨rfl, rfl, rfl⟩
set_option maxRecDepth 100000 in
theorem sureN_ok (n : Int) (w : World) : Calls Tryz.prog 152 #[.int .u64 n, .nilIface] w fun e w' => e = .returned (.int .u64 n) ∧ w' = w := by
  go_enter Tryz.func152, Tryz.ntmps152
  go_wp2
  go_ret
  exact ⟨rfl, rfl⟩
set_option maxRecDepth 100000 in
theorem sureN_bad (n : Int) (f : Nat) (w : World) : Calls Tryz.prog 152 #[.int .u64 n, .iface 85 (.pointer (some ⟨f, 0, none⟩))] w fun e w' => e = upF f ∧ w' = w := by
  go_enter Tryz.func152, Tryz.ntmps152
  go_wp2
  exact ⟨rfl, rfl, rfl⟩
set_option maxRecDepth 100000 in
theorem sureS_ok (s : ByteArray) (w : World) : Calls Tryz.prog 113 #[.string s, .nilIface] w fun e w' => e = .returned (.string s) ∧ w' = w := by
  go_enter Tryz.func113, Tryz.ntmps113
  go_wp2
  go_ret
  exact ⟨rfl, rfl⟩
set_option maxRecDepth 100000 in
theorem sureS_bad (s : ByteArray) (f : Nat) (w : World) : Calls Tryz.prog 113 #[.string s, .iface 85 (.pointer (some ⟨f, 0, none⟩))] w fun e w' => e = upF f ∧ w' = w := by
  go_enter Tryz.func113, Tryz.ntmps113
  go_wp2
  exact ⟨rfl, rfl, rfl⟩
end Go.Proofs.YtlhmmplkdjibkaaGreatDoor
