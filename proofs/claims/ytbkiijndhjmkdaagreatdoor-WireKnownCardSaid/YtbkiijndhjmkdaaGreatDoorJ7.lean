/- What Take answers: its bounds. What a reader is to do, as a hypothesis; the law's take. -/
import Derived.Test.YtbkiijndhjmkdaaGreatDoorJ3
import Derived.Test.YtbkiijndhjmkdaaGreatDoorJ5
import Derived.BigQuiet
import Derived.WalkSmall
import Derived.Deep.QuietTactic
import Derived.Laws.EntriesVeiled
import Derived.Deep.Cut
namespace Go.Proofs.YtbkiijndhjmkdaaGreatDoor
open Go.RowKit

theorem rowU_size (s c : Nat) (hc : c < 256) (hs : s ≠ 0) : (rowU s c).1 ≤ 2 ∧ (rowU s c).2.1 < 65536 := by
  unfold rowU
  rw [if_neg hs]
  repeat' split
  all_goals simp <;> omega
theorem ErrV.only {lo : Nat} {c a : Int} {v : Value} {b : Nat} {w w' : World} (h : ErrV lo c a v w) (ho : Only b w w') (hb : b < lo) : ErrV lo c a v w' := by
  unfold ErrV at *
  by_cases hc : c = 0
  · rw [if_pos hc] at *; exact h
  · rw [if_neg hc] at *
    obtain ⟨f, h0, h1, h2, h3⟩ := h
    have hl : f < w.heap.size := World.block_lt_of_cell? w _ h2
    have hk := ho.block f hl (by omega)
    exact ⟨f, h0, h1, (World.cell?_of_block (a := ⟨f, 0, none⟩) hk).trans h2, (World.cell?_of_block (a := ⟨f, 1, none⟩) hk).trans h3⟩
/-- bounds of an answer -/
structure Fits (left : List UInt8) (s : Nat) (P : TP) : Prop where
  t12 : s = 1 ∨ s = 2 → P.n = P.t.length
  t0 : ¬ (s = 1 ∨ s = 2) → P.t = []
  n64 : P.n < 18446744073709551616
  n16 : s ≠ 0 → P.n < 65536
  tl : P.t.length ≤ left.length
  ml : P.m ≤ left.length
  c5 : P.c ≤ 5
  bad : P.c ≠ 0 → P.m = 0 ∧ P.n = 0
  good : P.c = 0 → 1 ≤ P.m
theorem Fits.err (left : List UInt8) (s c : Nat) (h0 : c ≠ 0) (h5 : c ≤ 5) : Fits left s ⟨0, [], c, 0⟩ :=
  ⟨fun _ => rfl, fun _ => rfl, by simp, fun _ => by simp, by simp, by simp, h5, fun _ => ⟨rfl, rfl⟩, fun h => absurd h h0⟩
theorem takeP_fits (left : List UInt8) (most s : Nat) : Fits left s (takeP left most s) := by
  cases left with
  | nil => exact Fits.err _ _ 4 (by decide) (by decide)
  | cons b r =>
    rw [takeP]
    have hq : b.toNat < 256 := b.toNat_lt
    have hfit := rowU_fit s b.toNat hq
    have hsz := rowU_size s b.toNat hq
    generalize rowU s b.toNat = R at *
    obtain ⟨sz, n0, least⟩ := R
    simp only at hfit hsz ⊢
    by_cases h0 : sz < 0
    · rw [if_pos h0]; exact Fits.err _ _ 5 (by decide) (by decide)
    · rw [if_neg h0]
      obtain ⟨z, rfl⟩ : ∃ z : Nat, sz = (z : Int) := ⟨sz.toNat, by omega⟩
      rw [Int.toNat_natCast]
      have hz : z ≤ 8 ∧ n0 < 256 ∧ (0 < z → n0 = 0) := by
        rcases hfit with h | h | h
        · have : (z : Int) = -1 := by simpa using congrArg Prod.fst h
          omega
        · omega
        · omega
      by_cases h1 : r.length < z
      · rw [if_pos h1]; exact Fits.err _ _ 4 (by decide) (by decide)
      · rw [if_neg h1]
        have hN := beN_lt (r.take z) n0
        have hl : (r.take z).length = z := by rw [List.length_take]; omega
        rw [hl] at hN
        have h64 : beN n0 (r.take z) < 18446744073709551616 := by
          by_cases h : 0 < z
          · rw [hz.2.2 h, Nat.zero_add, Nat.one_mul] at hN
            rw [hz.2.2 h]
            exact Nat.lt_of_lt_of_le hN (Nat.le_trans (Nat.pow_le_pow_right (by decide) hz.1) (by decide))
          · obtain rfl : z = 0 := by omega
            rw [List.take_zero, beN]; omega
        have h16 : s ≠ 0 → beN n0 (r.take z) < 65536 := by
          intro hs
          have h2 := hsz hs
          by_cases h : 0 < z
          · rw [hz.2.2 h, Nat.zero_add, Nat.one_mul] at hN
            rw [hz.2.2 h]
            exact Nat.lt_of_lt_of_le hN (Nat.le_trans (Nat.pow_le_pow_right (by decide) (show z ≤ 2 by omega)) (by decide))
          · obtain rfl : z = 0 := by omega
            rw [List.take_zero, beN]; omega
        generalize beN n0 (r.take z) = N at *
        clear hN hl hfit hsz
        by_cases h2 : N < least
        · rw [if_pos h2]; exact Fits.err _ _ 5 (by decide) (by decide)
        · rw [if_neg h2]
          by_cases h3 : s ≠ 0 ∧ most < N
          · rw [if_pos h3]; exact Fits.err _ _ 3 (by decide) (by decide)
          · rw [if_neg h3]
            by_cases h4 : s = 1 ∨ s = 2
            · rw [if_pos h4]
              by_cases h5 : r.length - z < N
              · rw [if_pos h5]; exact Fits.err _ _ 4 (by decide) (by decide)
              · rw [if_neg h5]
                have hd : ((r.drop z).take N).length = N := by rw [List.length_take, List.length_drop]; omega
                exact ⟨fun _ => hd.symm, fun h => absurd h4 h, h64, h16, by show ((r.drop z).take N).length ≤ _; rw [hd, List.length_cons]; omega, by show 1 + z + N ≤ _; rw [List.length_cons]; omega, Nat.zero_le _, fun h => absurd rfl h, fun _ => by show 1 ≤ 1 + z + N; omega⟩
            · rw [if_neg h4]
              exact ⟨fun h => absurd h h4, fun _ => rfl, h64, h16, Nat.zero_le _, by show 1 + z ≤ _; rw [List.length_cons]; omega, Nat.zero_le _, fun h => absurd rfl h, fun _ => by show 1 ≤ 1 + z; omega⟩

end Go.Proofs.YtbkiijndhjmkdaaGreatDoor
/- The program's own reader, from below: what gives up; take. -/
namespace Go.Proofs.YtbkiijndhjmkdaaGreatDoor
open Go.RowKit

/-- the program's reader -/
def RAt (b : Nat) (S : List UInt8) (a most : Nat) (w : World) : Prop := w.heap[b]? = some (.cells #[.string ⟨S.toArray⟩, .int .i64 (a : Int), .int .i64 (most : Int)] 226 (0, 0))
/-- the panic that carries a fault at block f -/
abbrev upF (f : Nat) : Ending := .panicked [{ v := .iface 106 (.pointer (some ⟨f, 0, none⟩)), recovered := false }]
/-- a call that gave up with a Code; of what was there only block A may have turned -/
structure Gave (c A : Nat) (w : World) (e : Ending) (w' : World) : Prop where
  f : ∃ f, w.heap.size ≤ f ∧ e = upF f ∧ w'.heap[f]? = some (.cells #[.int .i64 (c : Int), .int .i64 0] 38 (0, 0))
  o : Only A w w'
theorem Gave.from {c A : Nat} {w w1 : World} {e : Ending} {w' : World} (h : Gave c A w1 e w') (ho : Only A w w1) : Gave c A w e w' := by
  obtain ⟨f, h1, h2, h3⟩ := h.f
  exact ⟨⟨f, Nat.le_trans ho.size h1, h2, h3⟩, ho.trans h.o⟩

set_option maxRecDepth 100000 in
theorem giveUp_any (c A : Nat) (w : World) : Calls Tryz.prog 157 #[.int .i64 (c : Int)] w (Gave c A w) := by
  have HN := Lib.hid (heap_alloc_new w (.cells #[.int .i64 (c : Int), .int .i64 0] 38))
  have HO := Lib.hid (Only.of_below (b := A) (by0 w (.cells #[.int .i64 (c : Int), .int .i64 0] 38)))
  go_enter Tryz.func157, Tryz.ntmps157
  go_wp2
  exact ⟨rfl, ⟨⟨_, Nat.le_refl _, rfl, HN.out⟩, HO.out⟩⟩

/-- what take answers and leaves -/
structure Cut (A : Nat) (S : List UInt8) (a m n : Nat) (w : World) (e : Ending) (w' : World) : Prop where
  e : e = .returned (.string ⟨((S.drop a).take n).toArray⟩)
  r : RAt A S (a + n) m w'
  o : Only A w w'

set_option maxRecDepth 100000 in
set_option maxHeartbeats 1000000 in
theorem qtake_short (A : Nat) (S : List UInt8) (a m n : Nat) (w : World) (hR : RAt A S a m w) (_hS : S.length ≤ 1000000) (ha : a ≤ S.length) (hn : n ≤ 9223372036854775807) (hs : (S.drop a).length < n) :
    Calls Tryz.prog 156 #[.pointer (some ⟨A, 0, none⟩), .int .i64 (n : Int)] w (Gave 4 A w) := by
  have c0 := (lit_cell hR 0).trans rfl
  have c1 := (lit_cell hR 1).trans rfl
  have hlt : (S.length : Int) - (a : Int) < (n : Int) := by rw [List.length_drop] at hs; omega
  have w1 : wrap64 ((S.length : Int) - (a : Int)) = (S.length : Int) - (a : Int) := w64 _ (by omega) (by omega)
  clear hs _hS ha hn hR
  go_enter Tryz.func156, Tryz.ntmps156
  go_wp2
  go_quiet (fail)
  have HO := Lib.hid (Only.of_below (b := A) (by0q w nq))
  generalize w.drewN nq = wq at *
  have HG := Lib.hid (giveUp_any 4 A wq)
  go_wp2_with (go_at_call 157; refine HG.out.mono ?_; rintro e w2 ⟨⟨f, hf, rfl, hc⟩, ho⟩)
  exact ⟨rfl, (⟨⟨f, hf, rfl, hc⟩, ho⟩ : Gave 4 A wq _ w2).from HO.out⟩

set_option maxRecDepth 100000 in
set_option maxHeartbeats 1000000 in
theorem qtake_ok (A : Nat) (S : List UInt8) (a m n : Nat) (w : World) (hR : RAt A S a m w) (hS : S.length ≤ 1000000) (ha : a ≤ S.length) (hs : n ≤ (S.drop a).length) :
    Calls Tryz.prog 156 #[.pointer (some ⟨A, 0, none⟩), .int .i64 (n : Int)] w (Cut A S a m n w) := by
  have HR := Lib.hid hR
  have c0 := (lit_cell hR 0).trans rfl
  have c1 := (lit_cell hR 1).trans rfl
  have hle : a + n ≤ S.length := by rw [List.length_drop] at hs; omega
  have hlt : ¬ (S.length : Int) - (a : Int) < (n : Int) := by omega
  have w1 : wrap64 ((S.length : Int) - (a : Int)) = (S.length : Int) - (a : Int) := w64 _ (by omega) (by omega)
  have w2 : wrap64 ((a : Int) + (n : Int)) = (a : Int) + (n : Int) := w64 _ (by omega) (by omega)
  have hex : (⟨S.toArray⟩ : ByteArray).extract a (a + n) = ⟨((S.drop a).take n).toArray⟩ := by rw [extract_list, List.drop_take, Nat.add_sub_cancel_left]
  have HX := Lib.hid hex
  have s1 : (0 : Int) ≤ (a : Int) := by omega
  have s2 : (a : Int) ≤ (a : Int) + (n : Int) := by omega
  have s3 : (a : Int) + (n : Int) ≤ (S.length : Int) := by omega
  have s4 : ((a : Int) + (n : Int)).toNat = a + n := by omega
  clear hs hS ha hR hle hex
  obtain ⟨T, hT⟩ : ∃ T, (S.drop a).take n = T := ⟨_, rfl⟩
  rw [hT] at HX
  have HT := Lib.hid hT
  clear hT
  have hex := HX.out
  go_enter Tryz.func156, Tryz.ntmps156
  go_wp2
  go_quiet (fail)
  have HO := Lib.hid (Only.of_below (b := A) (by0q w nq))
  have HRq := Lib.hid (show RAt A S a m (w.drewN nq) from HR.out)
  generalize w.drewN nq = wq at *
  have c0 := (lit_cell HRq.out 0).trans rfl
  have c1 := (lit_cell HRq.out 1).trans rfl
  have f1 := lit_free HRq.out 1
  clear HR
  go_upto_region 5 with fail
  have HO2 := Lib.hid (HO.out.trans (Only.set A 1 (.int .i64 ((a : Int) + (n : Int))) wq))
  have HR2 := Lib.hid (show RAt A S (a + n) m (wq.setCell ⟨A, 1, none⟩ (.int .i64 ((a : Int) + (n : Int)))) from by
    unfold RAt
    rw [Int.natCast_add]
    exact (lit_set _ HRq.out).trans rfl)
  go_quiet (fail)
  have HO3 := Lib.hid (HO2.out.trans (Only.of_below (b := A) (by0q _ nq)))
  have HR3 := Lib.hid (show RAt A S (a + n) m ((wq.setCell ⟨A, 1, none⟩ (.int .i64 ((a : Int) + (n : Int)))).drewN nq) from HR2.out)
  go_wp2
  go_ret
  exact ⟨by rw [HT.out]; rfl, HR3.out, HO3.out⟩
end Go.Proofs.YtbkiijndhjmkdaaGreatDoor
/- Wire's own program: what gives up; must, sure. -/
namespace Go.Proofs.YtbkiijndhjmkdaaGreatDoor
open Go.RowKit

/-- a call that gave up with a fault; its block lies at lo or behind -/
def Up (lo : Nat) (c a : Int) (e : Ending) (w : World) : Prop := ∃ f, lo ≤ f ∧ e = upF f ∧ w.cell? ⟨f, 0, none⟩ = some (.int .i64 c) ∧ w.cell? ⟨f, 1, none⟩ = some (.int .i64 a)
theorem Up.mono {lo lo' : Nat} {c a : Int} {e : Ending} {w : World} (h : Up lo c a e w) (hl : lo' ≤ lo) : Up lo' c a e w := by
  obtain ⟨f, h1, h2⟩ := h
  exact ⟨f, Nat.le_trans hl h1, h2⟩
theorem Up.of_err {lo : Nat} {c a : Int} {f : Nat} {w : World} (hc : c ≠ 0) (h : ErrV lo c a (.iface 106 (.pointer (some ⟨f, 0, none⟩))) w) : Up lo c a (upF f) w := by
  unfold ErrV at h
  rw [if_neg hc] at h
  obtain ⟨g, h1, h2, h3⟩ := h
  cases h2
  exact ⟨f, h1, rfl, h3⟩
theorem ErrV.shape {lo : Nat} {c a : Int} {v : Value} {w : World} (hc : c ≠ 0) (h : ErrV lo c a v w) : ∃ f, v = .iface 106 (.pointer (some ⟨f, 0, none⟩)) ∧ Up lo c a (upF f) w := by
  unfold ErrV at h
  rw [if_neg hc] at h
  obtain ⟨g, h1, h2, h3⟩ := h
  exact ⟨g, h2, g, h1, rfl, h3⟩

set_option maxRecDepth 100000 in
theorem must_yes (c : Int) (w : World) : Calls Tryz.prog 151 #[.bool true, .int .i64 c] w fun e w' => e = .returned (.tuple #[]) ∧ w' = w := by
  go_enter Tryz.func151, Tryz.ntmps151
  go_wp2
  exact bodyPost_end (results_none rfl _ _ _) rfl ⟨rfl, rfl⟩
set_option maxRecDepth 100000 in
theorem must_no (c : Int) (w : World) : Calls Tryz.prog 151 #[.bool false, .int .i64 c] w fun e w' => Up w.heap.size c 0 e w' ∧ Below w.heap.size w w' := by
  have HN := Lib.hid (heap_alloc_new w (.cells #[.int .i64 c, .int .i64 0] 38))
  have HO := Lib.hid (by0 w (.cells #[.int .i64 c, .int .i64 0] 38))
  go_enter Tryz.func151, Tryz.ntmps151
  go_wp2
  exact ⟨rfl, ⟨_, Nat.le_refl _, rfl, (lit_cell HN.out 0).trans rfl, (lit_cell HN.out 1).trans rfl⟩, HO.out⟩
set_option maxRecDepth 100000 in
theorem sureI_ok (n : Int) (w : World) : Calls Tryz.prog 145 #[.int .i64 n, .nilIface] w fun e w' => e = .returned (.int .i64 n) ∧ w' = w := by
  go_enter Tryz.func145, Tryz.ntmps145
  go_wp2
  go_ret
  exact ⟨rfl, rfl⟩
set_option maxRecDepth 100000 in
theorem sureI_bad (n : Int) (f : Nat) (w : World) : Calls Tryz.prog 145 #[.int .i64 n, .iface 106 (.pointer (some ⟨f, 0, none⟩))] w fun e w' => e = upF f ∧ w' = w := by
  go_enter Tryz.func145, Tryz.ntmps145
  go_wp2
  exact ⟨rfl, rfl, rfl⟩
set_option maxRecDepth 100000 in
theorem sureN_ok (n : Int) (w : World) : Calls Tryz.prog 183 #[.int .u64 n, .nilIface] w fun e w' => e = .returned (.int .u64 n) ∧ w' = w := by
  go_enter Tryz.func183, Tryz.ntmps183
  go_wp2
  go_ret
  exact ⟨rfl, rfl⟩
set_option maxRecDepth 100000 in
theorem sureN_bad (n : Int) (f : Nat) (w : World) : Calls Tryz.prog 183 #[.int .u64 n, .iface 106 (.pointer (some ⟨f, 0, none⟩))] w fun e w' => e = upF f ∧ w' = w := by
  go_enter Tryz.func183, Tryz.ntmps183
  go_wp2
  exact ⟨rfl, rfl, rfl⟩
set_option maxRecDepth 100000 in
theorem sureS_ok (s : ByteArray) (w : World) : Calls Tryz.prog 147 #[.string s, .nilIface] w fun e w' => e = .returned (.string s) ∧ w' = w := by
  go_enter Tryz.func147, Tryz.ntmps147
  go_wp2
  go_ret
  exact ⟨rfl, rfl⟩
set_option maxRecDepth 100000 in
theorem sureS_bad (s : ByteArray) (f : Nat) (w : World) : Calls Tryz.prog 147 #[.string s, .iface 106 (.pointer (some ⟨f, 0, none⟩))] w fun e w' => e = upF f ∧ w' = w := by
  go_enter Tryz.func147, Tryz.ntmps147
  go_wp2
  exact ⟨rfl, rfl, rfl⟩
end Go.Proofs.YtbkiijndhjmkdaaGreatDoor
/- Fields as values; a row of them in memory; what a predicate of fields is to do; told, lacking; IndexFunc, ContainsFunc. -/
namespace Go.Proofs.YtbkiijndhjmkdaaGreatDoor
open Go.RowKit

/-- a function that is entered by its number -/
def Ent (F : FuncId) : Prop := ∀ (args : Array Value) (w : World), (callFunc F args).run Tryz.prog w = .ok (.enter F args) w
/-- a field: its key, whether it is never left out, and its closures, each with what it captures -/
structure FV where
  key : UInt8
  needed : Bool
  tF : FuncId
  tC : Array Value
  lF : FuncId
  lC : Array Value
  rF : FuncId
  rC : Array Value
abbrev FV.t (f : FV) : Value := .func (.func f.tF) #[] f.tC
abbrev FV.l (f : FV) : Value := .func (.func f.lF) #[] f.lC
abbrev FV.r (f : FV) : Value := .func (.func f.rF) #[] f.rC
def FV.cells (f : FV) : List Value := [.string ⟨#[f.key]⟩, .bool f.needed, f.t, f.l, f.r]
abbrev FV.val (f : FV) : Value := .agg #[.string ⟨#[f.key]⟩, .bool f.needed, .func (.func f.tF) #[] f.tC, .func (.func f.lF) #[] f.lC, .func (.func f.rF) #[] f.rC]
/-- at block b, from o on, lie these fields -/
def RowB (b o : Nat) (fs : List FV) (w : World) : Prop := ∀ (i : Nat) (f : FV), fs[i]? = some f → ∀ j : Nat, j < 5 → w.cell? ⟨b, o + (i * 5 + j), none⟩ = f.cells[j]?
theorem RowB.next {b o : Nat} {fs : List FV} {w w' : World} (h : RowB b o fs w) (he : w'.heap[b]? = w.heap[b]?) : RowB b o fs w' := fun i f hf j hj => (World.cell?_of_block (a := ⟨b, o + (i * 5 + j), none⟩) he).trans (h i f hf j hj)
theorem RowB.tail {b o : Nat} {fs : List FV} {w : World} (h : RowB b o fs w) (k : Nat) : RowB b (o + k * 5) (fs.drop k) w := fun i f hf j hj => by
  rw [List.getElem?_drop] at hf
  have := h (k + i) f hf j hj
  rw [show o + k * 5 + (i * 5 + j) = o + ((k + i) * 5 + j) by omega]
  exact this

/-- the field has what it has -/
structure There (f : FV) (b : Bool) (Ok : World → Prop) : Prop where
  ent : Ent f.tF
  c : ∀ w, Ok w → Calls Tryz.prog f.tF f.tC w fun e w' => e = .returned (.bool b) ∧ Below w.heap.size w w'
  nx : ∀ w w', Ok w → Below w.heap.size w w' → Ok w'
theorem There.at {f : FV} {b : Bool} {Ok : World → Prop} (h : There f b Ok) (w : World) (hw : Ok w) (o : Obj) : Calls Tryz.prog f.tF f.tC (w.alloc o) fun e w' => e = .returned (.bool b) ∧ Below w.heap.size w w' :=
  (h.c _ (h.nx _ _ hw (by0 w o))).mono fun _ _ k => ⟨k.1, (by0 w o).trans (k.2.mono (by simp))⟩

set_option maxRecDepth 100000 in
theorem told_any (f : FV) (b : Bool) (Ok : World → Prop) (h : There f b Ok) (w : World) (hw : Ok w) :
    Calls Tryz.prog 131 #[f.val] w fun e w' => e = .returned (.bool (f.needed || b)) ∧ Below w.heap.size w w' := by
  obtain ⟨key, nd, tF, tC, lF, lC, rF, rC⟩ := f
  have HC := Lib.hid (fun o => h.at w hw o)
  have hent := h.ent
  simp only [Ent] at hent HC
  clear h
  cases nd with
  | true =>
    go_enter Tryz.func131, Tryz.ntmps131
    go_wp2
    go_ret
    exact ⟨rfl, by0 _ _⟩
  | false =>
    go_enter Tryz.func131, Tryz.ntmps131
    go_wp2
    refine (HC.out _).mono ?_
    rintro e w1 ⟨rfl, hb⟩
    go_wp2
    go_ret
    exact ⟨rfl, hb⟩
set_option maxRecDepth 100000 in
theorem lacking_any (f : FV) (b : Bool) (Ok : World → Prop) (h : There f b Ok) (w : World) (hw : Ok w) :
    Calls Tryz.prog 153 #[f.val] w fun e w' => e = .returned (.bool (f.needed && !b)) ∧ Below w.heap.size w w' := by
  obtain ⟨key, nd, tF, tC, lF, lC, rF, rC⟩ := f
  have HC := Lib.hid (fun o => h.at w hw o)
  have hent := h.ent
  simp only [Ent] at hent HC
  clear h
  cases nd with
  | false =>
    go_enter Tryz.func153, Tryz.ntmps153
    go_wp2
    go_ret
    exact ⟨rfl, by0 _ _⟩
  | true =>
    go_enter Tryz.func153, Tryz.ntmps153
    go_wp2
    refine (HC.out _).mono ?_
    rintro e w1 ⟨rfl, hb⟩
    go_wp2
    go_ret
    exact ⟨rfl, hb⟩
set_option maxRecDepth 100000 in
theorem layRow1_any (f : FV) (b : Bool) (Ok : World → Prop) (h : There f b Ok) (w : World) (hw : Ok w) :
    Calls Tryz.prog 130 #[f.val] w fun e w' => e = .returned (.bool (!(f.needed || b))) ∧ Below w.heap.size w w' := by
  have HC := Lib.hid (fun o => ((told_any f b Ok h _ (h.nx _ _ hw (by0 w o))).mono fun _ _ k => ⟨k.1, (by0 w o).trans (k.2.mono (by simp))⟩ : Calls Tryz.prog 131 #[f.val] (w.alloc o) fun e w' => e = .returned (.bool (f.needed || b)) ∧ Below w.heap.size w w'))
  generalize (f.needed || b) = x at *
  obtain ⟨key, nd, tF, tC, lF, lC, rF, rC⟩ := f
  clear h
  go_enter Tryz.func130, Tryz.ntmps130
  go_wp2_with (go_at_call 131; refine (HC.out _).mono ?_; rintro e w1 ⟨rfl, hb⟩)
  cases x <;> (go_ret; exact ⟨rfl, hb⟩)
set_option maxRecDepth 100000 in
theorem thing11_any (f : FV) (b : Bool) (Ok : World → Prop) (h : There f b Ok) (w : World) (hw : Ok w) :
    Calls Tryz.prog 161 #[f.val] w fun e w' => e = .returned (.bool b) ∧ Below w.heap.size w w' := by
  obtain ⟨key, nd, tF, tC, lF, lC, rF, rC⟩ := f
  have HC := Lib.hid (fun o => h.at w hw o)
  have hent := h.ent
  simp only [Ent] at hent HC
  clear h
  go_enter Tryz.func161, Tryz.ntmps161
  go_wp2
  refine (HC.out _).mono ?_
  rintro e w1 ⟨rfl, hb⟩
  go_wp2
  go_ret
  exact ⟨rfl, hb⟩
set_option maxRecDepth 100000 in
theorem row1_any (f : FV) (kb : Nat) (t : (List UInt8)) (w : World) (h : w.cell? ⟨kb, 0, none⟩ = some (.string ⟨t.toArray⟩)) :
    Calls Tryz.prog 150 #[f.val, .pointer (some ⟨kb, 0, none⟩)] w fun e w' => e = .returned (.bool ([f.key] == t)) ∧ Below w.heap.size w w' := by
  have hkb := World.block_lt_of_cell? w _ h
  obtain ⟨key, nd, tF, tC, lF, lC, rF, rC⟩ := f
  by_cases hk : [key] = t
  · subst hk
    have HE := Lib.hid (show ([key] == [key]) = true by simp)
    simp only [HE.out]
    go_enter Tryz.func150, Tryz.ntmps150
    go_wp2
    go_ret
    exact ⟨rfl, by0 _ _⟩
  · have HE : ([key] == t) = false := by simpa using hk
    have HE2 := Lib.hid HE
    simp only [HE2.out]
    clear hk
    go_enter Tryz.func150, Tryz.ntmps150
    go_wp2
    go_ret
    exact ⟨rfl, by0 _ _⟩

/-- a predicate of fields -/
structure Pred (F : FuncId) (C : Array Value) (val : FV → Bool) (fs : List FV) (Ok : World → Prop) : Prop where
  ent : Ent F
  c : ∀ f, f ∈ fs → ∀ w, Ok w → Calls Tryz.prog F (#[f.val] ++ C) w fun e w' => e = .returned (.bool (val f)) ∧ Below w.heap.size w w'
  nx : ∀ w w', Ok w → Below w.heap.size w w' → Ok w'
/-- the place of the first one that is so, or -1 -/
def idxV (val : FV → Bool) : List FV → Nat → Int
  | [], _ => -1
  | f :: fs, i => if val f then (i : Int) else idxV val fs (i + 1)
end Go.Proofs.YtbkiijndhjmkdaaGreatDoor
