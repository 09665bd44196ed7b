/- The program's own reader, from below: what gives up; take. -/
import Derived.Test.YtefhjncoakgbkaaDoorUe
import Derived.BigQuiet
import Derived.WalkSmall
import Derived.Deep.QuietTactic
namespace Go.Proofs.YtefhjncoakgbkaaDoor
open Go.RowKit

/-- the program's reader -/
def RAt (b : Nat) (S : List UInt8) (a most : Nat) (w : World) : Prop := w.heap[b]? = some (.cells #[.string ⟨S.toArray⟩, .int .i64 (a : Int), .int .i64 (most : Int)] 58 (0, 0))
/-- the panic that carries a fault at block f -/
abbrev upF (f : Nat) : Ending := .panicked [{ v := .iface 61 (.pointer (some ⟨f, 0, none⟩)), recovered := false }]
/-- a call that gave up with a Code; of what was there only block A may have turned -/
structure Gave (c A : Nat) (w : World) (e : Ending) (w' : World) : Prop where
  f : ∃ f, w.heap.size ≤ f ∧ e = upF f ∧ w'.heap[f]? = some (.cells #[.int .i64 (c : Int), .int .i64 0] 66 (0, 0))
  o : Only A w w'
theorem Gave.from {c A : Nat} {w w1 : World} {e : Ending} {w' : World} (h : Gave c A w1 e w') (ho : Only A w w1) : Gave c A w e w' := by
  obtain ⟨f, h1, h2, h3⟩ := h.f
  exact ⟨⟨f, Nat.le_trans ho.size h1, h2, h3⟩, ho.trans h.o⟩

set_option maxRecDepth 100000 in
theorem giveUp_any (c A : Nat) (w : World) : Calls Tryd.prog 26 #[.int .i64 (c : Int)] w (Gave c A w) := by
  have HN := Lib.hid (heap_alloc_new w (.cells #[.int .i64 (c : Int), .int .i64 0] 66))
  have HO := Lib.hid (Only.of_below (b := A) (by0 w (.cells #[.int .i64 (c : Int), .int .i64 0] 66)))
  go_enter Tryd.func26, Tryd.ntmps26
  go_wp2
  exact ⟨rfl, ⟨⟨_, Nat.le_refl _, rfl, HN.out⟩, HO.out⟩⟩

/-- what take answers and leaves -/
structure Cut (A : Nat) (S : List UInt8) (a m n : Nat) (w : World) (e : Ending) (w' : World) : Prop where
  e : e = .returned (.string ⟨((S.drop a).take n).toArray⟩)
  r : RAt A S (a + n) m w'
  o : Only A w w'

set_option maxRecDepth 100000 in
set_option maxHeartbeats 1000000 in
theorem qtake_short (A : Nat) (S : List UInt8) (a m n : Nat) (w : World) (hR : RAt A S a m w) (_hS : S.length ≤ 1000000) (ha : a ≤ S.length) (hn : n ≤ 9223372036854775807) (hs : (S.drop a).length < n) :
    Calls Tryd.prog 25 #[.pointer (some ⟨A, 0, none⟩), .int .i64 (n : Int)] w (Gave 4 A w) := by
  have c0 := (lit_cell hR 0).trans rfl
  have c1 := (lit_cell hR 1).trans rfl
  have hlt : (S.length : Int) - (a : Int) < (n : Int) := by rw [List.length_drop] at hs; omega
  have w1 : wrap64 ((S.length : Int) - (a : Int)) = (S.length : Int) - (a : Int) := w64 _ (by omega) (by omega)
  clear hs _hS ha hn hR
  go_enter Tryd.func25, Tryd.ntmps25
  go_wp2
  go_quiet (fail)
  have HO := Lib.hid (Only.of_below (b := A) (by0q w nq))
  generalize w.drewN nq = wq at *
  have HG := Lib.hid (giveUp_any 4 A wq)
  go_wp2_with (go_at_call 26; refine HG.out.mono ?_; rintro e w2 ⟨⟨f, hf, rfl, hc⟩, ho⟩)
  exact ⟨rfl, (⟨⟨f, hf, rfl, hc⟩, ho⟩ : Gave 4 A wq _ w2).from HO.out⟩

set_option maxRecDepth 100000 in
set_option maxHeartbeats 1000000 in
theorem qtake_ok (A : Nat) (S : List UInt8) (a m n : Nat) (w : World) (hR : RAt A S a m w) (hS : S.length ≤ 1000000) (ha : a ≤ S.length) (hs : n ≤ (S.drop a).length) :
    Calls Tryd.prog 25 #[.pointer (some ⟨A, 0, none⟩), .int .i64 (n : Int)] w (Cut A S a m n w) := by
  have HR := Lib.hid hR
  have c0 := (lit_cell hR 0).trans rfl
  have c1 := (lit_cell hR 1).trans rfl
  have hle : a + n ≤ S.length := by rw [List.length_drop] at hs; omega
  have hlt : ¬ (S.length : Int) - (a : Int) < (n : Int) := by omega
  have w1 : wrap64 ((S.length : Int) - (a : Int)) = (S.length : Int) - (a : Int) := w64 _ (by omega) (by omega)
  have w2 : wrap64 ((a : Int) + (n : Int)) = (a : Int) + (n : Int) := w64 _ (by omega) (by omega)
  have hex : (⟨S.toArray⟩ : ByteArray).extract a (a + n) = ⟨((S.drop a).take n).toArray⟩ := by rw [extract_list, List.drop_take, Nat.add_sub_cancel_left]
  have HX := Lib.hid hex
  have s1 : (0 : Int) ≤ (a : Int) := by omega
  have s2 : (a : Int) ≤ (a : Int) + (n : Int) := by omega
  have s3 : (a : Int) + (n : Int) ≤ (S.length : Int) := by omega
  have s4 : ((a : Int) + (n : Int)).toNat = a + n := by omega
  clear hs hS ha hR hle hex
  obtain ⟨T, hT⟩ : ∃ T, (S.drop a).take n = T := ⟨_, rfl⟩
  rw [hT] at HX
  have HT := Lib.hid hT
  clear hT
  have hex := HX.out
  go_enter Tryd.func25, Tryd.ntmps25
  go_wp2
  go_quiet (fail)
  have HO := Lib.hid (Only.of_below (b := A) (by0q w nq))
  have HRq := Lib.hid (show RAt A S a m (w.drewN nq) from HR.out)
  generalize w.drewN nq = wq at *
  have c0 := (lit_cell HRq.out 0).trans rfl
  have c1 := (lit_cell HRq.out 1).trans rfl
  have f1 := lit_free HRq.out 1
  clear HR
  go_upto_region 5 with fail
  have HO2 := Lib.hid (HO.out.trans (Only.set A 1 (.int .i64 ((a : Int) + (n : Int))) wq))
  have HR2 := Lib.hid (show RAt A S (a + n) m (wq.setCell ⟨A, 1, none⟩ (.int .i64 ((a : Int) + (n : Int)))) from by
    unfold RAt
    rw [Int.natCast_add]
    exact (lit_set _ HRq.out).trans rfl)
  go_quiet (fail)
  have HO3 := Lib.hid (HO2.out.trans (Only.of_below (b := A) (by0q _ nq)))
  have HR3 := Lib.hid (show RAt A S (a + n) m ((wq.setCell ⟨A, 1, none⟩ (.int .i64 ((a : Int) + (n : Int)))).drewN nq) from HR2.out)
  go_wp2
  go_ret
  exact ⟨by rw [HT.out]; rfl, HR3.out, HO3.out⟩
end Go.Proofs.YtefhjncoakgbkaaDoor
