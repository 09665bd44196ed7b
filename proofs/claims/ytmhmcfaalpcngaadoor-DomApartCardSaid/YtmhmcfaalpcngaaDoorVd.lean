/- The cut of a list of texts: at most eight of them, of each at most two hundred bytes, in new memory. -/
import Derived.Test.YtmhmcfaalpcngaaDoorTk
import Derived.Deep.RegionHeld3
import Derived.Deep.AppendLies
namespace Go.Proofs.YtmhmcfaalpcngaaDoor
open Go.RowKit

theorem Tryd.info9 : (Tryd.prog.info? 9).map (fun i => (i.zero, i.size, i.bytes)) = some (some (.string ⟨#[]⟩), 1, 16) := by kernel_rfl
def strCells (L : List (List UInt8)) : List Value := L.map fun x => .string ⟨x.toArray⟩
def fewTo (L : List (List UInt8)) (k : Nat) : List (List UInt8) := (L.take k).map (·.take 200)

set_option maxHeartbeats 400000 in
theorem few_none (ao : Option Addr) (cap : Nat) (w : World) :
    Calls Tryd.prog 7 #[.slice ao 0 cap] w fun e w' => e = .returned (.slice none 0 0) ∧ w = w' := by
  go_enter Tryd.func7, Tryd.ntmps7
  go_wp2
  refine wp_loop_rounds 1 ?_
  rw [rounds_succ]
  go_wp2
  go_ret
  exact ⟨rfl, rfl⟩

theorem few_text (X : List UInt8) : (∃ m : Nat, (if (200 : Int) < (X.length : Int) then (200 : Int) else (X.length : Int)) = (m : Int) ∧ m ≤ X.length ∧ (⟨X.toArray⟩ : ByteArray).extract 0 m = ⟨(X.take 200).toArray⟩) := by
  refine ⟨min X.length 200, by split <;> omega, by omega, ?_⟩
  rw [extract_list, List.drop_zero]
  congr 2
  by_cases h : X.length ≤ 200
  · rw [Nat.min_eq_left h, List.take_of_length_le (Nat.le_refl _), List.take_of_length_le h]
  · rw [Nat.min_eq_right (by omega)]

theorem few_snoc (L : List (List UInt8)) (k : Nat) (X : List UInt8) (h : k < L.length) (hX : L[k] = X) : strCells (fewTo L k) ++ [.string ⟨(X.take 200).toArray⟩] = strCells (fewTo L (k + 1)) := by
  subst hX
  rw [fewTo, fewTo, List.take_succ_eq_append_getElem h, List.map_append, strCells, strCells, List.map_append]
  rfl

set_option maxRecDepth 100000 in
set_option maxHeartbeats 1000000 in
theorem few_some (b off cap : Nat) (L : List (List UInt8)) (w : World) (hL : L.length ≤ maxLen) (hl : ∀ i (h : i < L.length), L[i].length ≤ maxLen) (hb : b < w.heap.size)
    (hc : ∀ i (h : i < L.length), w.cell? ⟨b, off + i, none⟩ = some (.string ⟨L[i].toArray⟩)) :
    Calls Tryd.prog 7 #[.slice (some ⟨b, off, none⟩) L.length cap] w fun e w' => ∃ v, e = .returned v ∧ w'.ownsRow w.heap.size 9 1 v (fewTo L 8).length (strCells (fewTo L 8)) ∧ Below w.heap.size w w' := by
  obtain ⟨i0, hi, hz0, hz1, hz2⟩ := info_parts Tryd.info9
  unfold maxLen at hL
  have HC := Lib.hid hc
  have HL := Lib.hid hl
  clear hc hl
  go_enter Tryd.func7, Tryd.ntmps7
  go_wp2
  go_loopw [3, 4] (fun v i wr => ∃ k : Nat, k ≤ L.length ∧ k ≤ 8 ∧ i = .int .i64 (k : Int) ∧ wr.ownsRow w.heap.size 9 1 v k (strCells (fewTo L k)) ∧ Below w.heap.size w wr)
    (fun _ i _ => L.length - (intOf i).toNat)
  case atStart => exact ⟨0, by omega, by omega, rfl, World.ownsRow_nil _ _ _ _, Below.refl _ _⟩
  case round =>
    obtain ⟨k, hk, hk20, rfl, hown, hbe⟩ := hrel
    have hz := hbe.size
    by_cases hlt : k < L.length ∧ k < 8
    · obtain ⟨hlt1, hlt2⟩ := hlt
      have hlk := HL.out k hlt1
      unfold maxLen at hlk
      have hcell := (hbe.cell (p := ⟨b, off + k, none⟩) hb).trans (HC.out k hlt1)
      obtain ⟨X, hX⟩ : ∃ X, L[k] = X := ⟨_, rfl⟩
      have HO := Lib.hid (few_snoc L k X hlt1 hX)
      rw [hX] at hlk hcell
      have HX := Lib.hid hX
      clear hX
      have k0 : (0 : Int) ≤ (k : Int) := by omega
      have k1 : (k : Int) < (L.length : Int) := by omega
      obtain ⟨m, hm1, hm2, hm3⟩ := few_text X
      have m0 : (0 : Int) ≤ (m : Int) := by omega
      have m1 : (m : Int) ≤ (X.length : Int) := by omega
      have Hm3 := Lib.hid hm3
      clear hm3
      go_wp2
      have q1 : k + 1 ≤ maxLen := by unfold maxLen; omega
      have q2 : (k + 1) * 16 ≤ 140737488355328 := by omega
      have q3 : w.heap.size ≤ ((wr.alloc (Obj.cells #[Value.string ((⟨X.toArray⟩ : ByteArray).extract 0 m)] 9)).drew).heap.size := by simp; omega
      have q4 : ((wr.alloc (Obj.cells #[Value.string ((⟨X.toArray⟩ : ByteArray).extract 0 m)] 9)).drew).heap.size = wr.heap.size + 1 := by simp
      have Q1 := Lib.hid q1
      have Q2 := Lib.hid q2
      have Q3 := Lib.hid q3
      have Q4 := Lib.hid q4
      clear q1 q2 q3 q4
      go_region_law (refine step_append_lies _ (by rfl) (.tmp 15) (.tmp 27) 22 (by rfl) w.heap.size 9 i0 _ 1 16 Tryd.underlying22 hi hz0 hz1 hz2 rfl (by omega) u3 k _ (by rfl) ((hown.alloc _).drew) ⟨wr.heap.size, 0, none⟩ 1 1 [.string ((⟨X.toArray⟩ : ByteArray).extract 0 m)] (by rfl) (by rfl) (news_new wr _ _) (by simp [Value.oneCell']) (by omega) Q1.out Q2.out Q3.out (wr.heap.size + 1) Q4.out ?_; intro gg cp w1 hown1 hgrow hat hgl)
      all_goals
        rw [Hm3.out, HO.out] at hown1
        have hbe1 : Below w.heap.size w w1 := ((hbe.alloc hz _).drew).grown hgrow (by simp; omega) (fun k' e => (hown.lt k' e).1)
        clear hown hgrow hat
        go_wp2
        go_roundw
        case rel => exact ⟨k + 1, by omega, by omega, by go_num, hown1, hbe1⟩
        case measure => simp [intOf]; omega
    · have hfin : fewTo L 8 = fewTo L k := by
        by_cases h : k < 8
        · have : k = L.length := by omega
          subst this
          rw [fewTo, fewTo, List.take_of_length_le (by omega), List.take_of_length_le (Nat.le_refl _)]
        · have : k = 8 := by omega
          rw [this]
      have hln : (fewTo L k).length = k := by rw [fewTo, List.length_map, List.length_take]; omega
      have HF := Lib.hid hfin
      have HN := Lib.hid hln
      clear hfin hln
      by_cases hlt1 : k < L.length
      · have hlt2 : ¬ k < 8 := fun h => hlt ⟨hlt1, h⟩
        clear hlt
        go_wp2
        go_ret
        exact ⟨u3, rfl, by rw [HF.out, HN.out]; exact hown, hbe⟩
      · clear hlt
        go_wp2
        go_ret
        exact ⟨u3, rfl, by rw [HF.out, HN.out]; exact hown, hbe⟩
end Go.Proofs.YtmhmcfaalpcngaaDoor
