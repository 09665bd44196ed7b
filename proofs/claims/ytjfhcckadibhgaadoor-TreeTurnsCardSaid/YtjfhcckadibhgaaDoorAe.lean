/- slices.Repeat of one place. -/
import Derived.Test.YtjfhcckadibhgaaDoorAd
import Derived.Test.YtjfhcckadibhgaaDoorWsm
import Derived.Laws.MakeOwn
import Derived.Laws.CopyOwn
namespace Go.Proofs.YtjfhcckadibhgaaDoor
open Go.RowKit

theorem bmul_any (x y : Nat) (h : x * y < 18446744073709551616) (hx : x < 18446744073709551616) (hy : y < 18446744073709551616) (w : World) : Calls Tryd.prog 58 #[.int .u64 (x : Int), .int .u64 (y : Int)] w fun e w' => e = .returned (.tuple #[.int .u64 0, .int .u64 ((x * y : Nat) : Int)]) ∧ w = w' := by
  have HC := Lib.hid (show Calls Tryd.prog 70 #[.int .u64 x, .int .u64 y] w fun e w' => e = .returned (.tuple #[.int .u64 0, .int .u64 ((x * y : Nat) : Int)]) ∧ w' = w from by
    have h1 := Tryd.bits_Mul64 x y hx hy w
    rw [Nat.div_eq_of_lt h, Nat.mod_eq_of_lt h] at h1
    exact h1)
  clear h hx hy
  generalize ((x * y : Nat) : Int) = z at *
  go_enter Tryd.func58, Tryd.ntmps58
  go_wp2_with (go_at_call 70; refine HC.out.mono ?_; rintro e w' ⟨rfl, rfl⟩)
  exact bodyPost_ret (v := .tuple #[.int .u64 0, .int .u64 z]) (by simp [results, Tryd.results58, go_sem]) rfl ⟨rfl, rfl⟩

theorem made_nil (n : Nat) (p : Value) : madeCells (Value.pointer none).cells n = (List.replicate 0 p ++ List.replicate (n - 0) (Value.pointer none)).toArray := by
  apply Array.ext
  · simp [madeCells]
  · intro i h1 h2
    simp [madeCells, Value.cells, Nat.mod_one]
def repL (n m : Nat) (p : Value) : List Value := List.replicate m p ++ List.replicate (n - m) (.pointer none)
theorem repL_len {n m : Nat} (h : m ≤ n) (p : Value) : (repL n m p).length = n := by simp [repL]; omega
theorem repL_splice {n m c : Nat} (p : Value) (h : m + c ≤ n) : splice (repL n m p) m (List.replicate c p) = repL n (m + c) p := by
  unfold splice repL
  rw [List.take_append_of_le_length (by simp), List.take_of_length_le (by simp), List.length_replicate, List.drop_append, List.drop_of_length_le (by simp), List.length_replicate, List.nil_append, List.drop_replicate, ← List.append_assoc, List.replicate_append_replicate]
  all_goals (congr 2; omega)
theorem repL_get {n m j : Nat} (p : Value) (h : j < m) : (repL n m p)[j]? = some p := by
  unfold repL
  rw [List.getElem?_append_left (by simpa using h)]
  simp [h]
theorem rep_step {B n k p : Nat} {w wr : World} (h : wr.heap[B]? = some (.cells (repL n k (.pointer (some ⟨p, 0, none⟩))).toArray 53 (0, 0))) (hb : Below B w wr) (h1 : 1 ≤ k) (h2 : k < n) :
    ∃ (c : Nat) (w3 : World), 1 ≤ c ∧ k + c ≤ n ∧ (Builtin.copy_ #[50, 50] 3 #[.slice (some ⟨B, k, none⟩) (n - k) (n - k), .slice (some ⟨B, 0, none⟩) k n]).run Tryd.prog wr = .ok (.int .i64 (c : Int)) w3 ∧ Hid (w3.heap[B]? = some (.cells (repL n (k + c) (.pointer (some ⟨p, 0, none⟩))).toArray 53 (0, 0)) ∧ Below B w w3) := by
  have hsz : (Tryd.prog.info? 53).map (·.size) = some 1 := by kernel_rfl
  have hrun := run_copy_row (P := Tryd.prog) wr 50 50 3 53 B k (n - k) (n - k) ⟨B, 0, none⟩ k n (repL n k (.pointer (some ⟨p, 0, none⟩))).toArray 53 (List.replicate (min k (n - k)) (.pointer (some ⟨p, 0, none⟩))) Tryd.underlying50 hsz h (by rw [List.length_replicate]) (fun j v hj => by
    have hlt := (List.getElem?_eq_some_iff.1 hj).1
    rw [List.length_replicate] at hlt
    rw [List.getElem?_replicate, if_pos hlt] at hj
    cases hj
    rw [Addr.add_mid, lit_cell h, Nat.zero_add, List.getElem?_toArray]
    exact repL_get _ (by omega)) (by rw [List.size_toArray, repL_len (by omega), List.length_replicate]; omega) (by intro v hv; rw [List.eq_of_mem_replicate hv]; rfl)
  rw [List.append_assoc] at hrun
  have hrow := setRow_heap wr B _ (splice (repL n k (.pointer (some ⟨p, 0, none⟩))) k (List.replicate (min k (n - k)) (.pointer (some ⟨p, 0, none⟩)))).toArray 53 _ h
  have hbl := below_setRow hb (Nat.le_refl _) (splice (repL n k (.pointer (some ⟨p, 0, none⟩))) k (List.replicate (min k (n - k)) (.pointer (some ⟨p, 0, none⟩)))).toArray
  have hsp := repL_splice (n := n) (m := k) (c := min k (n - k)) (.pointer (some ⟨p, 0, none⟩)) (by omega)
  rw [hsp] at hrow hbl
  refine ⟨min k (n - k), _, by omega, by omega, ?_, Lib.hid ⟨hrow, hbl⟩⟩
  rw [← hsp]
  unfold splice
  simp only [List.length_replicate] at hrun ⊢
  exact hrun
set_option maxRecDepth 100000 in
set_option maxHeartbeats 1000000 in
theorem repeat_any (sb p n : Nat) (w : World) (hn : 1 ≤ n ∧ n ≤ 65536) (hc : w.cell? ⟨sb, 0, none⟩ = some (.pointer (some ⟨p, 0, none⟩))) :
    Calls Tryd.prog 40 #[.slice (some ⟨sb, 0, none⟩) 1 1, .int .i64 (n : Int)] w fun e w' => ∃ B, e = .returned (.slice (some ⟨B, 0, none⟩) n n) ∧ w.heap.size ≤ B ∧ w'.heap[B]? = some (.cells (repL n n (.pointer (some ⟨p, 0, none⟩))).toArray 53 (0, 0)) ∧ Below w.heap.size w w' := by
  obtain ⟨i0, hi, hz0, hz1, hz2⟩ := info_parts (show (Tryd.prog.info? 53).map (fun i => (i.zero, i.size, i.bytes)) = some (some (.pointer none), 1, 8) by kernel_rfl)
  have hsz : (Tryd.prog.info? 53).map (·.size) = some 1 := by kernel_rfl
  have hm : (Instr.makeSlice 50 (.int .i64 (n : Int)) (.int .i64 (n : Int))).run Tryd.prog w = .ok (.slice (some ⟨w.heap.size, 0, none⟩) n n) (w.alloc (.cells (repL n 0 (.pointer (some ⟨p, 0, none⟩))).toArray 53)) := by
    have h := run_make (P := Tryd.prog) w 50 53 i0 (.pointer none) Tryd.underlying50 hi hz0 .i64 .i64 (n : Int) (n : Int) (by omega) (by omega) (by rw [hz2]; omega) (by omega)
    rw [h, hz1]
    rw [made_nil, Int.toNat_natCast, Nat.mul_one]
    rfl
  have HB := Lib.hid (fun w => bmul_any 1 n (by omega) (by omega) (by omega) w)
  simp only [Nat.one_mul] at HB
  have HM := Lib.hid hm
  have hpos := hn.1
  have hle := hn.2
  have HB0 := Lib.hid (by0 w (.cells (repL n 0 (.pointer (some ⟨p, 0, none⟩))).toArray 53))
  have HN0 := Lib.hid (heap_alloc_new w (.cells (repL n 0 (.pointer (some ⟨p, 0, none⟩))).toArray 53))
  have HC := Lib.hid hc
  clear hm hn hc
  go_enter Tryd.func40, Tryd.ntmps40
  go_upto_region 6 with (go_at_call 58; refine (HB.out _).mono ?_; rintro e w' ⟨rfl, rfl⟩)
  have hmm := HM.out
  go_upto_region 7 with fail
  have hn0 := HN0.out
  have hb0 := HB0.out
  generalize w.alloc (.cells (repL n 0 (.pointer (some ⟨p, 0, none⟩))).toArray 53) = w1 at *
  have hc1 : w1.cell? ⟨sb, 0, none⟩ = some (.pointer (some ⟨p, 0, none⟩)) := (World.cell?_of_block (hb0.block _ (World.block_lt_of_cell? w _ HC.out))).trans HC.out
  generalize hB : w.heap.size = B at *
  clear hmm HM HB HB0 HN0
  have hcp := run_copy_row (P := Tryd.prog) w1 50 50 3 53 B 0 n n ⟨sb, 0, none⟩ 1 1 (repL n 0 (.pointer (some ⟨p, 0, none⟩))).toArray 53 [.pointer (some ⟨p, 0, none⟩)] Tryd.underlying50 hsz hn0 (show 1 = min 1 n by omega) (fun j v hj => by
    obtain rfl : j = 0 := by have := (List.getElem?_eq_some_iff.1 hj).1; simp at this; exact this
    cases hj
    exact hc1) (by rw [List.size_toArray, repL_len (Nat.zero_le _)]; exact hpos) (by simp [Value.oneCell'])
  rw [List.append_assoc] at hcp
  have hrow := setRow_heap w1 B _ (splice (repL n 0 (.pointer (some ⟨p, 0, none⟩))) 0 [.pointer (some ⟨p, 0, none⟩)]).toArray 53 _ hn0
  have hbl := below_setRow hb0 (Nat.le_refl _) (splice (repL n 0 (.pointer (some ⟨p, 0, none⟩))) 0 [.pointer (some ⟨p, 0, none⟩)]).toArray
  have hsp := repL_splice (n := n) (m := 0) (c := 1) (.pointer (some ⟨p, 0, none⟩)) (by omega)
  rw [List.replicate_one, Nat.zero_add] at hsp
  have HW : Hid (∃ w2, Hid (w2.heap[B]? = some (.cells (repL n 1 (.pointer (some ⟨p, 0, none⟩))).toArray 53 (0, 0)) ∧ Below B w w2) ∧ (Builtin.copy_ #[50, 50] 3 #[.slice (some ⟨B, 0, none⟩) n n, .slice (some ⟨sb, 0, none⟩) 1 1]).run Tryd.prog w1 = .ok (.int .i64 1) w2) := by
    rw [hsp] at hrow hbl
    exact Lib.hid ⟨_, Lib.hid ⟨hrow, hbl⟩, by rw [← hsp]; exact hcp⟩
  clear hcp hrow hbl hsp
  obtain ⟨w2, H2, hcp⟩ := HW.out
  go_wp2_with fail
  clear hcp HW hn0 hb0 hc1
  go_loopw [8] (fun m wr => ∃ k : Nat, 1 ≤ k ∧ k ≤ n ∧ m = .int .i64 (k : Int) ∧ Hid (wr.heap[B]? = some (.cells (repL n k (.pointer (some ⟨p, 0, none⟩))).toArray 53 (0, 0)) ∧ Below B w wr)) (fun m _ => n - (intOf m).toNat)
  case atStart => exact ⟨1, by omega, hpos, rfl, H2⟩
  case round =>
    obtain ⟨k, hk1, hkn, rfl, HK⟩ := hrel
    by_cases hlt : k < n
    · have k0 : (0 : Int) ≤ (k : Int) := by omega
      have k1 : (k : Int) < (n : Int) := by omega
      have k2 : (k : Int) ≤ (n : Int) := by omega
      have hne : ¬ n = k := by omega
      obtain ⟨c, w3, c1, c2, hcp, H3⟩ := rep_step (w := w) (wr := wr.drew) HK.out.1 HK.out.2.drew hk1 hlt
      clear HK
      go_wp2
      go_region
      go_wp2
      go_roundw
      case rel => exact ⟨k + c, by omega, c2, by go_num, H3⟩
      case measure => simp [intOf]; omega
    · have k1 : ¬ (k : Int) < (n : Int) := by omega
      obtain rfl : k = n := by omega
      go_wp2
      go_ret
      exact ⟨B, rfl, by omega, HK.out.1, HK.out.2⟩
end Go.Proofs.YtjfhcckadibhgaaDoor
