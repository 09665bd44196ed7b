/- What is laid of one thing, by the law's words. -/
import Derived.Test.YtgdlfbphfogphaaDoorPk
namespace Go.Proofs.YtgdlfbphfogphaaDoor
open Go.RowKit

theorem prow_cell {w : World} {b : Nat} {A : Array Value} {T : TypeId} (h : w.heap[b]? = some (.cells A T (0, 0))) (i : Nat) : w.cell? ⟨b, i, none⟩ = A[i]? := cell_of_row _ _ _ _ T _ h
theorem prow_lt {w : World} {b : Nat} {A : Array Value} {T : TypeId} (h : w.heap[b]? = some (.cells A T (0, 0))) : b < w.heap.size := (Array.getElem?_eq_some_iff.1 h).1
theorem prow_below {B b : Nat} {w w' : World} {A : Array Value} {T : TypeId} (h : w.heap[b]? = some (.cells A T (0, 0))) (hb : Below B w w') (hB : b < B) : w'.heap[b]? = some (.cells A T (0, 0)) := (hb.block b hB).trans h
theorem laidP_err (s : Int) (n : Nat) (T : List UInt8) (h : (laidP s n T).2 ≠ 0) : (laidP s n T).1 = [] := by
  unfold laidP at h ⊢
  by_cases h0 : s = 0
  · rw [if_pos h0] at h; exact absurd rfl h
  · rw [if_neg h0] at h ⊢
    by_cases h1 : s = 1 ∨ s = 2
    · rw [if_pos h1] at h ⊢
      by_cases h2 : 65536 ≤ T.length
      · rw [if_pos h2]
      · rw [if_neg h2] at h; exact absurd rfl h
    · rw [if_neg h1] at h ⊢
      by_cases h2 : 9223372036854775808 ≤ n
      · rw [if_pos h2]
      · rw [if_neg h2] at h ⊢
        by_cases h3 : 65536 ≤ n
        · rw [if_pos h3]
        · rw [if_neg h3] at h; exact absurd rfl h
theorem laidP_len (s : Int) (n : Nat) (T : List UInt8) : (laidP s n T).1.length ≤ T.length + 9 := by
  unfold laidP
  repeat' split
  · have := numP_len n; show (numP n).length ≤ _; omega
  · simp
  · have := headP_len s T.length; show (headP s T.length ++ T).length ≤ _; rw [List.length_append]; omega
  · simp
  · simp
  · have := headP_len s n; show (headP s n).length ≤ _; omega

set_option maxRecDepth 100000 in
set_option maxHeartbeats 4000000 in
theorem plaid_any {G : World → Prop} {Wr : Nat → Nat → List UInt8 → World → Prop} (C : PackC G Wr) (s : Int) (n : Nat) (S : List UInt8) (z : Nat) (w : World)
    (hn : n < 18446744073709551616) (hS : S.length ≤ 9223372036854775807) (hz : z < 4294967296) (hG : G w) :
    Calls Tryd.prog 17 #[.agg #[.int .i64 s, .int .u64 (n : Int), .string ⟨S.toArray⟩, .int .u32 (z : Int)]] w fun e w' =>
      e = .returned (.tuple #[.string ⟨(laidP s n (textP S z)).1.toArray⟩, .bool ((laidP s n (textP S z)).2 == 0)]) ∧ Below w.heap.size w w' := by
  have hl := laidP_len s n (textP S z)
  have ht := textP_len S z
  have HP := Lib.hid (fun (B b : Nat) (w : World) (hW : Wr B b [] w) => play_any C B b [] s n S z w hW (by decide) hn hS hz)
  have hE := laidP_err s n (textP S z)
  generalize laidP s n (textP S z) = Q at *
  obtain ⟨T, er⟩ := Q
  simp only [List.nil_append] at HP hl hE
  have HE := Lib.hid hE
  have HT := Lib.hid hE
  have hTl : T.length < 10000000 := by omega
  have b0 := by0 w (.cells #[.int .i64 s, .int .u64 (n : Int), .string ⟨S.toArray⟩, .int .u32 (z : Int)] 30)
  have r1 := Lib.hid (show (w.alloc (.cells #[.int .i64 s, .int .u64 (n : Int), .string ⟨S.toArray⟩, .int .u32 (z : Int)] 30)).heap[w.heap.size]? = some (.cells #[.int .i64 s, .int .u64 (n : Int), .string ⟨S.toArray⟩, .int .u32 (z : Int)] 30 (0, 0)) from heap_alloc_new w _)
  clear hS hz hn hl hE ht HT
  go_enter Tryd.func17, Tryd.ntmps17
  go_wp2_with fail
  generalize (w.alloc (.cells #[.int .i64 s, .int .u64 (n : Int), .string ⟨S.toArray⟩, .int .u32 (z : Int)] 30)) = w1 at *
  refine (C.new w1 (C.gb hG b0)).mono ?_
  rintro e w2 ⟨b, rfl, hW, hb⟩
  have hlt := prow_lt r1.out
  have r2 := Lib.hid (prow_below r1.out hb hlt)
  have b2 := b0.trans (hb.mono b0.size)
  have hlt2 := Nat.lt_of_lt_of_le hlt hb.size
  have HW := Lib.hid hW
  have c0 := (prow_cell r2.out 0).trans rfl
  have c1 := (prow_cell r2.out 1).trans rfl
  have c2 := (prow_cell r2.out 2).trans rfl
  have c3 := (prow_cell r2.out 3).trans rfl
  have z1 := b0.size
  clear hW hb b0 r1 hlt
  go_wp2_with fail
  clear c0 c1 c2 c3 hlt2 r2
  refine (HP.out _ b w2 HW.out).mono ?_
  rintro e w3 ⟨rfl, hW3, hb3⟩
  have HW3 := Lib.hid hW3
  have b3 := b2.trans (hb3.mono z1)
  clear hW3 hb3 HW HP b2
  by_cases he : er = 0
  · subst he
    go_wp2_with fail
    refine (C.text _ b T w3 HW3.out hTl).mono ?_
    rintro e w4 ⟨rfl, hb4⟩
    go_wp2
    refine bodyPost_ret (v := .tuple #[.string ⟨T.toArray⟩, .bool true]) (by simp [results, Tryd.results17, go_sem, *]) rfl ⟨rfl, b3.trans (hb4.mono b3.size)⟩
  · have hT := HE.out he
    subst hT
    have z2 : (er == 0) = false := beq_eq_false_iff_ne.2 he
    have z3 : (er != 0) = true := by rw [bne, z2]; rfl
    clear he
    go_wp2
    refine bodyPost_ret (v := .tuple #[.string ⟨#[]⟩, .bool false]) (by simp [results, Tryd.results17, go_sem, *]) rfl ⟨by rw [z2], b3⟩
end Go.Proofs.YtgdlfbphfogphaaDoor
