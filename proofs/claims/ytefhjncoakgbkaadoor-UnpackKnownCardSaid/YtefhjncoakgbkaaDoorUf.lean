/- The law's take, by the reader's calls; the document's New. -/
import Derived.Test.YtefhjncoakgbkaaDoorUe
namespace Go.Proofs.YtefhjncoakgbkaaDoor
open Go.RowKit

set_option maxRecDepth 100000 in
theorem refNew_any (S : List UInt8) (i : Int) (w : World) :
    Calls Tryd.prog 8 #[.string ⟨S.toArray⟩, .int .i64 i] w fun e w' => e = .returned (.pointer (some ⟨w.heap.size, 0, none⟩)) ∧ RefAt w.heap.size S 0 (max i 0).toNat w' ∧ Below w.heap.size w w' := by

  by_cases hz : i = 0
  · subst hz
    have HR := Lib.hid (heap_alloc_new w (.cells #[.string ⟨S.toArray⟩, .int .i64 0, .int .i64 0] 28))
    go_enter Tryd.func8, Tryd.ntmps8
    go_wp2
    go_ret
    exact ⟨rfl, HR.out, by0 _ _⟩
  by_cases hi : i < 0
  · have e : (max i 0).toNat = 0 := by omega
    rw [e]
    have HR := Lib.hid (heap_alloc_new w (.cells #[.string ⟨S.toArray⟩, .int .i64 0, .int .i64 0] 28))
    clear e hz
    have hi2 : ¬ 0 < i := by omega
    go_enter Tryd.func8, Tryd.ntmps8
    go_wp2
    all_goals go_ret
    all_goals first | exact ⟨rfl, HR.out, by0 _ _⟩ | (exfalso; omega)
  · obtain ⟨m, rfl⟩ : ∃ m : Nat, i = (m : Int) := ⟨i.toNat, by omega⟩
    have e : (max (m : Int) 0).toNat = m := by omega
    rw [e]
    have HR := Lib.hid (heap_alloc_new w (.cells #[.string ⟨S.toArray⟩, .int .i64 0, .int .i64 (m : Int)] 28))
    clear e
    have hp : (0 : Int) < (m : Int) := by omega
    go_enter Tryd.func8, Tryd.ntmps8
    go_wp2
    all_goals go_ret
    all_goals first | exact ⟨rfl, HR.out, by0 _ _⟩ | (exfalso; omega)

set_option maxRecDepth 100000 in
theorem ltake0 {G : World → Prop} {R : Nat → List UInt8 → Nat → Nat → World → Prop} (C : ReaderC G R) (b : Nat) (S : List UInt8) (a m : Nat) (w : World) (hR : R b S a m w) (hG : G w) (hS : S.length ≤ 1000000) (ha : a ≤ S.length) :
    Calls Tryd.prog 9 #[.pointer (some ⟨b, 0, none⟩), .int .i64 0] w (LTook R b S a m (takeP (S.drop a) m 0) w) := by
  have HC := Lib.hid (C.num b S a m w hR hG hS ha)
  obtain ⟨f12, f0, f64, f16, _, _, _, _, _⟩ := takeP_fits (S.drop a) m 0
  have ht0 := f0 (by decide)
  clear f12 f0 f16 hR hG hS ha
  generalize takeP (S.drop a) m 0 = P at *
  have HT := Lib.hid ht0
  clear ht0
  go_enter Tryd.func9, Tryd.ntmps9
  go_wp2_with (go_at_call 15; refine HC.out.mono ?_; rintro e w1 ⟨v, rfl, hv, hr, ho⟩)
  refine bodyPost_ret (v := .tuple #[.int .u64 (P.n : Int), .string ⟨#[]⟩, v]) (by simp [results, Tryd.results9, go_sem, *]) rfl ⟨⟨v, by rw [HT.out], hv⟩, hr, ho⟩
set_option maxRecDepth 100000 in
theorem ltake1 {G : World → Prop} {R : Nat → List UInt8 → Nat → Nat → World → Prop} (C : ReaderC G R) (b : Nat) (S : List UInt8) (a m : Nat) (w : World) (hR : R b S a m w) (hG : G w) (hS : S.length ≤ 1000000) (ha : a ≤ S.length) :
    Calls Tryd.prog 9 #[.pointer (some ⟨b, 0, none⟩), .int .i64 1] w (LTook R b S a m (takeP (S.drop a) m 1) w) := by
  have HC := Lib.hid (C.bin b S a m w hR hG hS ha)
  obtain ⟨f12, f0, f64, f16, _, _, _, _, _⟩ := takeP_fits (S.drop a) m 1
  have hnt := f12 (by decide)
  clear f12 f0 f16 hR hG hS ha
  generalize takeP (S.drop a) m 1 = P at *
  have hp := P.t.length
  have HN := Lib.hid hnt
  have hbl : P.t.length < 18446744073709551616 := by omega
  clear hnt f64 hp
  go_enter Tryd.func9, Tryd.ntmps9
  go_wp2_with (go_at_call 17; refine HC.out.mono ?_; rintro e w1 ⟨v, rfl, hv, hr, ho⟩)
  refine bodyPost_ret (v := .tuple #[.int .u64 (P.t.length : Int), .string ⟨P.t.toArray⟩, v]) (by simp [results, Tryd.results9, go_sem, *]) rfl ⟨⟨v, by rw [HN.out], hv⟩, hr, ho⟩
set_option maxRecDepth 100000 in
theorem ltake2 {G : World → Prop} {R : Nat → List UInt8 → Nat → Nat → World → Prop} (C : ReaderC G R) (b : Nat) (S : List UInt8) (a m : Nat) (w : World) (hR : R b S a m w) (hG : G w) (hS : S.length ≤ 1000000) (ha : a ≤ S.length) :
    Calls Tryd.prog 9 #[.pointer (some ⟨b, 0, none⟩), .int .i64 2] w (LTook R b S a m (takeP (S.drop a) m 2) w) := by
  have HC := Lib.hid (C.str b S a m w hR hG hS ha)
  obtain ⟨f12, f0, f64, f16, _, _, _, _, _⟩ := takeP_fits (S.drop a) m 2
  have hnt := f12 (by decide)
  clear f12 f0 f16 hR hG hS ha
  generalize takeP (S.drop a) m 2 = P at *
  have hp := P.t.length
  have HN := Lib.hid hnt
  have hbl : P.t.length < 18446744073709551616 := by omega
  clear hnt f64 hp
  go_enter Tryd.func9, Tryd.ntmps9
  go_wp2_with (go_at_call 18; refine HC.out.mono ?_; rintro e w1 ⟨v, rfl, hv, hr, ho⟩)
  refine bodyPost_ret (v := .tuple #[.int .u64 (P.t.length : Int), .string ⟨P.t.toArray⟩, v]) (by simp [results, Tryd.results9, go_sem, *]) rfl ⟨⟨v, by rw [HN.out], hv⟩, hr, ho⟩
set_option maxRecDepth 100000 in
theorem ltake3 {G : World → Prop} {R : Nat → List UInt8 → Nat → Nat → World → Prop} (C : ReaderC G R) (b : Nat) (S : List UInt8) (a m : Nat) (w : World) (hR : R b S a m w) (hG : G w) (hS : S.length ≤ 1000000) (ha : a ≤ S.length) :
    Calls Tryd.prog 9 #[.pointer (some ⟨b, 0, none⟩), .int .i64 3] w (LTook R b S a m (takeP (S.drop a) m 3) w) := by
  have HC := Lib.hid (C.list b S a m w hR hG hS ha)
  obtain ⟨f12, f0, f64, f16, _, _, _, _, _⟩ := takeP_fits (S.drop a) m 3
  have ht0 := f0 (by decide)
  have hn16 := f16 (by decide)
  clear f12 f0 f16 hR hG hS ha
  generalize takeP (S.drop a) m 3 = P at *
  have HT := Lib.hid ht0
  clear ht0
  go_enter Tryd.func9, Tryd.ntmps9
  go_wp2_with (go_at_call 16; refine HC.out.mono ?_; rintro e w1 ⟨v, rfl, hv, hr, ho⟩)
  refine bodyPost_ret (v := .tuple #[.int .u64 (P.n : Int), .string ⟨#[]⟩, v]) (by simp [results, Tryd.results9, go_sem, *]) rfl ⟨⟨v, by rw [HT.out], hv⟩, hr, ho⟩
set_option maxRecDepth 100000 in
theorem ltake4 {G : World → Prop} {R : Nat → List UInt8 → Nat → Nat → World → Prop} (C : ReaderC G R) (b : Nat) (S : List UInt8) (a m : Nat) (w : World) (hR : R b S a m w) (hG : G w) (hS : S.length ≤ 1000000) (ha : a ≤ S.length) :
    Calls Tryd.prog 9 #[.pointer (some ⟨b, 0, none⟩), .int .i64 4] w (LTook R b S a m (takeP (S.drop a) m 4) w) := by
  have HC := Lib.hid (C.map b S a m w hR hG hS ha)
  obtain ⟨f12, f0, f64, f16, _, _, _, _, _⟩ := takeP_fits (S.drop a) m 4
  have ht0 := f0 (by decide)
  have hn16 := f16 (by decide)
  clear f12 f0 f16 hR hG hS ha
  generalize takeP (S.drop a) m 4 = P at *
  have HT := Lib.hid ht0
  clear ht0
  go_enter Tryd.func9, Tryd.ntmps9
  go_wp2_with (go_at_call 19; refine HC.out.mono ?_; rintro e w1 ⟨v, rfl, hv, hr, ho⟩)
  refine bodyPost_ret (v := .tuple #[.int .u64 (P.n : Int), .string ⟨#[]⟩, v]) (by simp [results, Tryd.results9, go_sem, *]) rfl ⟨⟨v, by rw [HT.out], hv⟩, hr, ho⟩
theorem ltake_any {G : World → Prop} {R : Nat → List UInt8 → Nat → Nat → World → Prop} (C : ReaderC G R) (b : Nat) (S : List UInt8) (a m s : Nat) (w : World) (hR : R b S a m w) (hG : G w) (hS : S.length ≤ 1000000) (ha : a ≤ S.length) (hs : s ≤ 4) :
    Calls Tryd.prog 9 #[.pointer (some ⟨b, 0, none⟩), .int .i64 (s : Int)] w (LTook R b S a m (takeP (S.drop a) m s) w) := by
  obtain rfl | rfl | rfl | rfl | rfl : s = 0 ∨ s = 1 ∨ s = 2 ∨ s = 3 ∨ s = 4 := by omega
  · exact ltake0 C b S a m w hR hG hS ha
  · exact ltake1 C b S a m w hR hG hS ha
  · exact ltake2 C b S a m w hR hG hS ha
  · exact ltake3 C b S a m w hR hG hS ha
  · exact ltake4 C b S a m w hR hG hS ha
end Go.Proofs.YtefhjncoakgbkaaDoor
