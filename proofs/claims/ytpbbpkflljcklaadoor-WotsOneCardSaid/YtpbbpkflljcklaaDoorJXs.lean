/- The places that ends are gathered at: each chain's end; a digest's digits. -/
import Derived.Test.YtpbbpkflljcklaaDoorJAc
import Derived.Test.YtpbbpkflljcklaaDoorJXa
namespace Go.Proofs.YtpbbpkflljcklaaDoor
open Go.RowKit
attribute [local go_sem] Oper.semAt_some

theorem ends_calls (w : World) : Calls Tryd.prog 42 #[] w fun e w' => e = .returned (.func (.func 57) #[] #[]) ∧ w' = w := by
  go_enter Tryd.func42, Tryd.ntmps42
  go_wp2
  go_ret
  exact ⟨rfl, rfl⟩
set_option maxRecDepth 100000 in
set_option maxHeartbeats 2000000 in
theorem ends_hands (ok : World → Prop) : HandsRead Tryd.prog 57 #[] (fun k => #[.int .i64 (k : Int), .int .i64 15]) 67 ok := by
  rintro l J W hok hY h0
  have HY := Lib.hid hY
  have HJ0 := Lib.hid h0
  clear hY h0 hok
  refine (callsIn_wide (n := 1)).1 ?_
  refine callsIn_of_wp Tryd.func57 rfl trivial ?_ rfl
  simp only [Tryd.ntmps57, List.size_toArray, List.length_cons, List.length_nil, Nat.reduceAdd, Nat.reduceSub, Array.replicate_succ, Array.replicate_zero, List.push_toArray, List.append_toArray, List.nil_append, List.cons_append]
  gi_wp2
  gi_loopw [3] (fun v3 wr => ∃ n : Nat, n ≤ 67 ∧ v3 = .int .i64 (n : Int) ∧ Hid (∃ W1, J n W1 ∧ Kept (fun _ => True) W1 wr)) (fun v3 _ => 67 - (intOf v3).toNat)
  case atStart => exact ⟨0, by decide, rfl, Lib.hid ⟨W, HJ0.out, Kept.refl _ _⟩⟩
  case round =>
    obtain ⟨n, hn, rfl, HJ⟩ := hrel
    by_cases hlt : n < 67
    · have hl : (n : Int) < 67 := by omega
      have HLT := Lib.hid hlt
      obtain ⟨W1, hj1, hk1⟩ := HJ.out
      have HY2 := HY.out n W1 wr HLT.out hj1 hk1
      clear hj1 hk1 hlt hn
      obtain ⟨fn, tmps, assign, body, hy, hR⟩ := HY2
      gi_wp2
      refine hR.mono ?_
      rintro e w4 ⟨rfl, hj2, hok2⟩
      have HJ2 := Lib.hid hj2
      clear hR hy hj2 hok2
      gi_wp2
      go_roundw
      case rel => exact ⟨n + 1, HLT.out, by go_num, Lib.hid ⟨w4, HJ2.out, Kept.refl _ _⟩⟩
      case measure => have := HLT.out; simp [intOf]; omega
    · have hl : ¬ (n : Int) < 67 := by omega
      have HJN := Lib.hid (show ∃ W1, J 67 W1 ∧ Kept (fun _ => True) W1 wr by rw [show 67 = n by omega]; exact HJ.out)
      gi_wp2
      go_end0
      exact ⟨⟨_, rfl⟩, HJN.out⟩
theorem all_calls (ao : Option Addr) (n cp : Nat) (w : World) : Calls Tryd.prog 25 #[.slice ao n cp] w fun e w' => e = .returned (.func (.func 40) #[] #[.pointer (some ⟨w.heap.size, 0, none⟩)]) ∧ w' = w.alloc (.cells #[.slice ao n cp] 39) := by
  go_enter Tryd.func25, Tryd.ntmps25
  go_wp2
  go_ret
  exact ⟨rfl, rfl⟩
/-- the digits lie in memory, and the slice of them in its box -/
def AllOk (bx db off cap : Nat) (D : List Nat) (W : World) : Prop :=
  W.cell? ⟨bx, 0, none⟩ = some (.slice (some ⟨db, off, none⟩) D.length cap) ∧ ∀ k x : Nat, D[k]? = some x → W.cell? ⟨db, off + k, none⟩ = some (.int .i64 (x : Int))
set_option maxRecDepth 100000 in
set_option maxHeartbeats 2000000 in
theorem all_hands (bx db off cap : Nat) (D : List Nat) (hD : D.length = 67) : HandsRead Tryd.prog 40 #[.pointer (some ⟨bx, 0, none⟩)] (fun k => #[.int .i64 (k : Int), .int .i64 ((D.getD k 0 : Nat) : Int)]) 67 (AllOk bx db off cap D) := by
  rintro l J W hok hY h0
  have HY := Lib.hid hY
  have HJ0 := Lib.hid h0
  have HOK := Lib.hid hok
  have HD := Lib.hid hD
  have hbx := hok.1
  rw [hD] at hbx
  clear hY h0 hok hD
  refine (callsIn_wide (n := 1)).1 ?_
  refine callsIn_of_wp Tryd.func40 rfl trivial ?_ rfl
  simp only [Tryd.ntmps40, List.size_toArray, List.length_cons, List.length_nil, Nat.reduceAdd, Nat.reduceSub, Array.replicate_succ, Array.replicate_zero, List.push_toArray, List.append_toArray, List.nil_append, List.cons_append]
  gi_wp2
  clear hbx
  gi_loopw [7] (fun v7 wr => ∃ n : Nat, n ≤ 67 ∧ v7 = .int .i64 (n : Int) ∧ Hid (∃ W1, J n W1 ∧ Kept (fun _ => True) W1 wr) ∧ Hid (AllOk bx db off cap D wr)) (fun v7 _ => 67 - (intOf v7).toNat)
  case atStart => exact ⟨0, by decide, rfl, Lib.hid ⟨W, HJ0.out, Kept.refl _ _⟩, HOK⟩
  case round =>
    obtain ⟨n, hn, rfl, HJ, HC⟩ := hrel
    by_cases hlt : n < 67
    · have hl : (n : Int) < 67 := by omega
      have h0 : (0 : Int) ≤ (n : Int) := by omega
      have HLT := Lib.hid hlt
      have hx : D[n]? = some (D.getD n 0) := by
        have h : n < D.length := by have := HD.out; omega
        rw [List.getD_eq_getElem?_getD, List.getElem?_eq_getElem h]; rfl
      have hcell := HC.out.2 n _ hx
      obtain ⟨W1, hj1, hk1⟩ := HJ.out
      have HY2 := HY.out n W1 wr HLT.out hj1 hk1
      clear hj1 hk1 hx hlt hn
      generalize D.getD n 0 = x at *
      obtain ⟨fn, tmps, assign, body, hy, hR⟩ := HY2
      gi_wp2
      refine hR.mono ?_
      rintro e w4 ⟨rfl, hj2, hok2⟩
      have HJ2 := Lib.hid hj2
      have HO2 := Lib.hid hok2
      clear hR hy hj2 hok2 hcell
      gi_wp2
      go_roundw
      case rel => exact ⟨n + 1, HLT.out, by go_num, Lib.hid ⟨w4, HJ2.out, Kept.refl _ _⟩, HO2⟩
      case measure => have := HLT.out; simp [intOf]; omega
    · have hl : ¬ (n : Int) < 67 := by omega
      have HJN := Lib.hid (show ∃ W1, J 67 W1 ∧ Kept (fun _ => True) W1 wr by rw [show 67 = n by omega]; exact HJ.out)
      gi_wp2
      go_end0
      exact ⟨⟨_, rfl⟩, HJN.out⟩
end Go.Proofs.YtpbbpkflljcklaaDoor
