/- The row above: slices.Chunk by pairs. -/
import Derived.Test.YtjfhcckadibhgaaDoorAf
import Derived.Test.YtjfhcckadibhgaaDoorAc
namespace Go.Proofs.YtjfhcckadibhgaaDoor
open Go.RowKit

set_option maxRecDepth 100000 in
set_option maxHeartbeats 2000000 in
theorem chunk_hands (b1 b2 B m cap : Nat) (hm : m ≤ 65536) (hcap : 2 * m ≤ cap) : HandsRead Tryd.prog 59 #[.pointer (some ⟨b1, 0, none⟩), .pointer (some ⟨b2, 0, none⟩)] (fun k => #[.slice (some ⟨B, 2 * k, none⟩) 2 2]) m
      (fun W => W.cell? ⟨b1, 0, none⟩ = some (.slice (some ⟨B, 0, none⟩) (2 * m) cap) ∧ W.cell? ⟨b2, 0, none⟩ = some (.int .i64 2)) := by
  rintro l J W hok hY h0
  have HY := Lib.hid hY
  have HJ0 := Lib.hid h0
  have HOK := Lib.hid hok
  clear hY h0 hok
  refine (callsIn_wide (n := 1)).1 ?_
  refine callsIn_of_wp Tryd.func59 rfl trivial ?_ rfl
  simp only [Tryd.ntmps59, List.size_toArray, List.length_cons, List.length_nil, Nat.reduceAdd, Nat.reduceSub, Array.replicate_succ, Array.replicate_zero, List.push_toArray, List.append_toArray, List.nil_append, List.cons_append]
  gi_wp2
  gi_loopw [4, 5] (fun i s5 wr => ∃ k : Nat, k ≤ m ∧ i = .int .i64 ((2 * k : Nat) : Int) ∧ Hid (∃ W1, J k W1 ∧ Kept (fun _ => True) W1 wr) ∧ Hid (wr.cell? ⟨b1, 0, none⟩ = some (.slice (some ⟨B, 0, none⟩) (2 * m) cap) ∧ wr.cell? ⟨b2, 0, none⟩ = some (.int .i64 2))) (fun i _ _ => 2 * m - (intOf i).toNat)
  case atStart => exact ⟨0, by omega, rfl, Lib.hid ⟨W, HJ0.out, Kept.refl _ _⟩, HOK⟩
  case round =>
    obtain ⟨k, hk, rfl, HJ, HC⟩ := hrel
    obtain ⟨c1, c2⟩ := HC.out
    by_cases hlt : k < m
    · have hl : ((2 * k : Nat) : Int) < ((2 * m : Nat) : Int) := by omega
      have hl0 : (0 : Int) ≤ ((2 * k : Nat) : Int) := by omega
      have hl2 : ((2 * k : Nat) : Int) ≤ ((2 * m : Nat) : Int) := by omega
      generalize hK : 2 * k = K at *
      generalize hM : 2 * m = M at *
      have hne : ¬ cap = K := by omega
      gi_wp2
      refine wpIn_wide.2 ?_
      go_region_held3 (fun w' => w'.cell? ⟨b1, 0, none⟩ = some (.slice (some ⟨B, 0, none⟩) M cap) ∧ w'.cell? ⟨b2, 0, none⟩ = some (.int .i64 2)) (first | (with_reducible assumption) | (exact ⟨c1, c2⟩)) (fail)
      all_goals
        have hmn : min (2 : Int) ((M - K : Nat) : Int) = 2 := by omega
        rw [hmn]
        clear hmn
        have e1 : wr.drew.cell? ⟨b1, 0, none⟩ = some (.slice (some ⟨B, 0, none⟩) M cap) := c1
        have e2 : wr.drew.cell? ⟨b2, 0, none⟩ = some (.int .i64 2) := c2
        obtain ⟨W1, hj1, hk1⟩ := HJ.out
        have HY2 := HY.out k W1 wr.drew hlt hj1 hk1.drew
        have hK2 : K + 2 ≤ M := by omega
        clear hj1 hk1 hne
        rw [hK] at HY2
        obtain ⟨fn, tmps, assign, body, hy, hR⟩ := HY2
        gi_wp2
        refine hR.mono ?_
        rintro e w2 ⟨rfl, hj2, hok2⟩
        have HJ2 := Lib.hid hj2
        have HO2 := Lib.hid hok2
        obtain ⟨f1, f2⟩ := hok2
        clear hR hy hj2 e1 e2 c1 c2
        gi_wp2
        go_roundw
        case rel => exact ⟨k + 1, by omega, by rw [← hK]; go_num, Lib.hid ⟨w2, HJ2.out, Kept.refl _ _⟩, Lib.hid ⟨f1, f2⟩⟩
        case measure => simp [intOf] <;> omega
    · have hl : ¬ ((2 * k : Nat) : Int) < ((2 * m : Nat) : Int) := by omega
      have hkd : k = m := by omega
      subst hkd
      gi_wp2
      go_end0
      exact ⟨⟨_, rfl⟩, HJ.out⟩
end Go.Proofs.YtjfhcckadibhgaaDoor
