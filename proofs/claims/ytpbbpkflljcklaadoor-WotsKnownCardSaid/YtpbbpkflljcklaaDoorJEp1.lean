/- The program's own leaves: what digits lack, a byte as a text, which chains and walks there are. -/
import Derived.Test.YtpbbpkflljcklaaDoorJ6
namespace Go.Proofs.YtpbbpkflljcklaaDoor
open Go.RowKit

theorem oneByte_calls (n : Nat) (hn : n < 256) (w : World) : Calls Tryd.prog 47 #[.int .i64 (n : Int)] w fun e w' => e = .returned (.string ⟨[UInt8.ofNat n].toArray⟩) ∧ Below w.heap.size w w' := by
  have hc := conv_one n hn w
  go_enter Tryd.func47, Tryd.ntmps47
  go_wp2
  go_ret
  exact ⟨rfl, by0 w _⟩
theorem isChain_yes (i : Nat) (h : i ≤ 66) (w : World) : Calls Tryd.prog 34 #[.int .i64 (i : Int)] w fun e w' => e = .returned (.bool true) ∧ w' = w := by
  have h0 : (0 : Int) ≤ (i : Int) := by omega
  have h1 : (i : Int) < 67 := by omega
  go_enter Tryd.func34, Tryd.ntmps34
  go_wp2
  go_ret
  exact ⟨rfl, rfl⟩
theorem isChain_no (i : Int) (h : ¬ (0 ≤ i ∧ i ≤ 66)) (w : World) : Calls Tryd.prog 34 #[.int .i64 i] w fun e w' => e = .returned (.bool false) ∧ w' = w := by
  by_cases h0 : (0 : Int) ≤ i
  · have h1 : ¬ i < 67 := by omega
    clear h
    go_enter Tryd.func34, Tryd.ntmps34
    go_wp2
    go_ret
    exact ⟨rfl, rfl⟩
  · clear h
    go_enter Tryd.func34, Tryd.ntmps34
    go_wp2
    go_ret
    exact ⟨rfl, rfl⟩
theorem isWalk_yes (a b : Nat) (h : a ≤ b) (hb : b ≤ 15) (w : World) : Calls Tryd.prog 35 #[.int .i64 (a : Int), .int .i64 (b : Int)] w fun e w' => e = .returned (.bool true) ∧ w' = w := by
  have h0 : (0 : Int) ≤ (a : Int) := by omega
  have h1 : (a : Int) ≤ (b : Int) := by omega
  have h2 : (b : Int) ≤ 15 := by omega
  go_enter Tryd.func35, Tryd.ntmps35
  go_wp2
  go_ret
  exact ⟨rfl, rfl⟩
theorem isWalk_no (a b : Int) (h : ¬ (0 ≤ a ∧ a ≤ b ∧ b ≤ 15)) (w : World) : Calls Tryd.prog 35 #[.int .i64 a, .int .i64 b] w fun e w' => e = .returned (.bool false) ∧ w' = w := by
  by_cases h0 : (0 : Int) ≤ a
  · by_cases h1 : a ≤ b
    · have h2 : ¬ b ≤ 15 := by omega
      clear h
      go_enter Tryd.func35, Tryd.ntmps35
      go_wp2
      go_ret
      exact ⟨rfl, rfl⟩
    · clear h
      go_enter Tryd.func35, Tryd.ntmps35
      go_wp2
      go_ret
      exact ⟨rfl, rfl⟩
  · clear h
    go_enter Tryd.func35, Tryd.ntmps35
    go_wp2
    go_ret
    exact ⟨rfl, rfl⟩

def lakN (X : List Nat) : Nat := (X.map fun x => 15 - x).sum
theorem lakN_take (X : List Nat) (k : Nat) (h : k < X.length) : lakN (X.take (k + 1)) = lakN (X.take k) + (15 - X[k]) := by
  rw [lakN, List.take_succ_eq_append_getElem h, List.map_append, List.sum_append, ← lakN]; simp
theorem lakN_le : ∀ X : List Nat, lakN X ≤ 15 * X.length
  | [] => by simp [lakN]
  | x :: X => by
    have := lakN_le X
    rw [lakN] at this ⊢
    rw [List.map_cons, List.sum_cons, List.length_cons]
    omega
theorem lakN_hv : ∀ s : (List UInt8), lakN (hvL s) = lackL s
  | [] => rfl
  | b :: s => by
    have h := lakN_hv s
    have hb := b256 b
    rw [lackL_cons, ← h, lakN, lakN, show hvL (b :: s) = [b.toNat / 16, b.toNat % 16] ++ hvL s from rfl, List.map_append, List.sum_append]
    simp only [List.map_cons, List.map_nil, List.sum_cons, List.sum_nil]
    omega
set_option maxRecDepth 100000 in
set_option maxHeartbeats 1000000 in
theorem lacking_any (B cap : Nat) (X : List Nat) (hX : ∀ x ∈ X, x ≤ 15) (hl : X.length = 64) (w : World) (hB : B < w.heap.size) (hc : ∀ i (h : i < X.length), w.cell? ⟨B, i, none⟩ = some (.int .i64 (X[i] : Int))) :
    Calls Tryd.prog 33 #[.slice (some ⟨B, 0, none⟩) 64 cap] w fun e w' => e = .returned (.int .i64 (lakN X : Int)) ∧ Below w.heap.size w w' := by
  have HC := Lib.hid hc
  have HL := Lib.hid hl
  have HX := Lib.hid hX
  have HBB := Lib.hid hB
  clear hc hl hX hB
  go_enter Tryd.func33, Tryd.ntmps33
  go_wp2
  go_loopw [3, 5, 8] (fun v3 v5 v8 wr => ∃ k : Nat, k ≤ 64 ∧ v8 = .int .i64 (k : Int) ∧ v3 = .int .i64 (lakN (X.take k) : Int) ∧ Hid (Below w.heap.size w wr)) (fun _ _ v8 _ => 64 - (intOf v8).toNat)
  case atStart => exact ⟨0, Nat.zero_le _, rfl, rfl, Lib.hid (Below.refl _ _)⟩
  case round =>
    obtain ⟨k, hk, rfl, rfl, HB⟩ := hrel
    by_cases hlt : k < 64
    · have k1 : (k : Int) < 64 := by omega
      have k0 : (0 : Int) ≤ (k : Int) := by omega
      have hkx : k < X.length := by have := HL.out; omega
      have hcell : wr.cell? ⟨B, k, none⟩ = some (.int .i64 (X[k] : Int)) := (HB.out.cell HBB.out).trans (HC.out k hkx)
      have HT := Lib.hid (lakN_take X k hkx)
      have hle := HX.out _ (List.getElem_mem hkx)
      have hsum : lakN (X.take k) ≤ 960 := by
        have := lakN_le (X.take k)
        rw [List.length_take] at this
        omega
      generalize X[k] = x at *
      generalize lakN (X.take k) = S at *
      obtain ⟨y, hy⟩ : ∃ y, y = 15 - x := ⟨_, rfl⟩
      have e1 : (15 : Int) - (x : Int) = (y : Int) := by omega
      have hy15 : y ≤ 15 := by omega
      rw [← hy] at HT
      clear hy hkx
      go_wp2
      go_roundw
      case rel => exact ⟨k + 1, by omega, by go_num, by rw [HT.out]; go_num, HB⟩
      case measure => simp [intOf]; omega
    · have k1 : ¬ (k : Int) < 64 := by omega
      have HT := Lib.hid (show lakN (X.take k) = lakN X by rw [List.take_of_length_le (by have := HL.out; omega)])
      generalize lakN (X.take k) = S at *
      go_wp2
      go_ret
      exact ⟨by rw [← HT.out]; rfl, HB.out⟩
end Go.Proofs.YtpbbpkflljcklaaDoor
