/- What the program's Public, Sign, Recover are to do; the law's same, secret, digest, cut. -/
import Derived.Test.YtpbbpkflljcklaaDoorJXa
import Derived.Test.YtpbbpkflljcklaaDoorJ5
import Derived.Test.YtpbbpkflljcklaaDoorJEb2
import Derived.Deep.QuietTactic
namespace Go.Proofs.YtpbbpkflljcklaaDoor
open Go.RowKit

structure WotsC : Prop where
  p : ∀ (s : (List UInt8)) (n : Nat) (w : World), Glob w → s.length ≤ 1000 → n < 18446744073709551616 → Calls Tryd.prog 10 #[.string ⟨s.toArray⟩, .int .u64 (n : Int)] w fun e w' => e = .returned (.string ⟨(pubF s n).toArray⟩) ∧ Below w.heap.size w w'
  s : ∀ (s : (List UInt8)) (n : Nat) (d : (List UInt8)) (w : World), Glob w → s.length ≤ 1000 → n < 18446744073709551616 → d.length ≤ 1000 → Calls Tryd.prog 8 #[.string ⟨s.toArray⟩, .int .u64 (n : Int), .string ⟨d.toArray⟩] w fun e w' => ∃ ao cp, e = .returned (.tuple #[.slice ao (signC s n d).1.length cp, .int .i64 (signC s n d).2]) ∧ Strs ao (signC s n d).1 w' ∧ (signC s n d).1.length ≤ cp ∧ Below w.heap.size w w'
  r : ∀ (g : List (List UInt8)) (ao : Option Addr) (cp : Nat) (d : (List UInt8)) (w : World), Glob w → Strs ao g w → g.length ≤ 1000 → (∀ x ∈ g, x.length ≤ 1000) → d.length ≤ 1000 → Calls Tryd.prog 14 #[.slice ao g.length cp, .string ⟨d.toArray⟩] w fun e w' => e = .returned (.tuple #[.string ⟨(recC g d).1.toArray⟩, .int .i64 (recC g d).2]) ∧ Below w.heap.size w w'
set_option maxRecDepth 100000 in
set_option maxHeartbeats 1000000 in
theorem same13_any (ao bo : Option Addr) (ca cb : Nat) (L : List (List UInt8)) (w : World) (hL : L.length ≤ 1000) (ha : Strs ao L w) (hb : Strs bo L w) :
    Calls Tryd.prog 12 #[.slice ao L.length ca, .slice bo L.length cb] w fun e w' => e = .returned (.bool true) ∧ Below w.heap.size w w' := by
  have HA := Lib.hid ha
  have HB := Lib.hid hb
  clear ha hb
  go_enter Tryd.func12, Tryd.ntmps12
  go_wp2
  go_loopw [5] (fun i wr => ∃ k : Nat, k ≤ L.length ∧ i = .int .i64 (k : Int) ∧ Below w.heap.size w wr)
    (fun i _ => L.length - (intOf i).toNat)
  case atStart => exact ⟨0, by omega, rfl, Below.refl _ _⟩
  case round =>
    obtain ⟨k, hk, rfl, hbe⟩ := hrel
    by_cases hlt : k < L.length
    · obtain ⟨b1, o1, rfl, hc1⟩ := (HA.out.below (Nat.le_refl _) hbe).cell k hlt
      obtain ⟨b2, o2, rfl, hc2⟩ := (HB.out.below (Nat.le_refl _) hbe).cell k hlt
      generalize L[k] = X at *
      have k0 : (0 : Int) ≤ (k : Int) := by omega
      have k1 : (k : Int) < (L.length : Int) := by omega
      go_wp2
      go_quiet (fail)
      have hbn := Below_drewN' hbe nq
      go_wp2
      go_roundw
      case rel => exact ⟨k + 1, by omega, by go_num, hbn⟩
      case measure => simp [intOf]; omega
    · have k1 : ¬ (k : Int) < (L.length : Int) := by omega
      go_wp2
      go_ret
      exact ⟨rfl, hbe⟩
/-- a text made 32 bytes -/
def padT (s : (List UInt8)) : (List UInt8) := s.take 32 ++ List.replicate (32 - (s.take 32).length) 0
theorem padT_len (s : (List UInt8)) : (padT s).length = 32 := by rw [padT, List.length_append, List.length_replicate, List.length_take]; omega
set_option maxRecDepth 100000 in
theorem digest13_any (s : (List UInt8)) (w : World) (_hs : s.length ≤ maxLen) : Calls Tryd.prog 17 #[.string ⟨s.toArray⟩] w fun e w' => e = .returned (.string ⟨(padT s).toArray⟩) ∧ Below w.heap.size w w' := by
  obtain ⟨m, hm1, hm2, hm3⟩ := extract_take s 32
  rw [show ((32 : Nat) : Int) = 32 from rfl] at hm1
  have m0 : (0 : Int) ≤ (m : Int) := by omega
  have m1 : (m : Int) ≤ (s.length : Int) := by omega
  have hl : (s.take 32).length ≤ 32 := by rw [List.length_take]; omega
  obtain ⟨t, ht⟩ : ∃ t, s.take 32 = t := ⟨_, rfl⟩
  have HP := Lib.hid (show padT s = t ++ List.replicate (32 - t.length) 0 by rw [padT, ht])
  rw [ht] at hl hm3
  rw [HP.out]
  obtain ⟨q, hq⟩ : ∃ q, q = 32 - t.length := ⟨_, rfl⟩
  have q1 : (32 : Int) - (t.length : Int) = (q : Int) := by omega
  have hmk := fun w => make_bytes q (by omega) w
  have hcv : (convert 33 9 (.slice (some ⟨w.heap.size, 0, none⟩) q q)).run Tryd.prog (w.alloc (.cells (bytesC (List.replicate q 0)).toArray 5)) = .ok (.string ⟨(List.replicate q (0 : UInt8)).toArray⟩) (w.alloc (.cells (bytesC (List.replicate q 0)).toArray 5)) := by
    have := conv_bytes (List.replicate q 0) w.heap.size q (w.alloc (.cells (bytesC (List.replicate q 0)).toArray 5)) (fun j hj => bytes_cell (heap_alloc_new w _) j hj)
    rwa [List.length_replicate] at this
  have hct := fun w => run_cat t (List.replicate q 0) (by rw [List.length_replicate]; omega) w
  rw [← hq]
  generalize List.replicate q (0 : UInt8) = Z at *
  clear hq HP ht
  go_enter Tryd.func17, Tryd.ntmps17
  go_wp2
  go_ret
  exact ⟨rfl, by0 w _⟩
end Go.Proofs.YtpbbpkflljcklaaDoor
