/- The reference's padded text is the text and what stands behind it, for texts below ten to the twelfth. -/
import Derived.Test.YtpbbpkflljcklaaDoorJ4
namespace Go.Proofs.YtpbbpkflljcklaaDoor
open Go.RowKit

theorem str_add' (A B : List UInt8) : (⟨A.toArray⟩ : ByteArray) ++ ⟨B.toArray⟩ = ⟨(A ++ B).toArray⟩ := by
  apply ByteArray.ext
  simp

theorem byte_eq2 (n k : Nat) : ((8 : Int) * (n : Int) / (2 : Int) ^ (56 - 8 * k) % (256 : Int)) = ((UInt8.ofNat (8 * n / 2 ^ (56 - 8 * k))).toNat : Int) := by
  rw [Int.mul_comm]; exact byte_eq n k
theorem padTo_snoc (n m k : Nat) : padTo n m k ++ [UInt8.ofNat (8 * n / 2 ^ (56 - 8 * k))] = padTo n m (k + 1) := by
  rw [padTo, padTo, be64To_succ, List.append_assoc]
theorem padTo_length (n m k : Nat) : (padTo n m k).length = 1 + m + k := by
  simp [padTo, be64To]; omega
theorem noughts_at (n m k : Nat) (hm : noughts n = m) (hk : k ≤ m) : (n + 1 + k) % 64 = 56 ↔ k = m := by
  unfold noughts at hm
  omega
def padA (S : List UInt8) (k : Nat) : List UInt8 := S ++ (128 :: List.replicate k 0)
theorem padA_succ (S : List UInt8) (k : Nat) : padA S k ++ [0] = padA S (k + 1) := by
  rw [padA, padA, List.append_assoc, List.cons_append, ← List.replicate_succ']
theorem padA_length (S : List UInt8) (k : Nat) : (padA S k).length = S.length + 1 + k := by
  simp [padA]; omega
theorem padA_zero (S : List UInt8) : S ++ [128] = padA S 0 := rfl
theorem padA_end (S : List UInt8) (n m : Nat) : padA S m = S ++ padTo n m 0 := by
  rw [padA, padTo]; simp [be64To]

theorem one_byte (w : World) (y : Int) (x : UInt8) (hy : y = (x.toNat : Int)) : ∀ j (hj : j < [x].length), (w.alloc (.cells #[.int .u8 y] 5)).cell? ((⟨w.heap.size, 0, none⟩ : Addr).add j) = some (.int .u8 ([x][j].toNat : Int)) := by
  intro j hj
  obtain rfl : j = 0 := by simpa using hj
  rw [Addr.add_mid, World.cell?_alloc_at (hn := rfl), hy]
  rfl
theorem padL_eq (n m j : Nat) (hm : noughts n = m) (hj : j = 8) : padL n = padTo n m j := by
  rw [hj, ← hm]; rfl

set_option maxRecDepth 100000 in
set_option maxHeartbeats 1000000 in
theorem padded_any (S : List UInt8) (w : World) (hS : S.length < 100000000000) :
    Calls Tryd.prog 58 #[.string ⟨S.toArray⟩] w fun e w' => e = .returned (.string ⟨(S ++ padL S.length).toArray⟩) ∧ Below w.heap.size w w' := by
  obtain ⟨m, hm⟩ : ∃ m, noughts S.length = m := ⟨_, rfl⟩
  have hm64 : m < 64 := by unfold noughts at hm; omega
  have Hm := Lib.hid hm
  clear hm
  go_enter Tryd.func58, Tryd.ntmps58
  go_wp2
  go_loop [0] (fun s => ∃ k : Nat, k ≤ m ∧ s = .string ⟨(padA S k).toArray⟩) (fun s => S.length + 1 + m - strLen s)
  case atStart => exact ⟨0, by omega, congrArg Value.string ((str_add' S [128]).trans (by rw [padA_zero]))⟩
  case round =>
    obtain ⟨k, hk, rfl⟩ := hrel
    have hpl := padA_length S k
    have hat := noughts_at S.length m k Hm.out hk
    by_cases hlt : k < m
    · have hne2 : (((S.length : Int) + 1 + (k : Int)) % 64 != 56) = true := by rw [bne_iff_ne]; omega
      have HA := Lib.hid ((str_add' (padA S k) [0]).trans (by rw [padA_succ]))
      clear hat
      go_wp2
      go_round
      case rel => exact ⟨k + 1, by omega, congrArg Value.string HA.out⟩
      case measure =>
        show S.length + 1 + m - ((⟨(padA S k).toArray⟩ : ByteArray) ++ ⟨#[0]⟩).size < S.length + 1 + m - (padA S k).length
        rw [HA.out]
        show S.length + 1 + m - (padA S (k + 1)).length < S.length + 1 + m - (padA S k).length
        rw [padA_length, padA_length]
        omega
    · have ek : k = m := by omega
      subst ek
      have hne2 : (((S.length : Int) + 1 + (k : Int)) % 64 != 56) = false := by rw [bne_eq_false_iff_eq]; omega
      have HE := Lib.hid (padA_end S S.length k)
      clear hat
      go_wp2
      go_loopw [0, 4] (fun s i wr => ∃ j : Nat, j ≤ 8 ∧ i = .int .i64 (56 - 8 * (j : Int)) ∧ s = .string ⟨(S ++ padTo S.length k j).toArray⟩ ∧ Below w.heap.size w wr) (fun _ i _ => (8 + intOf i).toNat)
      case atStart => exact ⟨0, by omega, by go_num, by rw [HE.out], Below.refl _ _⟩
      case round =>
        obtain ⟨j, hj, rfl, rfl, hbe⟩ := hrel
        by_cases hjl : j < 8
        · have hz := hbe.size
          obtain ⟨x, hx⟩ : ∃ x, UInt8.ofNat (8 * S.length / 2 ^ (56 - 8 * j)) = x := ⟨_, rfl⟩
          have hX : (8 : Int) * (S.length : Int) / (2 : Int) ^ (56 - 8 * j) % (256 : Int) = (x.toNat : Int) := by rw [byte_eq2, hx]
          have HP := Lib.hid ((str_add' (S ++ padTo S.length k j) [x]).trans (by rw [List.append_assoc, ← hx, padTo_snoc]))
          have hconv := run_convert_bytes_back (P := Tryd.prog) (wr.alloc (.cells #[.int .u8 ((8 : Int) * (S.length : Int) / (2 : Int) ^ (56 - 8 * j) % (256 : Int))] 5)) 33 9 5 ⟨wr.heap.size, 0, none⟩ 1 [x] Tryd.underlying33 Tryd.underlying5 Tryd.underlying9 (one_byte wr _ x hX)
          simp only [List.length_cons, List.length_nil, Nat.zero_add] at hconv
          have hpj : (padTo S.length k j).length < 1000 := by rw [padTo_length]; omega
          clear hx hX
          go_wp2
          go_roundw
          case rel => exact ⟨j + 1, by omega, by go_num, congrArg Value.string HP.out, hbe.alloc hz _⟩
          case measure => simp [intOf]; omega
        · have ej : Hid (j = 8) := Lib.hid (by omega)
          go_wp2
          go_ret
          refine ⟨?_, hbe⟩
          rw [padL_eq S.length k j Hm.out ej.out]
          rfl
end Go.Proofs.YtpbbpkflljcklaaDoor
