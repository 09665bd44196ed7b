/- Things as bytes: the document's rows, as lists; the reference's functions for numbers. -/
import Derived.Test.YtgdlfbphfogphaaDoorProg
import Derived.WalkKit
import Derived.Laws.IdiomStrings
import Derived.Lib.Hide
import Derived.IntWalk
import Derived.Deep.MidRow
namespace Go.Proofs.YtgdlfbphfogphaaDoor
open Go.RowKit

theorem strAdd (A B : List UInt8) : (⟨A.toArray⟩ : ByteArray) ++ ⟨B.toArray⟩ = ⟨(A ++ B).toArray⟩ := by
  apply ByteArray.ext
  simp
theorem oneByte (w : World) (y : Int) (x : UInt8) (hy : y = (x.toNat : Int)) : ∀ j (hj : j < [x].length), (w.alloc (.cells #[.int .u8 y] 5)).cell? ((⟨w.heap.size, 0, none⟩ : Addr).add j) = some (.int .u8 ([x][j].toNat : Int)) := by
  intro j hj
  obtain rfl : j = 0 := by simpa using hj
  rw [Addr.add_mid, World.cell?_alloc_at (hn := rfl), hy]
  rfl
theorem run_cat (A B : List UInt8) (h : A.length + B.length < 4611686018427387904) (w : World) : (Op.stringOp .add ⟨A.toArray⟩ ⟨B.toArray⟩).run Tryd.prog w = .ok (.string ⟨(A ++ B).toArray⟩) w := by
  have hs : ((((⟨A.toArray⟩ : ByteArray).size + (⟨B.toArray⟩ : ByteArray).size : Nat) : Int) > IntKind.i64.max) = False := by
    have e : IntKind.i64.max = 9223372036854775807 := by decide
    have e1 : (⟨A.toArray⟩ : ByteArray).size = A.length := rfl
    have e2 : (⟨B.toArray⟩ : ByteArray).size = B.length := rfl
    rw [e, e1, e2]
    simp only [gt_iff_lt, eq_iff_iff, iff_false]
    omega
  simp only [Op.stringOp, hs, if_false, strAdd]
  rfl
theorem extract_list (Y : List UInt8) (i j : Nat) : (⟨Y.toArray⟩ : ByteArray).extract i j = ⟨((Y.take j).drop i).toArray⟩ := by
  apply ByteArray.ext
  rw [ByteArray.data_extract]
  simp [List.drop_take]

/-- a number in k bytes, the highest first -/
def be (n : Nat) : Nat → List UInt8
  | 0 => []
  | k + 1 => UInt8.ofNat (n / 256 ^ k) :: be n k
theorem be_length (n : Nat) : ∀ k, (be n k).length = k
  | 0 => rfl
  | k + 1 => by rw [be, List.length_cons, be_length n k]
theorem byte_mod (q : Nat) : (q : Int) % (256 : Int) = ((UInt8.ofNat q).toNat : Int) := by rw [UInt8.toNat_ofNat']; omega

set_option maxRecDepth 100000 in
set_option maxHeartbeats 1000000 in
theorem pbytes_any (n k : Nat) (w : World) (hn : n < 18446744073709551616) (hk : k ≤ 8) :
    Calls Tryd.prog 37 #[.int .u64 (n : Int), .int .i64 (k : Int)] w fun e w' => e = .returned (.string ⟨(be n k).toArray⟩) ∧ Below w.heap.size w w' := by
  go_enter Tryd.func37, Tryd.ntmps37
  go_wp2
  go_loopw [0, 5, 6] (fun v s i wr => ∃ j q : Nat, ∃ D : List UInt8, j ≤ k ∧ Hid (n / 256 ^ j = q) ∧ Hid (D = be n j) ∧ D.length = j ∧ v = .int .u64 (q : Int) ∧ s = .string ⟨D.toArray⟩ ∧ i = .int .i64 (j : Int) ∧ Below w.heap.size w wr)
    (fun _ _ i _ => k - (intOf i).toNat)
  case atStart => exact ⟨0, n, [], by omega, Lib.hid (by simp), Lib.hid rfl, rfl, rfl, rfl, rfl, Below.refl _ _⟩
  case round =>
    obtain ⟨j, q, D, hj, HQ, HD, hDl, rfl, rfl, rfl, hbe⟩ := hrel
    have hqn : q < 18446744073709551616 := by have := Nat.div_le_self n (256 ^ j); rw [HQ.out] at this; omega
    by_cases hlt : j < k
    · have hz := hbe.size
      have hX := byte_mod q
      have HP := Lib.hid (strAdd [UInt8.ofNat q] D)
      have HD2 := Lib.hid (show [UInt8.ofNat q] ++ D = be n (j + 1) by rw [HD.out, be, HQ.out]; rfl)
      have hconv := run_convert_bytes_back (P := Tryd.prog) (wr.alloc (.cells #[.int .u8 ((q : Int) % (256 : Int))] 5)) 48 9 5 ⟨wr.heap.size, 0, none⟩ 1 [UInt8.ofNat q] Tryd.underlying48 Tryd.underlying5 Tryd.underlying9 (oneByte wr _ _ hX)
      simp only [List.length_cons, List.length_nil, Nat.zero_add] at hconv
      clear hX
      have hlt2 : (j : Int) < (k : Int) := by omega
      go_wp2
      go_roundw
      case rel => exact ⟨j + 1, q / 256, [UInt8.ofNat q] ++ D, by omega, Lib.hid (by rw [Nat.pow_succ, ← Nat.div_div_eq_div_mul, HQ.out]), HD2, by simp; omega, by go_num, congrArg Value.string HP.out, by go_num, hbe.alloc hz _⟩
      case measure => simp [intOf]; omega
    · have ek : j = k := by omega
      have hlt2 : ¬ (j : Int) < (k : Int) := by omega
      go_wp2
      go_ret
      exact ⟨by rw [HD.out, ek]; rfl, hbe⟩

set_option maxHeartbeats 400000 in
theorem pone_any (n : Nat) (w : World) :
    Calls Tryd.prog 36 #[.int .u64 (n : Int)] w fun e w' => e = .returned (.string ⟨[UInt8.ofNat n].toArray⟩) ∧ Below w.heap.size w w' := by
  have hX := byte_mod n
  have hconv := run_convert_bytes_back (P := Tryd.prog) (w.alloc (.cells #[.int .u8 ((n : Int) % (256 : Int))] 5)) 48 9 5 ⟨w.heap.size, 0, none⟩ 1 [UInt8.ofNat n] Tryd.underlying48 Tryd.underlying5 Tryd.underlying9 (oneByte w _ _ hX)
  simp only [List.length_cons, List.length_nil, Nat.zero_add] at hconv
  clear hX
  go_enter Tryd.func36, Tryd.ntmps36
  go_wp2
  go_ret
  exact ⟨rfl, (Below.refl _ _).alloc (Nat.le_refl _) _⟩
end Go.Proofs.YtgdlfbphfogphaaDoor
