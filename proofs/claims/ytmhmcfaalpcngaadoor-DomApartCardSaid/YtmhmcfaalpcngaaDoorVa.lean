/- A number's eight bytes: by the program, by the document's answer, and back. -/
import Derived.Test.YtmhmcfaalpcngaaDoorTe
namespace Go.Proofs.YtmhmcfaalpcngaaDoor
open Go.RowKit

/-- a number's eight bytes, the highest first -/
def numL (n : Nat) : List UInt8 := be64To n 8
theorem numL_length (n : Nat) : (numL n).length = 8 := by simp [numL, be64To]
theorem numL_get (n j : Nat) (h : j < 8) : (numL n)[j]? = some (UInt8.ofNat (n / 2 ^ (56 - 8 * j))) := by simp [numL, be64To, h]

theorem shr_byte (n k : Nat) : ((n : Int) / (2 : Int) ^ (8 * k) % (256 : Int)) = ((UInt8.ofNat (n / 2 ^ (8 * k))).toNat : Int) := by
  have e : (2 : Int) ^ (8 * k) = ((2 ^ (8 * k) : Nat) : Int) := by rw [Int.natCast_pow]; rfl
  rw [e, UInt8.toNat_ofNat']
  generalize 2 ^ (8 * k) = p
  show _ = ((n / p % 256 : Nat) : Int)
  rw [Int.natCast_emod, Int.natCast_ediv]
  rfl

/-- the array of eight, from its end on -/
def Laid8 (n k : Nat) (R : Array Value) : Prop := ∀ j, 8 - k ≤ j → j < 8 → R[j]? = some (.int .u8 ((UInt8.ofNat (n / 2 ^ (56 - 8 * j))).toNat : Int))
theorem Laid8.next {n k : Nat} {R : Array Value} (h : Laid8 n k R) (hR : R.size = 8) (hk : k < 8) : Laid8 n (k + 1) (R.setIfInBounds (7 - k) (.int .u8 ((n : Int) / (2 : Int) ^ (8 * k) % (256 : Int)))) := by
  intro j h1 h2
  by_cases e : j = 7 - k
  · subst e
    rw [Array.getElem?_setIfInBounds_self_of_lt (by omega), shr_byte, show 56 - 8 * (7 - k) = 8 * k by omega]
  · rw [Array.getElem?_setIfInBounds_ne (by omega)]
    exact h j (by omega) h2

set_option maxRecDepth 100000 in
set_option maxHeartbeats 1000000 in
theorem num_any (n : Nat) (w : World) :
    Calls Tryd.prog 12 #[.int .u64 (n : Int)] w fun e w' => e = .returned (.string ⟨(numL n).toArray⟩) ∧ Below w.heap.size w w' := by
  go_enter Tryd.func12, Tryd.ntmps12
  go_wp2
  go_loopw [4, 5] (fun _ i wr => ∃ k : Nat, ∃ R : Array Value, k ≤ 8 ∧ i = .int .i64 (k : Int) ∧ R.size = 8 ∧ Hid (Laid8 n k R) ∧ wr.heap[w.heap.size]? = some (.cells R 49 (0, 0)) ∧ Below w.heap.size w wr)
    (fun _ i _ => 8 - (intOf i).toNat)
  case atStart => exact ⟨0, _, by omega, rfl, rfl, Lib.hid (fun j h1 h2 => by omega), heap_alloc_new w _, (Below.refl _ _).alloc (Nat.le_refl _) _⟩
  case round =>
    obtain ⟨k, R, hk, rfl, hR, HR, hrow, hbe⟩ := hrel
    by_cases hlt : k < 8
    · obtain ⟨u, hu⟩ : ∃ u, R[7 - k]? = some u := ⟨R[7 - k], by simp⟩
      have r0 : wr.cell? ⟨w.heap.size, 7 - k, none⟩ = some u := by rw [cell_of_row _ _ _ _ 49 _ hrow]; exact hu
      have r1 : wr.frozen? ⟨w.heap.size, 7 - k, none⟩ = false := frozen_of_row _ _ _ _ 49 hrow
      clear hu
      obtain ⟨i0, j0, l0⟩ := idx (7 - (k:Int)) (7 - k) (by omega) (by omega)
      have m0 : 7 - (k:Int) < 8 := by omega
      go_wp2
      go_roundw
      case rel =>
        refine ⟨k + 1, R.setIfInBounds (7 - k) _, by omega, by go_num, by simpa using hR, Lib.hid (HR.out.next hR hlt), ?_, hbe.setCell (by show w.heap.size ≤ w.heap.size; omega) _⟩
        exact heap_setCell_same wr w.heap.size (7 - k) R 49 _ hrow
      case measure => simp [intOf]; omega
    · have ek : k = 8 := by omega
      have hcv : ∀ j (hj : j < (numL n).length), wr.cell? ((⟨w.heap.size, 0, none⟩ : Addr).add j) = some (.int .u8 ((numL n)[j].toNat : Int)) := by
        intro j hj
        rw [numL_length] at hj
        have h := HR.out j (by omega) hj
        have e := numL_get n j hj
        rw [List.getElem?_eq_getElem (by rw [numL_length]; exact hj), Option.some.injEq] at e
        rw [Addr.add_mid, Nat.zero_add, cell_of_row _ _ _ _ 49 _ hrow, h, e]
      have hconv := run_convert_bytes_back wr 37 9 5 ⟨w.heap.size, 0, none⟩ 8 (numL n) Tryd.underlying37 Tryd.underlying5 Tryd.underlying9 hcv
      rw [numL_length] at hconv
      clear hcv
      go_wp2
      go_ret
      exact ⟨rfl, hbe⟩

theorem strAdd (A B : List UInt8) : (⟨A.toArray⟩ : ByteArray) ++ ⟨B.toArray⟩ = ⟨(A ++ B).toArray⟩ := by
  apply ByteArray.ext
  simp
theorem oneByte (w : World) (y : Int) (x : UInt8) (hy : y = (x.toNat : Int)) : ∀ j (hj : j < [x].length), (w.alloc (.cells #[.int .u8 y] 5)).cell? ((⟨w.heap.size, 0, none⟩ : Addr).add j) = some (.int .u8 ([x][j].toNat : Int)) := by
  intro j hj
  obtain rfl : j = 0 := by simpa using hj
  rw [Addr.add_mid, World.cell?_alloc_at (hn := rfl), hy]
  rfl
theorem numL_drop (n k q : Nat) (hk : k < 8) (hq : n / 256 ^ k = q) : [UInt8.ofNat q] ++ (numL n).drop (8 - k) = (numL n).drop (8 - (k + 1)) := by
  have hl : 8 - (k + 1) < (numL n).length := by rw [numL_length]; omega
  rw [List.drop_eq_getElem_cons hl, show 8 - (k + 1) + 1 = 8 - k by omega]
  have e := numL_get n (8 - (k + 1)) (by omega)
  rw [List.getElem?_eq_getElem hl, Option.some.injEq] at e
  rw [e, ← hq, show 56 - 8 * (8 - (k + 1)) = 8 * k by omega, Nat.pow_mul]
  rfl

set_option maxRecDepth 100000 in
set_option maxHeartbeats 1000000 in
theorem refNum_any (n : Nat) (w : World) (hn : n < 18446744073709551616) :
    Calls Tryd.prog 13 #[.int .u64 (n : Int)] w fun e w' => e = .returned (.string ⟨(numL n).toArray⟩) ∧ Below w.heap.size w w' := by
  go_enter Tryd.func13, Tryd.ntmps13
  go_wp2
  go_loopw [0, 3, 4] (fun v s i wr => ∃ k q : Nat, ∃ D : List UInt8, k ≤ 8 ∧ Hid (n / 256 ^ k = q) ∧ Hid (D = (numL n).drop (8 - k)) ∧ D.length = k ∧ v = .int .u64 (q : Int) ∧ s = .string ⟨D.toArray⟩ ∧ i = .int .i64 (k : Int) ∧ Below w.heap.size w wr)
    (fun _ _ i _ => 8 - (intOf i).toNat)
  case atStart => exact ⟨0, n, [], by omega, Lib.hid (by simp), Lib.hid (by rw [List.drop_of_length_le (by rw [numL_length]; omega)]), rfl, rfl, rfl, rfl, Below.refl _ _⟩
  case round =>
    obtain ⟨k, q, D, hk, HQ, HD, hDl, rfl, rfl, rfl, hbe⟩ := hrel
    have hqn : q < 18446744073709551616 := by have := Nat.div_le_self n (256 ^ k); rw [HQ.out] at this; omega
    by_cases hlt : k < 8
    · have hz := hbe.size
      have hX : (q : Int) % (256 : Int) = ((UInt8.ofNat q).toNat : Int) := by rw [UInt8.toNat_ofNat']; omega
      have HP := Lib.hid (strAdd [UInt8.ofNat q] D)
      have HD2 := Lib.hid (show [UInt8.ofNat q] ++ D = (numL n).drop (8 - (k + 1)) by rw [HD.out, numL_drop n k q hlt HQ.out])
      have hconv := run_convert_bytes_back (P := Tryd.prog) (wr.alloc (.cells #[.int .u8 ((q : Int) % (256 : Int))] 5)) 37 9 5 ⟨wr.heap.size, 0, none⟩ 1 [UInt8.ofNat q] Tryd.underlying37 Tryd.underlying5 Tryd.underlying9 (oneByte wr _ _ hX)
      simp only [List.length_cons, List.length_nil, Nat.zero_add] at hconv
      clear hX
      go_wp2
      go_roundw
      case rel => exact ⟨k + 1, q / 256, [UInt8.ofNat q] ++ D, by omega, Lib.hid (by rw [Nat.pow_succ, ← Nat.div_div_eq_div_mul, HQ.out]), HD2, by simp; omega, by go_num, congrArg Value.string HP.out, by go_num, hbe.alloc hz _⟩
      case measure => simp [intOf]; omega
    · have ek : k = 8 := by omega
      go_wp2
      go_ret
      exact ⟨by rw [HD.out, ek]; rfl, hbe⟩

/-- the number that some bytes say -/
def numberL (l : List UInt8) : Nat := l.foldl (fun a b => a * 256 + b.toNat) 0
theorem numberL_snoc (S : List UInt8) (k : Nat) (h : k < S.length) : numberL (S.take (k + 1)) = numberL (S.take k) * 256 + S[k].toNat := by
  rw [numberL, List.take_succ_eq_append_getElem h, List.foldl_append]; rfl
theorem numberL_lt (S : List UInt8) : ∀ k, k ≤ S.length → numberL (S.take k) < 256 ^ k
  | 0, _ => by simp [numberL]
  | k + 1, h => by
    rw [numberL_snoc S k (by omega), Nat.pow_succ]
    have := numberL_lt S k (by omega)
    have := S[k].toNat_lt
    omega
theorem or_256 (a c : Nat) (ha : a < 72057594037927936) (hc : c < 256) : bits BinOp.or IntKind.u64 ((a : Int) * (256 : Int)) (c : Int) = ((a * 256 + c : Nat) : Int) := by
  have e : bits BinOp.or IntKind.u64 ((a : Int) * (256 : Int)) (c : Int) = IntKind.u64.wrap ((BitVec.ofInt 64 ((a : Int) * (256 : Int)) ||| BitVec.ofInt 64 (c : Int)).toNat : Int) := rfl
  have ea : ((a : Int) * (256 : Int)) = ((a * 256 : Nat) : Int) := by rw [Int.natCast_mul]; rfl
  rw [e, wrap_u64, ea, BitVec.ofInt_natCast, BitVec.ofInt_natCast, BitVec.toNat_or, BitVec.toNat_ofNat, BitVec.toNat_ofNat, Nat.mod_eq_of_lt (by omega), Nat.mod_eq_of_lt (by omega)]
  have h := Nat.shiftLeft_add_eq_or_of_lt (i := 8) (b := c) (by omega) a
  rw [Nat.shiftLeft_eq] at h
  rw [← h]
  omega

set_option maxRecDepth 100000 in
set_option maxHeartbeats 1000000 in
theorem number_any (S : List UInt8) (w : World) (hS : S.length ≤ 8) :
    Calls Tryd.prog 17 #[.string ⟨S.toArray⟩] w fun e w' => e = .returned (.int .u64 (numberL S : Int)) ∧ w = w' := by
  go_enter Tryd.func17, Tryd.ntmps17
  go_wp2
  go_loop [3, 4] (fun v i => ∃ k a : Nat, k ≤ S.length ∧ i = .int .i64 (k : Int) ∧ v = .int .u64 (a : Int) ∧ Hid (numberL (S.take k) = a)) (fun _ i => S.length - (intOf i).toNat)
  case atStart => exact ⟨0, 0, by omega, rfl, rfl, Lib.hid rfl⟩
  case round =>
    obtain ⟨k, a, hk, rfl, rfl, HA⟩ := hrel
    by_cases hlt : k < S.length
    · obtain ⟨c, hc⟩ : ∃ c, S[k].toNat = c := ⟨_, rfl⟩
      have c1 : c < 256 := by rw [← hc]; exact S[k].toNat_lt
      have ha : a < 72057594037927936 := by
        have h1 := numberL_lt S k (by omega)
        have h2 : (256 : Nat) ^ k ≤ 256 ^ 7 := Nat.pow_le_pow_right (by omega) (by omega)
        rw [HA.out] at h1
        have h3 : (256 : Nat) ^ 7 = 72057594037927936 := by decide
        omega
      have hx : ∀ w, (Instr.index 9 (.string ⟨S.toArray⟩) (.int .i64 (k : Int))).run Tryd.prog w = .ok (.int .u8 (c : Int)) w := by
        intro w
        rw [run_index_string w 9 _ _ _ Tryd.underlying9, dif_pos ⟨by omega, by show (k : Int) < (S.length : Int); omega⟩, ← hc]
        rfl
      have HO := Lib.hid (or_256 a c ha c1)
      have HS := Lib.hid (show numberL (S.take (k + 1)) = a * 256 + c by rw [numberL_snoc S k hlt, HA.out, hc])
      clear hc
      go_wp2
      go_round
      case rel => exact ⟨k + 1, a * 256 + c, by omega, by go_num, by rw [HO.out], HS⟩
      case measure => simp [intOf]; omega
    · have ek : k = S.length := by omega
      subst ek
      go_wp2
      go_ret
      exact ⟨by rw [← HA.out, List.take_of_length_le (Nat.le_refl _)]; rfl, rfl⟩
end Go.Proofs.YtmhmcfaalpcngaaDoor
