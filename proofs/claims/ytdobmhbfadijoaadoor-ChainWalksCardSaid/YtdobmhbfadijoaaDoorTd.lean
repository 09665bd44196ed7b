/- The padding is one byte 128, the noughts and the eight bytes of the count, for sizes below ten to the twelfth. -/
import Derived.Test.YtdobmhbfadijoaaDoorTb
namespace Go.Proofs.YtdobmhbfadijoaaDoor
open Go.RowKit

theorem Tryd.info5 : (Tryd.prog.info? 5).map (fun i => (i.zero, i.size, i.bytes)) = some (some (.int .u8 0), 1, 1) := by kernel_rfl

/-- bytes as cells -/
def cellsOf (l : List UInt8) : List Value := l.map fun b => .int .u8 (b.toNat : Int)
theorem cellsOf_length (l : List UInt8) : (cellsOf l).length = l.length := by simp [cellsOf]
theorem cellsOf_append (a b : List UInt8) : cellsOf (a ++ b) = cellsOf a ++ cellsOf b := by simp [cellsOf]
theorem cellsOf_get (l : List UInt8) (j : Nat) (h : j < l.length) : (cellsOf l)[j]? = some (.int .u8 (l[j].toNat : Int)) := by simp [cellsOf, h]
/-- how many noughts -/
def noughts (n : Nat) : Nat := (119 - n % 64) % 64
/-- the last k of a number's eight bytes that come first -/
def be64To (v k : Nat) : List UInt8 := (List.range k).map fun j => UInt8.ofNat (v / 2 ^ (56 - 8 * j))
def padL (n : Nat) : List UInt8 := 128 :: List.replicate (noughts n) 0 ++ be64To (8 * n) 8

/-- what stands behind, as far as it is laid -/
def padTo (n m k : Nat) : List UInt8 := 128 :: List.replicate m 0 ++ be64To (8 * n) k

theorem be64To_succ (v k : Nat) : be64To v (k + 1) = be64To v k ++ [UInt8.ofNat (v / 2 ^ (56 - 8 * k))] := by
  simp [be64To, List.range_succ]

theorem made_pad (w : World) (m : Nat) (C : Array Value) (hmx : m + 9 ≤ maxLen) (hC : C = madeCells #[.int .u8 0] (m + 9)) : (w.alloc (.cells (C.setIfInBounds 0 (.int .u8 128)) 5)).ownsRow w.heap.size 5 1 (.slice (some ⟨w.heap.size, 0, none⟩) (m + 1) (m + 9)) (m + 1) (cellsOf (128 :: List.replicate m 0)) := by
  subst hC
  refine ⟨by simp [cellsOf], .inr ⟨_, _, _, rfl, Nat.le_refl _, heap_alloc_new w _, by omega, hmx, by simp [size_madeCells], ?_⟩⟩
  rw [Array.toList_setIfInBounds, toList_madeCells_one, show m + 9 = (m + 8) + 1 by omega, List.replicate_succ, List.set_cons_zero, Nat.mul_one, List.take_succ_cons, List.take_replicate, Nat.min_eq_left (by omega)]
  simp [cellsOf]

theorem byte_eq (n k : Nat) : ((n : Int) * (8 : Int) / (2 : Int) ^ (56 - 8 * k) % (256 : Int)) = ((UInt8.ofNat (8 * n / 2 ^ (56 - 8 * k))).toNat : Int) := by
  have e : (2 : Int) ^ (56 - 8 * k) = ((2 ^ (56 - 8 * k) : Nat) : Int) := by rw [Int.natCast_pow]; rfl
  rw [e, UInt8.toNat_ofNat', Nat.mul_comm 8 n]
  generalize 2 ^ (56 - 8 * k) = p
  show _ = ((n * 8 / p % 256 : Nat) : Int)
  rw [Int.natCast_emod, Int.natCast_ediv, Int.natCast_mul]
  rfl

theorem padTo_succ (n m k : Nat) : cellsOf (padTo n m k) ++ [.int .u8 ((n : Int) * (8 : Int) / (2 : Int) ^ (56 - 8 * k) % (256 : Int))] = cellsOf (padTo n m (k + 1)) := by
  rw [byte_eq, padTo, padTo, be64To_succ, ← List.append_assoc, cellsOf_append (128 :: List.replicate m 0 ++ be64To (8 * n) k)]; rfl

theorem owned_bytes {w : World} {base g n cap : Nat} {l l' : List UInt8} (h : w.ownsRow base 5 1 (.slice (some ⟨g, 0, none⟩) n cap) n (cellsOf l')) (e : l' = l) :
    ∀ j (hj : j < l.length), w.cell? ((⟨g, 0, none⟩ : Addr).add j) = some (.int .u8 (l[j].toNat : Int)) := by
  subst e
  intro j hj
  have hn := h.1
  rw [cellsOf_length] at hn
  have := h.cellAt j (by omega)
  rw [Addr.add_mid, Nat.zero_add, this, cellsOf_get]

set_option maxRecDepth 100000 in
set_option maxHeartbeats 1000000 in
theorem padding_any (n : Nat) (w : World) (hn : n < 1000000000000) :
    Calls Tryd.prog 43 #[.int .u64 (n : Int)] w fun e w' => e = .returned (.string ⟨(padL n).toArray⟩) ∧ Below w.heap.size w w' := by
  obtain ⟨i0, hi, hz0, hz1, hz2⟩ := info_parts Tryd.info5
  obtain ⟨m, hm, hm2⟩ : ∃ m : Nat, (119 - (n : Int) % 64) % 64 = (m : Int) ∧ noughts n = m := ⟨noughts n, by unfold noughts; omega, rfl⟩
  have hmb : m < 64 := by unfold noughts at hm2; omega
  obtain ⟨C, hC⟩ : ∃ C, C = madeCells #[.int .u8 0] (m + 9) := ⟨_, rfl⟩
  have hmk : ∀ w, (Instr.makeSlice 31 (.int .u64 (1 + (m:Int))) (.int .u64 (1 + (m:Int) + 8))).run Tryd.prog w = .ok (.slice (some ⟨w.heap.size, 0, none⟩) (m + 1) (m + 9)) (w.alloc (.cells C 5)) := by
    intro w
    have h := run_make (P := Tryd.prog) w 31 5 i0 (.int .u8 0) Tryd.underlying31 hi hz0 .u64 .u64 (1 + (m:Int)) (1 + (m:Int) + 8) (by omega) (by omega) (by rw [hz2]; omega) (by omega)
    rw [show (1 + (m:Int)).toNat = m + 1 by omega, show (1 + (m:Int) + 8).toNat = m + 9 by omega, hz1, Nat.mul_one] at h
    rw [hC]
    exact h
  have hC0 : C[0]? = some (.int .u8 0) := by rw [hC]; simp [madeCells]
  have Hm2 := Lib.hid hm2
  have HC := Lib.hid hC
  clear hm2 hC
  go_enter Tryd.func43, Tryd.ntmps43
  go_wp2
  clear hm
  generalize (119 - (n : Int) % 64) % 64 = q9
  generalize 119 - (n : Int) % 64 = q8
  go_loopw [4, 5] (fun v i wr => ∃ k : Nat, k ≤ 8 ∧ i = .int .i64 (56 - 8 * (k : Int)) ∧ v = .slice (some ⟨w.heap.size, 0, none⟩) (m + 1 + k) (m + 9) ∧
      wr.ownsRow w.heap.size 5 1 (.slice (some ⟨w.heap.size, 0, none⟩) (m + 1 + k) (m + 9)) (m + 1 + k) (cellsOf (padTo n m k)) ∧ Below w.heap.size w wr)
    (fun _ i _ => (8 + intOf i).toNat)
  case atStart =>
    exact ⟨0, by omega, by go_num, rfl, by simpa [padTo, be64To] using made_pad w m C (by unfold maxLen; omega) HC.out, (Below.refl _ _).alloc (Nat.le_refl _) _⟩
  case round =>
    obtain ⟨k, hk, rfl, rfl, hown, hbe⟩ := hrel
    by_cases hlt : k < 8
    · have hnb : (0:Int) ≤ n := by omega
      have hz := hbe.size
      have HO := Lib.hid (padTo_succ n m k)
      go_wp2_with (at_builtin; refine wpList_append_fits _ rfl (.tmp 22) (.tmp 28) 31 rfl w.heap.size 5 i0 1 Tryd.underlying31 hi hz1 w.heap.size (m + 1 + k) (m + 9) _ rfl (hown.alloc _) ⟨wr.heap.size, 0, none⟩ 1 1 [.int .u8 ((n : Int) * (8 : Int) / (2 : Int) ^ (56 - 8 * k) % (256 : Int))] rfl rfl (cell_one_new _ _ _) (by simp [Value.oneCell']) (by omega) ?_)
      intro w1 hown1 hgrow
      rw [HO.out] at hown1
      clear hown
      go_wp2
      go_roundw
      case rel => exact ⟨k + 1, by omega, by go_num, rfl, hown1, (hbe.alloc hz _).grown hgrow (by simp; omega) (fun k' e => by cases e; exact Nat.le_refl _)⟩
      case measure => simp [intOf]; omega
    · have ek : Hid (k = 8) := Lib.hid (by omega)
      have hpl : padTo n m k = padL n := by rw [ek.out, ← Hm2.out]; rfl
      have hcv : ∀ j (hj : j < (padL n).length), wr.cell? ((⟨w.heap.size, 0, none⟩ : Addr).add j) = some (.int .u8 ((padL n)[j].toNat : Int)) := owned_bytes hown hpl
      have hlen : Hid ((padL n).length = m + 1 + k) := Lib.hid (by have := hown.1; rw [hpl, cellsOf_length] at this; omega)
      clear hpl
      have hconv := run_convert_bytes_back wr 31 9 5 ⟨w.heap.size, 0, none⟩ (m + 9) (padL n) Tryd.underlying31 Tryd.underlying5 Tryd.underlying9 hcv
      rw [hlen.out] at hconv
      clear hcv
      go_wp2
      go_ret
      exact ⟨rfl, hbe⟩
end Go.Proofs.YtdobmhbfadijoaaDoor
