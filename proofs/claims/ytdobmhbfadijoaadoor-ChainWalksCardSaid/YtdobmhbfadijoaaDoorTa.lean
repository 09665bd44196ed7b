/- The rotation of a 32-bit word, and the closure that folds several of them, answer what the words say, in every world. -/
import Derived.Test.YtdobmhbfadijoaaDoorProg
import Derived.WalkKit
import Derived.WalkSpells
import Derived.WalkLawsBesides
import Derived.Lib.Hide
namespace Go.Proofs.YtdobmhbfadijoaaDoor
open Go.RowKit

theorem wrap_u32 (n : Int) : IntKind.u32.wrap n = n % 4294967296 := by
  simp [IntKind.wrap, IntKind.bits, IntKind.signed]
theorem wrap_u64 (n : Int) : IntKind.u64.wrap n = n % 18446744073709551616 := by
  simp [IntKind.wrap, IntKind.bits, IntKind.signed]
theorem wrap_u8 (n : Int) : IntKind.u8.wrap n = n % 256 := by
  simp [IntKind.wrap, IntKind.bits, IntKind.signed]

theorem and31 (k : Nat) (k1 : 1 ≤ k) (k2 : k < 32) : bits BinOp.and IntKind.u64 (IntKind.u64.wrap (-(k:Int))) 31 = 32 - k := by
  have : k ∈ List.range 32 := by simp; omega
  revert k1
  revert k
  decide +kernel

/-- a word's number -/
def tn (x : BitVec 32) : Int := (x.toNat : Int)
theorem tn_nonneg (x : BitVec 32) : 0 ≤ tn x := Int.natCast_nonneg _
theorem tn_lt (x : BitVec 32) : tn x < 4294967296 := by have := x.isLt; unfold tn; omega

theorem bits_or_u32 (x y : BitVec 32) : bits .or .u32 (tn x) (tn y) = tn (x ||| y) := by
  have h := (x ||| y).isLt
  have e : bits .or .u32 (tn x) (tn y) = IntKind.u32.wrap ((BitVec.ofInt 32 (x.toNat : Int) ||| BitVec.ofInt 32 (y.toNat : Int)).toNat : Int) := rfl
  rw [e, wrap_u32, BitVec.ofInt_natCast, BitVec.ofInt_natCast, BitVec.ofNat_toNat, BitVec.ofNat_toNat, BitVec.setWidth_eq, BitVec.setWidth_eq]
  unfold tn
  omega
theorem bits_and_u32 (x y : BitVec 32) : bits .and .u32 (tn x) (tn y) = tn (x &&& y) := by
  have h := (x &&& y).isLt
  have e : bits .and .u32 (tn x) (tn y) = IntKind.u32.wrap ((BitVec.ofInt 32 (x.toNat : Int) &&& BitVec.ofInt 32 (y.toNat : Int)).toNat : Int) := rfl
  rw [e, wrap_u32, BitVec.ofInt_natCast, BitVec.ofInt_natCast, BitVec.ofNat_toNat, BitVec.ofNat_toNat, BitVec.setWidth_eq, BitVec.setWidth_eq]
  unfold tn
  omega
theorem bits_xor_u32 (x y : BitVec 32) : bits .xor .u32 (tn x) (tn y) = tn (x ^^^ y) := by
  have h := (x ^^^ y).isLt
  have e : bits .xor .u32 (tn x) (tn y) = IntKind.u32.wrap ((BitVec.ofInt 32 (x.toNat : Int) ^^^ BitVec.ofInt 32 (y.toNat : Int)).toNat : Int) := rfl
  rw [e, wrap_u32, BitVec.ofInt_natCast, BitVec.ofInt_natCast, BitVec.ofNat_toNat, BitVec.ofNat_toNat, BitVec.setWidth_eq, BitVec.setWidth_eq]
  unfold tn
  omega
theorem add_u32 (x y : BitVec 32) : (tn x + tn y) % (4294967296 : Int) = tn (x + y) := by
  unfold tn
  rw [BitVec.toNat_add]; omega
theorem shl_u32 (x : BitVec 32) (m : Nat) : tn x * (2 : Int) ^ m % (4294967296 : Int) = tn (x <<< m) := by
  unfold tn
  rw [BitVec.toNat_shiftLeft, Nat.shiftLeft_eq, Int.natCast_emod, Int.natCast_mul, Int.natCast_pow]
  rfl
theorem shr_u32 (x : BitVec 32) (m : Nat) : tn x / (2 : Int) ^ m = tn (x >>> m) := by
  unfold tn
  rw [BitVec.toNat_ushiftRight, Nat.shiftRight_eq_div_pow, Int.natCast_ediv, Int.natCast_pow]
  rfl
theorem rot_eq (x : BitVec 32) (k : Nat) (k1 : 1 ≤ k) (k2 : k < 32) :
    bits BinOp.or IntKind.u32 (tn x * 2 ^ (32 - k) % 4294967296) (tn x / 2 ^ (32 - (32 - k))) = tn (x.rotateRight k) := by
  rw [shl_u32, shr_u32, bits_or_u32, show 32 - (32 - k) = k from by omega, BitVec.or_comm]
  rw [BitVec.rotateRight, Nat.mod_eq_of_lt k2]
  rfl

set_option maxHeartbeats 400000 in
theorem rot_any (x : BitVec 32) (k : Nat) (w : World) (k1 : 1 ≤ k) (k2 : k < 32) :
    Calls Tryd.prog 50 #[.int .u32 (tn x), .int .i64 (-(k:Int))] w fun e w' => e = .returned (.int .u32 (tn (x.rotateRight k))) ∧ w = w' := by
  have h1 := and31 k k1 k2
  go_enter Tryd.func50, Tryd.ntmps50
  go_wp2
  go_ret
  exact ⟨congrArg Ending.returned (congrArg (Value.int IntKind.u32) (rot_eq x k k1 k2)), rfl⟩

/-- the rotations of a word, over some places -/
def turnedBy (x : BitVec 32) (ps : List Nat) : BitVec 32 := ps.foldl (fun acc n => acc ^^^ x.rotateRight n) 0

theorem turnedBy_snoc (x : BitVec 32) (ps : List Nat) (k : Nat) (h : k < ps.length) : turnedBy x (ps.take (k + 1)) = turnedBy x (ps.take k) ^^^ x.rotateRight ps[k] := by
  rw [turnedBy, List.take_succ_eq_append_getElem h, List.foldl_append]; rfl

set_option maxHeartbeats 400000 in
theorem turned_any (x : BitVec 32) (ps : List Nat) (b n : Nat) (w : World) (hn : ps.length = n) (hl : n < 1000) (hp : ∀ (i : Nat) (h : i < ps.length), 1 ≤ ps[i] ∧ ps[i] < 32)
    (hc : ∀ (i : Nat) (h : i < ps.length), w.cell? ⟨b, i, none⟩ = some (.int .i64 ps[i])) :
    Calls Tryd.prog 49 #[.int .u32 (tn x), .slice (some ⟨b, 0, none⟩) n n] w fun e w' => e = .returned (.int .u32 (tn (turnedBy x ps))) ∧ w = w' := by
  subst hn
  have HC := Lib.hid hc
  have HP := Lib.hid hp
  clear hc hp
  go_enter Tryd.func49, Tryd.ntmps49
  go_wp2
  go_loop [5, 7, 10] (fun all n i => ∃ k : Nat, k ≤ ps.length ∧ i = .int .i64 k ∧ all = .int .u32 (tn (turnedBy x (ps.take k)))) (fun _ _ i => ps.length - (intOf i).toNat)
  case atStart => exact ⟨0, Nat.zero_le _, rfl, rfl⟩
  case round =>
    obtain ⟨k, hk, rfl, rfl⟩ := hrel
    by_cases hlt : k < ps.length
    · have hcell := HC.out k hlt
      have hpk := HP.out k hlt
      have HS := Lib.hid (turnedBy_snoc x ps k hlt)
      go_wp2_with (go_at_call 50; refine (rot_any _ _ _ hpk.1 hpk.2).mono ?_; rintro e w' ⟨rfl, rfl⟩)
      go_round
      case rel => exact ⟨k + 1, by omega, by go_num, by rw [HS.out, ← bits_xor_u32]⟩
      case measure => simp [intOf]; omega
    · go_wp2
      go_ret
      exact ⟨by rw [List.take_of_length_le (by omega)]; rfl, rfl⟩
end Go.Proofs.YtdobmhbfadijoaaDoor
