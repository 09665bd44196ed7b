/- Layout: parents, what stands, turned bits, leaves, elements, the depth (what the tree asks). -/
import Derived.Test.YtjfhcckadibhgaaDoorHa
import Derived.Test.YtjfhcckadibhgaaDoorProg
import Derived.Lib.Hide
import Derived.Handy
import Derived.WalkKit
import Derived.Shelf.Small.Bits
import Derived.Shelf.Strconv.Itoa0
namespace Go.Proofs
open Go.Shelf
def Tryd.lays129_ren : Go.Shelf.Ren := ⟨fun | 129 => 45 | n => n, fun | 53 => 23 | 3 => 3 | 4 => 4 | 46 => 68 | 5 => 5 | 9 => 9 | n => n, fun | n => n⟩
theorem Tryd.lays129 : Go.Proofs.Lays.n129 Tryd.prog Tryd.lays129_ren := {
  mixed := by kernel_rfl
  f129 := Tryd.func45.trans (congrArg some (by kernel_rfl))
  t3 := Tryd.underlying3
  a3 := Tryd.isAgg3
  z3 := Tryd.sizeOf3
  v3 := Tryd.zeroValue3
  t4 := Tryd.underlying4
  a4 := Tryd.isAgg4
  z4 := Tryd.sizeOf4
  v4 := Tryd.zeroValue4
  t5 := Tryd.underlying5
  a5 := Tryd.isAgg5
  z5 := Tryd.sizeOf5
  v5 := Tryd.zeroValue5
  t9 := Tryd.underlying9
  a9 := Tryd.isAgg9
  z9 := Tryd.sizeOf9
  v9 := Tryd.zeroValue9
  t46 := Tryd.underlying68
  a46 := Tryd.isAgg68
  z46 := Tryd.sizeOf68
  v46 := Tryd.zeroValue68
  t53 := Tryd.underlying23
  a53 := Tryd.isAgg23
  z53 := Tryd.sizeOf23
  v53 := Tryd.zeroValue23 }
theorem Tryd.bits_Len64 (x : Int) (w : World) (h0 : 0 ≤ x) (h1 : x ≤ 18446744073709551615) :
    Calls Tryd.prog 45 #[.int .u64 x] w fun e w' => e = .returned (.int .i64 (Lib.bitLen x.toNat)) ∧ w' = w := Any.bits_Len64 Tryd.lays129 x w h0 h1
end Go.Proofs
namespace Go.Proofs.YtjfhcckadibhgaaDoor
open Go.RowKit

theorem parent_any (k : Nat) (hk : k < 18446744073709551616) (w : World) : Calls Tryd.prog 25 #[.int .u64 (k : Int)] w fun e w' => e = .returned (.int .u64 ((k / 2 : Nat) : Int)) ∧ w = w' := by
  go_enter Tryd.func25, Tryd.ntmps25
  go_wp2
  go_ret
  refine ⟨?_, rfl⟩
  congr 2
/-- does a number stand on the lowest level of this depth? -/
def standsB (k : Nat) (d : Int) : Bool := decide (0 ≤ d) && (decide (d ≤ 16) && decide (k < 2 ^ d.toNat))
theorem stands_any (k : Nat) (d : Int) (w : World) : Calls Tryd.prog 56 #[.int .u64 (k : Int), .int .i64 d] w fun e w' => e = .returned (.bool (standsB k d)) ∧ w = w' := by
  by_cases h0 : 0 ≤ d
  · by_cases h1 : d ≤ 16
    · obtain ⟨n, rfl⟩ : ∃ n : Nat, d = (n : Int) := ⟨d.toNat, by omega⟩
      have hp : 2 ^ n ≤ 2 ^ 16 := Nat.pow_le_pow_right (by decide) (by omega)
      have hc : ((2 : Int) ^ n) = ((2 ^ n : Nat) : Int) := by simp
      have hP : standsB k (n : Int) = decide ((k : Int) < (2 : Int) ^ n) := by
        have : ((k : Int) < ((2 ^ n : Nat) : Int)) ↔ k < 2 ^ n := Int.ofNat_lt
        rw [hc]
        simp only [this]
        simp [standsB, h1]
      have hw : IntKind.u64.wrap ((2 : Int) ^ n) = (2 : Int) ^ n := by
        rw [IntKind.wrap_u64, hc]
        generalize 2 ^ n = p at hp ⊢
        omega
      rw [hP]
      clear hc hP hp
      go_enter Tryd.func56, Tryd.ntmps56
      go_wp2
      go_ret
      exact ⟨rfl, rfl⟩
    · have hP : standsB k d = false := by simp [standsB, h1]
      rw [hP]
      go_enter Tryd.func56, Tryd.ntmps56
      go_wp2
      go_ret
      exact ⟨rfl, rfl⟩
  · have hP : standsB k d = false := by simp [standsB, h0]
    rw [hP]
    go_enter Tryd.func56, Tryd.ntmps56
    go_wp2
    go_ret
    exact ⟨rfl, rfl⟩

theorem swap_val (s m : Nat) (c : Int) (hm : m < 18446744073709551616) (hc : c = ((2 ^ s : Nat) : Int)) (x : Nat) (hx : x < 18446744073709551616) :
    bits .or .u64 (bits .and .u64 ((x : Int) / c) (m : Int)) (IntKind.u64.wrap (bits .and .u64 (x : Int) (m : Int) * c)) = ((swap s m x : Nat) : Int) := by
  have h0 : x / 2 ^ s < 18446744073709551616 := Nat.lt_of_le_of_lt (Nat.div_le_self _ _) hx
  subst hc
  rw [← Int.natCast_ediv, u64_and_nat _ _ h0 hm, u64_and_nat _ _ hx hm, IntKind.wrap_u64, ← Int.natCast_mul, show (18446744073709551616 : Int) = ((18446744073709551616 : Nat) : Int) from rfl, ← Int.natCast_emod,
    u64_or_nat _ _ (Nat.lt_of_le_of_lt Nat.and_le_right hm) (Nat.mod_lt _ (by decide))]
  rfl
theorem swap_top (x : Nat) (hx : x < 18446744073709551616) : bits .or .u64 ((x : Int) / 4294967296) (IntKind.u64.wrap ((x : Int) * 4294967296)) = ((swap 32 4294967295 x : Nat) : Int) := by
  have h0 : x / 4294967296 < 18446744073709551616 := Nat.lt_of_le_of_lt (Nat.div_le_self _ _) hx
  rw [show (4294967296 : Int) = ((4294967296 : Nat) : Int) from rfl, ← Int.natCast_ediv, IntKind.wrap_u64, ← Int.natCast_mul, show (18446744073709551616 : Int) = ((18446744073709551616 : Nat) : Int) from rfl, ← Int.natCast_emod,
    u64_or_nat _ _ h0 (Nat.mod_lt _ (by decide))]
  congr 1
  rw [swap, show (4294967295 : Nat) = 2 ^ 32 - 1 from rfl, Nat.and_two_pow_sub_one_eq_mod, Nat.and_two_pow_sub_one_eq_mod, show (2 : Nat) ^ 32 = 4294967296 from rfl]
  have e1 : x / 4294967296 % 4294967296 = x / 4294967296 := by omega
  have e2 : x % 4294967296 * 4294967296 % 18446744073709551616 = x * 4294967296 % 18446744073709551616 := by omega
  rw [e1, e2]
theorem revB_any (x : Nat) (hx : x < 18446744073709551616) (w : World) : Calls Tryd.prog 68 #[.int .u64 (x : Int)] w fun e w' => e = .returned (.int .u64 ((swap 32 4294967295 (swap 16 281470681808895 (swap 8 71777214294589695 x)) : Nat) : Int)) ∧ w = w' := by
  have h8 := swap_val 8 71777214294589695 256 (by decide) rfl x hx
  have h16 := swap_val 16 281470681808895 65536 (by decide) rfl (swap 8 71777214294589695 x) (swap_lt (by decide))
  have h32 := swap_top (swap 16 281470681808895 (swap 8 71777214294589695 x)) (swap_lt (by decide))
  have H8 := Lib.hid h8
  have H16 := Lib.hid h16
  have H32 := Lib.hid h32
  clear h8 h16 h32
  go_enter Tryd.func68, Tryd.ntmps68
  go_wp2
  go_ret
  refine ⟨?_, rfl⟩
  have e8 := H8.out
  have e16 := H16.out
  have e32 := H32.out
  rw [← e32, ← e16, ← e8]
  rfl
theorem rev_any (x : Nat) (hx : x < 18446744073709551616) (w : World) : Calls Tryd.prog 57 #[.int .u64 (x : Int)] w fun e w' => e = .returned (.int .u64 ((flip64 x : Nat) : Int)) ∧ w = w' := by
  have H1 := Lib.hid (swap_val 1 6148914691236517205 2 (by decide) rfl x hx)
  obtain ⟨x1, hx1⟩ : ∃ x1, swap 1 6148914691236517205 x = x1 := ⟨_, rfl⟩
  have l1 : x1 < 18446744073709551616 := by rw [← hx1]; exact swap_lt (by decide)
  have H2 := Lib.hid (swap_val 2 3689348814741910323 4 (by decide) rfl x1 l1)
  obtain ⟨x2, hx2⟩ : ∃ x2, swap 2 3689348814741910323 x1 = x2 := ⟨_, rfl⟩
  have l2 : x2 < 18446744073709551616 := by rw [← hx2]; exact swap_lt (by decide)
  have H4 := Lib.hid (swap_val 4 1085102592571150095 16 (by decide) rfl x2 l2)
  obtain ⟨x4, hx4⟩ : ∃ x4, swap 4 1085102592571150095 x2 = x4 := ⟨_, rfl⟩
  have l4 : x4 < 18446744073709551616 := by rw [← hx4]; exact swap_lt (by decide)
  have hf : flip64 x = swap 32 4294967295 (swap 16 281470681808895 (swap 8 71777214294589695 x4)) := by rw [flip64, hx1, hx2, hx4]
  rw [hf]
  rw [hx1] at H1
  rw [hx2] at H2
  rw [hx4] at H4
  have HC := Lib.hid (show ∀ (z : Int) (w : World), z = (x4 : Int) → Calls Tryd.prog 68 #[.int .u64 z] w fun e w' => e = .returned (.int .u64 ((swap 32 4294967295 (swap 16 281470681808895 (swap 8 71777214294589695 x4)) : Nat) : Int)) ∧ w = w' from fun z w hz => by rw [hz]; exact revB_any x4 l4 w)
  clear hf hx1 hx2 hx4
  go_enter Tryd.func57, Tryd.ntmps57
  go_wp2_with (go_at_call 68; refine (HC.out _ _ (by rw [← H4.out, ← H2.out, ← H1.out]; rfl)).mono ?_; rintro e w' ⟨rfl, rfl⟩)
  go_ret
  exact ⟨rfl, rfl⟩
theorem shr_val (d : Nat) (hd : d ≤ 16) (k : Nat) : ((flip64 k : Nat) : Int) / (2 : Int) ^ (64 - d) = ((turn d 0 k : Nat) : Int) := by
  rw [← flip_turn (by omega), Int.natCast_ediv]
  simp
/-- a number turned by d bits, if it stands -/
def turnB (k : Nat) (d : Int) : Nat := if standsB k d = true then turn d.toNat 0 k else 0
theorem yturned_any (k : Nat) (hk : k < 18446744073709551616) (d : Int) (w : World) : Calls Tryd.prog 39 #[.int .u64 (k : Int), .int .i64 d] w fun e w' => e = .returned (.int .u64 (turnB k d : Int)) ∧ w = w' := by
  have HS := Lib.hid (stands_any k d w)
  have HR := Lib.hid (rev_any k hk w)
  by_cases hs : standsB k d = true
  · have hd : 0 ≤ d ∧ d ≤ 16 := by simp [standsB] at hs; omega
    obtain ⟨n, rfl⟩ : ∃ n : Nat, d = (n : Int) := ⟨d.toNat, by omega⟩
    have HV := Lib.hid (shr_val n (by omega) k)
    have hT : turnB k (n : Int) = turn n 0 k := by simp [turnB, hs]
    rw [hT]
    rw [hs] at HS
    clear hT hs
    have hlt := flip64_lt k
    generalize flip64 k = f at *
    go_enter Tryd.func39, Tryd.ntmps39
    go_wp2_with (first | (go_at_call 56; refine HS.out.mono ?_; rintro e w' ⟨rfl, rfl⟩) | (go_at_call 57; refine HR.out.mono ?_; rintro e w' ⟨rfl, rfl⟩))
    go_ret
    exact ⟨by rw [← HV.out]; rfl, rfl⟩
  · have hT : turnB k d = 0 := by simp [turnB, hs]
    rw [Bool.not_eq_true] at hs
    rw [hT]
    rw [hs] at HS
    clear hT hs
    go_enter Tryd.func39, Tryd.ntmps39
    go_wp2_with (first | (go_at_call 56; refine HS.out.mono ?_; rintro e w' ⟨rfl, rfl⟩))
    go_ret
    exact ⟨rfl, rfl⟩
theorem leaf_any (k : Nat) (hk : k < 18446744073709551616) (d : Int) (w : World) : Calls Tryd.prog 24 #[.int .u64 (k : Int), .int .i64 d] w fun e w' => e = .returned (.int .u64 (turnB k d : Int)) ∧ w = w' := by
  have HC := Lib.hid (yturned_any k hk d w)
  go_enter Tryd.func24, Tryd.ntmps24
  go_wp2_with (go_at_call 39; refine HC.out.mono ?_; rintro e w' ⟨rfl, rfl⟩)
  go_ret
  exact ⟨rfl, rfl⟩
theorem element_any (k : Nat) (hk : k < 18446744073709551616) (d : Int) (w : World) : Calls Tryd.prog 23 #[.int .u64 (k : Int), .int .i64 d] w fun e w' => e = .returned (.int .u64 (turnB k d : Int)) ∧ w = w' := by
  have HC := Lib.hid (yturned_any k hk d w)
  go_enter Tryd.func23, Tryd.ntmps23
  go_wp2_with (go_at_call 39; refine HC.out.mono ?_; rintro e w' ⟨rfl, rfl⟩)
  go_ret
  exact ⟨rfl, rfl⟩

theorem ylen_any (x : Nat) (hx : x < 18446744073709551616) (w : World) : Calls Tryd.prog 36 #[.int .u64 (x : Int)] w fun e w' => e = .returned (.int .i64 (Lib.bitLen x : Int)) ∧ w = w' := by
  have HC := Lib.hid (Tryd.bits_Len64 (x : Int) w (by omega) (by omega))
  go_enter Tryd.func36, Tryd.ntmps36
  go_wp2_with (go_at_call 45; refine HC.out.mono ?_; rintro e w' ⟨rfl, rfl⟩)
  go_ret
  exact ⟨by simp, rfl⟩

/-- the depth of a list of n -/
def dep (n : Nat) : Nat := Lib.bitLen (max n 1 - 1)
def depthV (n : Int) : Int := if n < 0 ∨ 65536 < n then -1 else (dep n.toNat : Int)
theorem depth_any (n : Int) (hn : -9223372036854775808 ≤ n ∧ n ≤ 9223372036854775807) (w : World) : Calls Tryd.prog 21 #[.int .i64 n] w fun e w' => e = .returned (.int .i64 (depthV n)) ∧ w = w' := by
  by_cases h1 : n < 0
  · have hd : depthV n = -1 := if_pos (.inl h1)
    rw [hd]
    clear hd
    go_enter Tryd.func21, Tryd.ntmps21
    go_wp2
    go_ret
    exact ⟨rfl, rfl⟩
  · by_cases h2 : 65536 < n
    · have hd : depthV n = -1 := if_pos (.inr h2)
      rw [hd]
      clear hd
      go_enter Tryd.func21, Tryd.ntmps21
      go_wp2
      go_ret
      exact ⟨rfl, rfl⟩
    · obtain ⟨m, rfl⟩ : ∃ m : Nat, n = (m : Int) := ⟨n.toNat, by omega⟩
      have hd : depthV (m : Int) = (dep m : Int) := by rw [depthV, if_neg (by omega)]; rfl
      obtain ⟨x, hx⟩ : ∃ x, max m 1 - 1 = x := ⟨_, rfl⟩
      have HC := Lib.hid (ylen_any x (by omega) w)
      rw [hd, dep, hx]
      have hmax : max (m : Int) 1 - 1 = (x : Int) := by omega
      clear hd hx
      generalize Lib.bitLen x = y at *
      go_enter Tryd.func21, Tryd.ntmps21
      go_wp2_with (go_at_call 36; refine HC.out.mono ?_; rintro e w2 ⟨rfl, rfl⟩)
      go_ret
      exact ⟨rfl, rfl⟩
end Go.Proofs.YtjfhcckadibhgaaDoor
