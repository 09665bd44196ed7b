/- The library's Len64 by the shelf; bits.Len, the depth; the sort of no more than twelve. -/
import Derived.Shelf.Small.Bits
import Derived.Shelf.Strconv.Itoa0
import Derived.Test.YtcobflhnphikaaaHh
namespace Go.Proofs
open Go.Shelf
def Try.lays129_ren : Go.Shelf.Ren := ⟨fun | 129 => 33 | n => n, fun | 53 => 22 | 3 => 3 | 4 => 4 | 46 => 40 | 5 => 5 | 9 => 9 | n => n, fun | n => n⟩
theorem Try.lays129 : Go.Proofs.Lays.n129 Try.prog Try.lays129_ren := {
  mixed := by kernel_rfl
  f129 := Try.func33.trans (congrArg some (by kernel_rfl))
  t3 := Try.underlying3
  a3 := Try.isAgg3
  z3 := Try.sizeOf3
  v3 := Try.zeroValue3
  t4 := Try.underlying4
  a4 := Try.isAgg4
  z4 := Try.sizeOf4
  v4 := Try.zeroValue4
  t5 := Try.underlying5
  a5 := Try.isAgg5
  z5 := Try.sizeOf5
  v5 := Try.zeroValue5
  t9 := Try.underlying9
  a9 := Try.isAgg9
  z9 := Try.sizeOf9
  v9 := Try.zeroValue9
  t46 := Try.underlying40
  a46 := Try.isAgg40
  z46 := Try.sizeOf40
  v46 := Try.zeroValue40
  t53 := Try.underlying22
  a53 := Try.isAgg22
  z53 := Try.sizeOf22
  v53 := Try.zeroValue22 }
theorem Try.bits_Len64 (x : Int) (w : World) (h0 : 0 ≤ x) (h1 : x ≤ 18446744073709551615) :
    Calls Try.prog 33 #[.int .u64 x] w fun e w' => e = .returned (.int .i64 (Lib.bitLen x.toNat)) ∧ w' = w := Any.bits_Len64 Try.lays129 x w h0 h1
end Go.Proofs
namespace Go.Proofs.Ytcobflhnphikaaa
open Go.RowKit Go.Sort

theorem len_any (x : Nat) (hx : x < 18446744073709551616) (w : World) : Calls Try.prog 22 #[.int .u64 (x : Int)] w fun e w' => e = .returned (.int .i64 (Lib.bitLen x : Int)) ∧ w = w' := by
  have HC := Lib.hid (Try.bits_Len64 (x : Int) w (by omega) (by omega))
  go_enter Try.func22, Try.ntmps22
  go_wp2_with (go_at_call 33; refine HC.out.mono ?_; rintro e w' ⟨rfl, rfl⟩)
  go_ret
  exact ⟨by simp, rfl⟩

/-- what the sort's own call answers is what that by insertion does, where there are no more than twelve -/
theorem pdq_of (ao : Option Addr) (n cap : Nat) (hn : n ≤ 12) (lim : Int) (w : World) (R : Ending → World → Prop) (hI : Calls Try.prog 43 #[.slice ao n cap, .int .i64 0, .int .i64 (n : Int)] w fun e w' => e = .returned (.tuple #[]) ∧ R e w') :
    Calls Try.prog 42 #[.slice ao n cap, .int .i64 0, .int .i64 (n : Int), .int .i64 lim] w R := by
  have HI := Lib.hid hI
  have h12 : (n : Int) ≤ 12 := by omega
  clear hI
  go_enter Try.func42, Try.ntmps42
  go_wp2
  refine wp_loop_rounds 1 ?_
  rw [rounds_succ]
  go_wp2_with (go_at_call 43; refine HI.out.mono ?_; rintro e w' ⟨rfl, hR⟩)
  go_end0
  exact hR
theorem sort_of (ao : Option Addr) (n cap : Nat) (hn : n ≤ 12) (w : World) (R : Ending → World → Prop) (hI : Calls Try.prog 43 #[.slice ao n cap, .int .i64 0, .int .i64 (n : Int)] w fun e w' => e = .returned (.tuple #[]) ∧ R e w') :
    Calls Try.prog 40 #[.slice ao n cap] w fun e w' => e = .returned (.tuple #[]) ∧ R e w' := by
  have HP := Lib.hid (pdq_of ao n cap hn (Lib.bitLen n : Int) w (fun e w' => e = .returned (.tuple #[]) ∧ R e w') (hI.mono fun e w' h => ⟨h.1, h⟩))
  have HL := Lib.hid (len_any n (by omega) w)
  have h12 : (n : Int) ≤ 12 := by omega
  clear hI
  go_enter Try.func40, Try.ntmps40
  go_wp2_with (first | (go_at_call 22; refine HL.out.mono ?_; rintro e w' ⟨rfl, rfl⟩) | (go_at_call 42; refine HP.out.mono ?_; rintro e w' ⟨rfl, hR⟩))
  go_end0
  exact ⟨rfl, hR⟩
end Go.Proofs.Ytcobflhnphikaaa
