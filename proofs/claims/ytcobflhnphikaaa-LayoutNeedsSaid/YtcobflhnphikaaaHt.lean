/- Depths, leaves, elements, siblings and parents: the first statement. -/
import Derived.Test.YtcobflhnphikaaaHs
namespace Go.Proofs.Ytcobflhnphikaaa
open Go.RowKit Go.Sort

set_option maxRecDepth 100000 in
set_option maxHeartbeats 2000000 in
theorem places_any (n : Int) (hn : -9223372036854775808 ≤ n ∧ n ≤ 9223372036854775807) (k : Nat) (hk : k < 18446744073709551616) (d : Int) (w : World) :
    Calls Try.prog 3 #[.int .i64 n, .int .u64 (k : Int), .int .i64 d] w fun e w' => e = .returned (.bool true) ∧ Below w.heap.size w w' := by
  have H1 := Lib.hid (depth_any n hn w)
  have H2 := Lib.hid (refDepth_any n w)
  have H3 := Lib.hid (leaf_any k hk d w)
  have H4 := Lib.hid (refLeaf_any k d w)
  have H5 := Lib.hid (element_any k hk d w)
  have H6 := Lib.hid (refElement_any k d w)
  have H7 := Lib.hid (sibling_any k hk w)
  have H8 := Lib.hid (refSib_any k hk w)
  have H9 := Lib.hid (parent_any k hk w)
  have HW := Lib.hid (works_any w)
  have e1 : ((depthV n) == (depthV n)) = true := by simp
  have e2 : (((turnB k d : Nat) : Int) == ((turnB k d : Nat) : Int)) = true := by simp
  have e3 : (((sib k : Nat) : Int) == ((sib k : Nat) : Int)) = true := by simp
  have hp : (k : Int) / 2 = ((k / 2 : Nat) : Int) := by omega
  have e4 : (((k / 2 : Nat) : Int) == ((k / 2 : Nat) : Int)) = true := by simp
  generalize depthV n = D at *
  generalize turnB k d = T at *
  generalize sib k = S at *
  generalize k / 2 = Q at *
  go_enter Try.func3, Try.ntmps3
  go_wp2_with (first
    | (go_at_call 8; refine H1.out.mono ?_; rintro e w2 ⟨rfl, rfl⟩)
    | (go_at_call 9; refine H2.out.mono ?_; rintro e w2 ⟨rfl, rfl⟩)
    | (go_at_call 10; refine H3.out.mono ?_; rintro e w2 ⟨rfl, rfl⟩)
    | (go_at_call 11; refine H4.out.mono ?_; rintro e w2 ⟨rfl, rfl⟩)
    | (go_at_call 12; refine H5.out.mono ?_; rintro e w2 ⟨rfl, rfl⟩)
    | (go_at_call 13; refine H6.out.mono ?_; rintro e w2 ⟨rfl, rfl⟩)
    | (go_at_call 14; refine H7.out.mono ?_; rintro e w2 ⟨rfl, rfl⟩)
    | (go_at_call 15; refine H8.out.mono ?_; rintro e w2 ⟨rfl, rfl⟩)
    | (go_at_call 16; refine H9.out.mono ?_; rintro e w2 ⟨rfl, rfl⟩)
    | (go_at_call 17; refine HW.out.mono ?_; rintro e w2 ⟨rfl, hb⟩))
  go_ret
  exact ⟨rfl, hb⟩
end Go.Proofs.Ytcobflhnphikaaa
