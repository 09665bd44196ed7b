/- The reference's secret, Public, Sign. -/
import Derived.Test.YtpbbpkflljcklaaDoorJXa
import Derived.Test.YtpbbpkflljcklaaDoorJEd
import Derived.Test.YtpbbpkflljcklaaDoorJ5
import Derived.Test.YtpbbpkflljcklaaDoorJEb2
import Derived.Deep.QuietTactic
namespace Go.Proofs.YtpbbpkflljcklaaDoor
open Go.RowKit

set_option maxRecDepth 100000 in
set_option maxHeartbeats 4000000 in
theorem rsecret_any (s : (List UInt8)) (n i : Nat) (w : World) (hs : s.length ≤ 10000000) (hn : n < 18446744073709551616) (hi : i < 256) :
    Calls Tryd.prog 28 #[.string ⟨s.toArray⟩, .int .u64 (n : Int), .int .i64 (i : Int)] w fun e w' => e = .returned (.string ⟨(secF s n i).toArray⟩) ∧ Below w.heap.size w w' := by
  have HN := Lib.hid (fun wz => refNum_any n wz hn)
  have HH := Lib.hid (fun wz sz (hsz : sz = wz.heap.size) => rhash3_at secretT s (numL n) [UInt8.ofNat i] wz sz hsz (by decide) hs (by rw [numL_length]; decide) (by simp))
  have HE := Lib.hid (show secF s n i = hashL secretT [s, numL n, [UInt8.ofNat i]] from rfl)
  rw [← HE.out] at HH
  have hci : ∀ (n : Nat) (wz : World), wz.cell? ⟨n, 0, none⟩ = some (.int .u8 (i : Int)) → (convert 33 9 (.slice (some ⟨n, 0, none⟩) 1 1)).run Tryd.prog wz = .ok (.string ⟨#[UInt8.ofNat i]⟩) wz := fun n wz h => conv_at i n wz h hi
  have hwi : IntKind.u8.wrap (i : Int) = (i : Int) := IntWalk.u8_in _ (by omega)
  clear hs hn HE
  go_enter Tryd.func28, Tryd.ntmps28
  go_upto_region 1 with fail
  go_region_with
    (first
      | (go_at_call 41; refine (HN.out _).mono ?_; rintro e w1 ⟨rfl, hb1⟩; (try have hkA := keep_cells hb1 w.heap.size (by first | (simp; done) | (simp; omega))); have hs1 : Below w.heap.size w w1 := below_next (by first | (with_reducible exact (Below.refl _ _).drew) | (with_reducible exact (by0 w _).drew)) hb1)
      | (go_at_call 30; refine (HH.out _ _ ?_).mono ?_; (focus (simp; done)); rintro e w2 ⟨rfl, hb2⟩; have hs2 : Below w.heap.size w w2 := below_next (by first | (with_reducible exact hs1) | (with_reducible exact below_alloc hs1 _)) hb2))
  all_goals
    have HF := Lib.hid hs2
    go_wp2
    go_ret
    exact ⟨rfl, HF.out⟩
end Go.Proofs.YtpbbpkflljcklaaDoor
