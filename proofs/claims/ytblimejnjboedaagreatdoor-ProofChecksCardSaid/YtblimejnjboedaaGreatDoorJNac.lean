/- Layer 11's document: Check. -/
import Derived.Test.YtblimejnjboedaaGreatDoorJNa
namespace Go.Proofs.YtblimejnjboedaaGreatDoor
open Go.RowKit Go.Sort

theorem icheck_any (root : (List UInt8)) (n : Int) (P : List Nat) (E R : List (List UInt8)) (ao bo po : Option Addr) (ca cb cp : Nat) (w : World) (hP : Nums ao P w) (hE : Strs bo E w) (hR : Strs po R w) (hpn : P.length ≤ 1000) (hen : E.length ≤ 100000) (hcp : R.length ≤ cp) (hrn : R.length ≤ 100000) (he : ∀ i (h : i < E.length), E[i].length ≤ 10000000) (hr : ∀ i (h : i < R.length), R[i].length ≤ 1000000000) :
    Calls Tryz.prog 9 #[.string ⟨root.toArray⟩, .int .i64 n, .slice ao P.length ca, .slice bo E.length cb, .slice po R.length cp] w fun e w' => e = .returned (.int .i64 (checkV root n P E R)) ∧ Below w.heap.size w w' := by
  have HC := Lib.hid (iroot_any n P E R ao bo po ca cb cp w hP hE hR hpn hen hcp hrn he hr)
  have HV := Lib.hid (show checkV root n P E R = if (rootV n P E R).2 ≠ 0 then (rootV n P E R).2 else if (rootV n P E R).1 = root then 0 else 20 from rfl)
  generalize checkV root n P E R = c at *
  generalize rootV n P E R = V at *
  obtain ⟨Z, z⟩ := V
  simp only at HC HV
  clear hP hE hR hen hcp hrn he hr
  by_cases hz : z = 0
  · have hzb : (z != 0) = false := by simp [hz]
    by_cases hr : Z = root
    · have hrb : (Z == root) = true := by simp [hr]
      have HE := Lib.hid (show c = 0 by rw [HV.out, if_neg (by simp [hz]), if_pos hr])
      clear hz hr
      go_enter Tryz.func9, Tryz.ntmps9
      go_wp2_with (go_at_call 7; refine HC.out.mono ?_; rintro e w1 ⟨rfl, hb1⟩)
      go_ret
      exact ⟨by rw [HE.out]; rfl, hb1⟩
    · have hrb : (Z == root) = false := by simp [hr]
      have HE := Lib.hid (show c = 20 by rw [HV.out, if_neg (by simp [hz]), if_neg hr])
      clear hz hr
      go_enter Tryz.func9, Tryz.ntmps9
      go_wp2_with (go_at_call 7; refine HC.out.mono ?_; rintro e w1 ⟨rfl, hb1⟩)
      go_ret
      exact ⟨by rw [HE.out]; rfl, hb1⟩
  · have hzb : (z != 0) = true := by simp [hz]
    have HE := Lib.hid (show c = z by rw [HV.out, if_pos hz])
    clear hz
    go_enter Tryz.func9, Tryz.ntmps9
    go_wp2_with (go_at_call 7; refine HC.out.mono ?_; rintro e w1 ⟨rfl, hb1⟩)
    go_ret
    exact ⟨by rw [HE.out]; rfl, hb1⟩
end Go.Proofs.YtblimejnjboedaaGreatDoor
