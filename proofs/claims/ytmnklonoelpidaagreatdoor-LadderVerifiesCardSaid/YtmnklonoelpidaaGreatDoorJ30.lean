/- What stands at a place of a chain of a key, as its method tells. -/
import Derived.Test.YtmnklonoelpidaaGreatDoorJ29
import Derived.Test.YtmnklonoelpidaaGreatDoorJ26
import Derived.Deep.QuietTactic
import Derived.Test.YtmnklonoelpidaaGreatDoorJ27
namespace Go.Proofs.YtmnklonoelpidaaGreatDoor
open Go.RowKit

set_option maxRecDepth 100000 in
set_option maxHeartbeats 100000000 in
theorem kstands_any (s : (List UInt8)) (n i c : Nat) (w : World) (hg : Glob w) (hs : s.length ≤ 10000000) (hi : i < 256) :
    Calls Tryz.prog 65 #[.agg #[.string ⟨s.toArray⟩, .int .u64 (n : Int)], .int .i64 (i : Int), .int .i64 (c : Int)] w fun e w' => e = .returned (.string ⟨(walkV i 0 c (secF s n i)).toArray⟩) ∧ Below w.heap.size w w' := by
  have HN := Lib.hid (fun wz => num_any n wz)
  have HB := Lib.hid (by0 w (.cells #[.string ⟨s.toArray⟩, .int .u64 (n : Int)] 96))
  have HX := Lib.hid (heap_alloc_new w (.cells #[.string ⟨s.toArray⟩, .int .u64 (n : Int)] 96))
  have HG := Lib.hid (hg.below hg.size HB.out)
  have HH := Lib.hid (fun wz (h : Below (w.alloc (.cells #[.string ⟨s.toArray⟩, .int .u64 (n : Int)] 96)).heap.size (w.alloc (.cells #[.string ⟨s.toArray⟩, .int .u64 (n : Int)] 96)) wz) sz (hsz : sz = wz.heap.size) => hash3_at secretT s (numL n) [UInt8.ofNat i] wz sz hsz (HG.out.below HG.out.size h) (by decide) hs (by rw [numL_length]; decide) (by simp))
  have HE := Lib.hid (show secF s n i = hashL secretT [s, numL n, [UInt8.ofNat i]] from rfl)
  rw [← HE.out] at HH
  have HW := Lib.hid (fun wz (h : Below w.heap.size w wz) => walk_any (i : Int) 0 (c : Int) (secF s n i) wz (hg.below hg.size h) (by have := secF_len s n i; omega))
  generalize walkV (i : Int) 0 (c : Int) (secF s n i) = y at *
  generalize secF s n i = x at *
  have hci : ∀ (n : Nat) (wz : World), wz.cell? ⟨n, 0, none⟩ = some (.int .u8 (i : Int)) → (convert 64 9 (.slice (some ⟨n, 0, none⟩) 1 1)).run Tryz.prog wz = .ok (.string ⟨#[UInt8.ofNat i]⟩) wz := fun n wz h => conv_at i n wz h hi
  have hwi : IntKind.u8.wrap (i : Int) = (i : Int) := IntWalk.u8_in _ (by omega)
  clear hs hg HE HG
  go_enter Tryz.func65, Tryz.ntmps65
  go_upto_region 1 with fail
  change Code.wp _ _ _ _ (w.alloc (.cells #[.string ⟨s.toArray⟩, .int .u64 (n : Int)] 96))
  generalize w.alloc (.cells #[.string ⟨s.toArray⟩, .int .u64 (n : Int)] 96) = wb at *
  generalize hB : w.heap.size = B at *
  have c0 : wb.drew.cell? ⟨B, 0, none⟩ = some (.string ⟨s.toArray⟩) := (lit_cell HX.out 0).trans rfl
  have c1 : wb.drew.cell? ⟨B, 1, none⟩ = some (.int .u64 (n : Int)) := (lit_cell HX.out 1).trans rfl
  have a0 : ∀ o, (wb.alloc o).drew.cell? ⟨B, 0, none⟩ = some (.string ⟨s.toArray⟩) := fun o => key_keep (by0 wb o).drew c0
  have a1 : ∀ o, (wb.alloc o).drew.cell? ⟨B, 1, none⟩ = some (.int .u64 (n : Int)) := fun o => key_keep (by0 wb o).drew c1
  go_region_with
    (first
      | (go_at_call 26; refine (HN.out _).mono ?_; rintro e w1 ⟨rfl, hb1⟩; (try have hkA := keep_cells hb1 wb.heap.size (by first | (simp; done) | (simp; omega))); have hs1 : Below wb.heap.size wb w1 := below_next (by first | (with_reducible exact (Below.refl _ _).drew) | (with_reducible exact (by0 wb _).drew)) hb1; have d0 := key_keep hs1 c0; have d1 := key_keep hs1 c1; have d2 : ∀ o, (w1.alloc o).cell? ⟨B, 0, none⟩ = some (.string ⟨s.toArray⟩) := fun o => key_keep (by0 w1 o) d0)
      | (go_at_call 41; refine (HH.out _ ?_ _ ?_).mono ?_; (focus (first | (with_reducible exact hs1) | (with_reducible exact below_alloc hs1 _))); (focus (simp; done)); rintro e w2 ⟨rfl, hb2⟩; have hs2 : Below wb.heap.size wb w2 := below_next (by first | (with_reducible exact hs1) | (with_reducible exact below_alloc hs1 _)) hb2))
  all_goals
    have hF := HB.out.trans (hs2.mono (by rw [← hB]; exact HB.out.size))
    have HV := Lib.hid (HW.out _ (by first | exact hF | (rw [hB]; exact hF)))
    have HF := Lib.hid hF
    clear hF HW HH HN hci hwi
    go_wp2_with (go_at_call 94; refine HV.out.mono ?_; rintro e w3 ⟨rfl, hb3⟩; have HF3 := Lib.hid (HF.out.trans (hb3.mono (by rw [← hB]; exact HF.out.size))); clear hb3)
    go_ret
    exact ⟨rfl, by rw [hB]; exact HF3.out⟩
end Go.Proofs.YtmnklonoelpidaaGreatDoor
