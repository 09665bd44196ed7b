/- A cell is kept. -/
import Derived.Test.YtmnklonoelpidaaGreatDoorJ1
import Derived.Test.YtmnklonoelpidaaGreatDoorJ26
import Derived.Test.YtmnklonoelpidaaGreatDoorJ27
import Derived.Deep.RegionHeld3
namespace Go.Proofs.YtmnklonoelpidaaGreatDoor
open Go.RowKit

theorem key_keep {W w8 : World} (hb : Below W.heap.size W w8) {n o : Nat} {v : Value} (h : W.cell? ⟨n, o, none⟩ = some v) : w8.cell? ⟨n, o, none⟩ = some v := (World.cell?_of_block (hb.block _ (World.block_lt_of_cell? W _ h))).trans h
end Go.Proofs.YtmnklonoelpidaaGreatDoor
/- What stands at a place of a chain, if a signature's texts stand at a digest's digits, as its method tells. -/
namespace Go.Proofs.YtmnklonoelpidaaGreatDoor
open Go.RowKit

set_option maxRecDepth 100000 in
set_option maxHeartbeats 8000000 in
theorem sstands_any (gb go gc db doff dc : Nat) (i a c : Nat) (x : (List UInt8)) (w : World) (hg : Glob w) (hi : i < 67) (hx : x.length ≤ 10000000)
    (h1 : w.cell? ⟨gb, go + i, none⟩ = some (.string ⟨x.toArray⟩)) (h2 : w.cell? ⟨db, doff + i, none⟩ = some (.int .i64 (a : Int))) :
    Calls Tryz.prog 125 #[.agg #[.slice (some ⟨gb, go, none⟩) 67 gc, .slice (some ⟨db, doff, none⟩) 67 dc], .int .i64 (i : Int), .int .i64 (c : Int)] w fun e w' => e = .returned (.string ⟨(walkV i a c x).toArray⟩) ∧ Below w.heap.size w w' := by
  have HX := Lib.hid (heap_alloc_new w (.cells #[.slice (some ⟨gb, go, none⟩) 67 gc, .slice (some ⟨db, doff, none⟩) 67 dc] 169))
  have HB := Lib.hid (by0 w (.cells #[.slice (some ⟨gb, go, none⟩) 67 gc, .slice (some ⟨db, doff, none⟩) 67 dc] 169))
  have HW := Lib.hid (fun wz (h : Below w.heap.size w wz) => walk_any (i : Int) (a : Int) (c : Int) x wz (hg.below hg.size h) hx)
  generalize walkV (i : Int) (a : Int) (c : Int) x = y at *
  have i0 : (0 : Int) ≤ (i : Int) := by omega
  have i1 : (i : Int) < 67 := by omega
  have H1 := Lib.hid h1
  have H2 := Lib.hid h2
  clear h1 h2 hg hx hi
  go_enter Tryz.func125, Tryz.ntmps125
  go_upto_region 1 with fail
  change Code.wp _ _ _ _ (w.alloc (.cells #[.slice (some ⟨gb, go, none⟩) 67 gc, .slice (some ⟨db, doff, none⟩) 67 dc] 169))
  generalize w.alloc (.cells #[.slice (some ⟨gb, go, none⟩) 67 gc, .slice (some ⟨db, doff, none⟩) 67 dc] 169) = wb at *
  generalize hBB : w.heap.size = B at *
  have hS0 : Below B w wb.drew ∧ wb.drew.cell? ⟨B, 0, none⟩ = some (.slice (some ⟨gb, go, none⟩) 67 gc) ∧ wb.drew.cell? ⟨B, 1, none⟩ = some (.slice (some ⟨db, doff, none⟩) 67 dc) ∧ wb.drew.cell? ⟨gb, go + i, none⟩ = some (.string ⟨x.toArray⟩) ∧ wb.drew.cell? ⟨db, doff + i, none⟩ = some (.int .i64 (a : Int)) :=
    ⟨HB.out.drew, (lit_cell HX.out 0).trans rfl, (lit_cell HX.out 1).trans rfl, (World.cell?_of_block (a := ⟨gb, go + i, none⟩) (HB.out.drew.block _ (by rw [← hBB]; exact World.block_lt_of_cell? w _ H1.out))).trans H1.out, (World.cell?_of_block (a := ⟨db, doff + i, none⟩) (HB.out.drew.block _ (by rw [← hBB]; exact World.block_lt_of_cell? w _ H2.out))).trans H2.out⟩
  have HWS := Lib.hid (fun wz (h : (Below B w wz ∧ wz.cell? ⟨B, 0, none⟩ = some (.slice (some ⟨gb, go, none⟩) 67 gc) ∧ wz.cell? ⟨B, 1, none⟩ = some (.slice (some ⟨db, doff, none⟩) 67 dc) ∧ wz.cell? ⟨gb, go + i, none⟩ = some (.string ⟨x.toArray⟩) ∧ wz.cell? ⟨db, doff + i, none⟩ = some (.int .i64 (a : Int)))) => HW.out wz h.1)
  have HST := Lib.hid (show ∀ wz wa, (Below B w wz ∧ wz.cell? ⟨B, 0, none⟩ = some (.slice (some ⟨gb, go, none⟩) 67 gc) ∧ wz.cell? ⟨B, 1, none⟩ = some (.slice (some ⟨db, doff, none⟩) 67 dc) ∧ wz.cell? ⟨gb, go + i, none⟩ = some (.string ⟨x.toArray⟩) ∧ wz.cell? ⟨db, doff + i, none⟩ = some (.int .i64 (a : Int))) → Below wz.heap.size wz wa → (Below B w wa ∧ wa.cell? ⟨B, 0, none⟩ = some (.slice (some ⟨gb, go, none⟩) 67 gc) ∧ wa.cell? ⟨B, 1, none⟩ = some (.slice (some ⟨db, doff, none⟩) 67 dc) ∧ wa.cell? ⟨gb, go + i, none⟩ = some (.string ⟨x.toArray⟩) ∧ wa.cell? ⟨db, doff + i, none⟩ = some (.int .i64 (a : Int))) from fun wz wa h hb => ⟨h.1.trans (hb.mono (by have := h.1.size; omega)), key_keep hb h.2.1, key_keep hb h.2.2.1, key_keep hb h.2.2.2.1, key_keep hb h.2.2.2.2⟩)
  clear HW HX H1 H2
  go_region_held3 (fun wz => (Below B w wz ∧ wz.cell? ⟨B, 0, none⟩ = some (.slice (some ⟨gb, go, none⟩) 67 gc) ∧ wz.cell? ⟨B, 1, none⟩ = some (.slice (some ⟨db, doff, none⟩) 67 dc) ∧ wz.cell? ⟨gb, go + i, none⟩ = some (.string ⟨x.toArray⟩) ∧ wz.cell? ⟨db, doff + i, none⟩ = some (.int .i64 (a : Int))))
    (first | (with_reducible assumption))
    (first
      | (go_at_call 94; with_reducible refine (HWS.out _ (by with_reducible assumption)).mono ?_; rintro e wa ⟨rfl, hba⟩; have hSa := HST.out _ _ (by with_reducible assumption) hba))
  all_goals
    have HF := Lib.hid hSa.1
    go_wp2
    go_ret
    exact ⟨rfl, by rw [hBB]; exact HF.out⟩
end Go.Proofs.YtmnklonoelpidaaGreatDoor
