/- ChainKnown: its walk. -/
import Derived.Test.YtdobmhbfadijoaaDoorEh
namespace Go.Proofs.YtdobmhbfadijoaaDoor
open Go.RowKit

def ff32 : (List UInt8) := 255 :: List.replicate 31 0
theorem ff32_dig : (digC ff32)[0]? = some 15 ∧ (digC ff32)[1]? = some 15 ∧ (digC ff32)[2]? = some 0 ∧ (digC ff32)[64]? = some 3 ∧ (digC ff32)[65]? = some 10 ∧ (digC ff32)[66]? = some 2 ∧ (digC ff32).length = 67 := by decide
def zero33 : (List UInt8) := List.replicate 33 0
theorem cell_next {w wa : World} {b o : Nat} {v : Value} (hb : Below w.heap.size w wa) (h : w.cell? ⟨b, o, none⟩ = some v) : wa.cell? ⟨b, o, none⟩ = some v := (World.cell?_of_block (hb.block _ (World.block_lt_of_cell? w _ h))).trans h
set_option maxRecDepth 100000 in
set_option maxHeartbeats 4000000 in
theorem chainKnown_any (C : ChainC) (w : World) (hg : Glob w) : Calls Tryd.prog 8 #[] w fun e w' => e = .returned (.bool true) ∧ Below w.heap.size w w' := by
  have hm := make_bytes 32 (by decide) w
  have HM3 := Lib.hid (fun wz => make_bytes 33 (by decide) wz)
  rw [show ((32 : Nat) : Int) = 32 from rfl, show List.replicate 32 (0 : UInt8) = zero32 from rfl] at hm
  rw [show ((33 : Nat) : Int) = 33 from rfl, show List.replicate 33 (0 : UInt8) = zero33 from rfl] at HM3
  have hn := heap_alloc_new w (.cells (bytesC zero32).toArray 5)
  have hset : (bytesC zero32).toArray.setIfInBounds 0 (.int .u8 255) = (bytesC ff32).toArray := bytes_set zero32 0 255
  have hs := heap_alloc_new w (.cells (bytesC ff32).toArray 5)
  have hcv := conv_bytes ff32 w.heap.size 32 _ (fun j hj => bytes_cell hs j hj)
  rw [show ff32.length = 32 from rfl] at hcv
  have c0 : (w.alloc (.cells (bytesC zero32).toArray 5)).cell? ⟨w.heap.size, 0, none⟩ = some (.int .u8 0) := bytes_cell hn 0 (by decide)
  have f0 := lit_free hn 0
  have HCV3 := Lib.hid (show ∀ wz : World, (convert 31 9 (.slice (some ⟨wz.heap.size, 0, none⟩) 33 33)).run Tryd.prog (wz.alloc (.cells (bytesC zero33).toArray 5)) = .ok (.string ⟨zero33.toArray⟩) (wz.alloc (.cells (bytesC zero33).toArray 5)) from fun wz => by
    have := conv_bytes zero33 wz.heap.size 33 (wz.alloc (.cells (bytesC zero33).toArray 5)) (fun j hj => bytes_cell (heap_alloc_new wz _) j hj)
    rwa [show zero33.length = 33 from rfl] at this)
  have hm3 := HM3.out
  have hcv3 := HCV3.out
  obtain ⟨z0, z1, z2, z64, z65, z66, zl⟩ := ff32_dig
  have HD := Lib.hid (fun wz (h : Wl w wz) => C.d ff32 wz h.g (by decide))
  have HD0 := Lib.hid (fun wz (h : Wl w wz) => C.d [] wz h.g (by decide))
  have HD3 := Lib.hid (fun wz (h : Wl w wz) => C.d zero33 wz h.g (by decide))
  rw [zl] at HD
  rw [show (digC []).length = 0 from rfl] at HD0
  rw [show (digC zero33).length = 0 from rfl] at HD3
  have HW := Lib.hid (fun wz (h : Wl w wz) => works12_any C wz h.g)
  have K1 := Lib.hid (fun wz (h : Wl w wz) => C.k 5 3 2 [120] wz h.g (by decide))
  have K2 := Lib.hid (fun wz (h : Wl w wz) => C.k 67 0 0 [120] wz h.g (by decide))
  have K3 := Lib.hid (fun wz (h : Wl w wz) => C.k (-1) 0 0 [120] wz h.g (by decide))
  have K4 := Lib.hid (fun wz (h : Wl w wz) => C.k 66 0 0 [120] wz h.g (by decide))
  have K5 := Lib.hid (fun wz (h : Wl w wz) => C.k 0 (-1) 2 [120] wz h.g (by decide))
  have K6 := Lib.hid (fun wz (h : Wl w wz) => C.k 0 0 16 [120] wz h.g (by decide))
  have K7 := Lib.hid (fun wz (h : Wl w wz) => C.k 0 0 15 [] wz h.g (by decide))
  rw [show walkV 5 3 2 [120] = [] from rfl] at K1
  rw [show walkV 67 0 0 [120] = [] from rfl] at K2
  rw [show walkV (-1) 0 0 [120] = [] from rfl] at K3
  rw [show walkV 66 0 0 [120] = [120] from rfl] at K4
  rw [show walkV 0 (-1) 2 [120] = [] from rfl] at K5
  rw [show walkV 0 0 16 [120] = [] from rfl] at K6
  obtain ⟨Z, hZ⟩ : ∃ Z, Z = walkV 0 0 15 [] := ⟨_, rfl⟩
  have hZl : Z.length = 32 := by
    rw [hZ, show walkV 0 0 15 [] = hashL chainT [[UInt8.ofNat 0], [UInt8.ofNat 14], walkF 0 0 14 []] from rfl, hashL, if_pos (by decide), shaL_length]
  rw [← hZ] at K7
  have HG := Lib.hid (show Wl w (w.alloc (.cells (bytesC ff32).toArray 5)) from ⟨hg.below hg.size (by0 w _), by0 w _⟩)
  clear hg hn hs hZ HM3 HCV3
  generalize (bytesC zero32).toArray = ZC at *
  generalize (bytesC ff32).toArray = FC at *
  generalize (bytesC zero33).toArray = Z3C at *
  generalize digC ff32 = X at *
  generalize ff32 = F at *
  generalize zero33 = Z3 at *
  have HZ := Lib.hid (And.intro z0 (And.intro z1 (And.intro z2 (And.intro z64 (And.intro z65 (And.intro z66 zl))))))
  clear z0 z1 z2 z64 z65 z66 zl
  go_enter Tryd.func8, Tryd.ntmps8
  go_wp2_with (first
    | (go_at_call 10; with_reducible refine (HD.out _ HG.out).mono ?_; rintro e w1 ⟨a1, c1, rfl, hi1, hb1⟩; have HG := Lib.hid (HG.out.next hb1); obtain ⟨b1, o1, rfl, hc1⟩ := hi1.get (by rw [HZ.out.2.2.2.2.2.2]; decide); have HC := Lib.hid hc1; clear hi1 hb1 hc1)
    | (go_at_call 12; with_reducible refine (HW.out _ HG.out).mono ?_; rintro e w2 ⟨rfl, hb2⟩; have HG := Lib.hid (HG.out.next hb2); have d0 := cell_next hb2 (HC.out 0 _ HZ.out.1); rw [Nat.add_zero] at d0; have d1 := cell_next hb2 (HC.out 1 _ HZ.out.2.1); have d2 := cell_next hb2 (HC.out 2 _ HZ.out.2.2.1); have d64 := cell_next hb2 (HC.out 64 _ HZ.out.2.2.2.1); have d65 := cell_next hb2 (HC.out 65 _ HZ.out.2.2.2.2.1); have d66 := cell_next hb2 (HC.out 66 _ HZ.out.2.2.2.2.2.1); clear hb2)
    | (go_at_call 10; with_reducible refine (HD0.out _ HG.out).mono ?_; rintro e w3 ⟨a3, c3, rfl, hi3, hb3⟩; have HG := Lib.hid (HG.out.next hb3); clear hi3 hb3)
    | (go_at_call 10; refine (HD3.out _ ?_).mono ?_; (focus (with_reducible exact HG.out.next (by0 _ _))); rintro e w4 ⟨a4, c4, rfl, hi4, hb4⟩; have HG := Lib.hid ((HG.out.next (by0 _ _)).next hb4); clear hi4 hb4)
    | (go_at_call 13; with_reducible refine (K1.out _ HG.out).mono ?_; rintro e wk ⟨rfl, hbk⟩; have HG := Lib.hid (HG.out.next hbk); clear hbk)
    | (go_at_call 13; with_reducible refine (K2.out _ HG.out).mono ?_; rintro e wk ⟨rfl, hbk⟩; have HG := Lib.hid (HG.out.next hbk); clear hbk)
    | (go_at_call 13; with_reducible refine (K3.out _ HG.out).mono ?_; rintro e wk ⟨rfl, hbk⟩; have HG := Lib.hid (HG.out.next hbk); clear hbk)
    | (go_at_call 13; with_reducible refine (K4.out _ HG.out).mono ?_; rintro e wk ⟨rfl, hbk⟩; have HG := Lib.hid (HG.out.next hbk); clear hbk)
    | (go_at_call 13; with_reducible refine (K5.out _ HG.out).mono ?_; rintro e wk ⟨rfl, hbk⟩; have HG := Lib.hid (HG.out.next hbk); clear hbk)
    | (go_at_call 13; with_reducible refine (K6.out _ HG.out).mono ?_; rintro e wk ⟨rfl, hbk⟩; have HG := Lib.hid (HG.out.next hbk); clear hbk)
    | (go_at_call 13; with_reducible refine (K7.out _ HG.out).mono ?_; rintro e wk ⟨rfl, hbk⟩; have HG := Lib.hid (HG.out.next hbk); clear hbk))
  go_ret
  exact ⟨rfl, HG.out.o⟩
end Go.Proofs.YtdobmhbfadijoaaDoor
