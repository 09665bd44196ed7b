/- The reference's SameCert: two certificates that are alike. -/
import Derived.Test.YtlhmmplkdjibkaaGreatDoorJ23
import Derived.Test.YtlhmmplkdjibkaaGreatDoorJ27
namespace Go.Proofs.YtlhmmplkdjibkaaGreatDoor
open Go.RowKit

set_option maxRecDepth 100000 in
set_option maxHeartbeats 4000000 in
theorem rsamecert_any (xa xb : CertE) (w : World) (hr : xa.r = xb.r) (hL : CertL xa.r) (ha : CertM xa w) (hb : CertM xb w) :
    Calls Tryz.prog 10 #[certV xa, certV xb] w fun e w' => e = .returned (.bool true) ∧ Below w.heap.size w w' := by
  have K := Lib.hid (show Sc w xa xb ((w.alloc (.cells (certQ xa).toArray 27)).alloc (.cells (certQ xb).toArray 27)) from ⟨(by0 w _).alloc (by simp) _, lit_old _ (heap_alloc_new w _), by
    rw [show w.heap.size + 1 = (w.alloc (.cells (certQ xa).toArray 27)).heap.size by simp]; exact heap_alloc_new _ _⟩)
  have HA := Lib.hid (fun wz (h : Sc w xa xb wz) => ha.below h.o)
  have HB := Lib.hid (fun wz (h : Sc w xa xb wz) => hb.below h.o)
  have HL := Lib.hid hL
  obtain ⟨root, sg, rl, co, sp, pp, ra, rc, ca, cc, sa, sc, pa, pc⟩ := xa
  obtain ⟨root', sg', rl', co', sp', pp', ra', rc', ca', cc', sa', sc', pa', pc'⟩ := xb
  have e1 : root = root' := congrArg (·.root) hr
  have e2 : sg = sg' := congrArg (·.signed) hr
  have e3 : rl.map (·.r) = rl'.map (·.r) := congrArg (·.reveals) hr
  have e4 : co = co' := congrArg (·.coins) hr
  have e5 : sp = sp' := congrArg (·.slotProof) hr
  have e6 : pp = pp' := congrArg (·.partProof) hr
  subst e1 e2 e4 e5 e6
  have hrl : rl'.length = rl.length := by have := congrArg List.length e3; simpa using this.symm
  have HRE : Hid (∀ k (h : k < rl.length) (h' : k < rl'.length), rl[k].r = rl'[k].r) := Lib.hid fun k h h' => by
    have h1 : (rl.map (·.r))[k]? = (rl'.map (·.r))[k]? := by rw [e3]
    rw [List.getElem?_map, List.getElem?_map, List.getElem?_eq_getElem h, List.getElem?_eq_getElem h'] at h1
    simpa using h1
  have hlr : rl.length ≤ 100000 := by have := hL.r; simpa [CertE.r] using this
  have hlc : co.length ≤ 100000 := hL.co
  have HS1 := Lib.hid (fun wz h => rtexts_any sa sa' sc sc' sp wz hL.s (HA.out wz h).s (HB.out wz h).s)
  have HS2 := Lib.hid (fun wz h => rtexts_any pa pa' pc pc' pp wz hL.p (HA.out wz h).p (HB.out wz h).p)
  have HRL := Lib.hid hrl
  clear hr e3 hL ha hb hrl
  go_enter Tryz.func10, Tryz.ntmps10
  go_upto_region 1 with fail
  change Code.wp _ _ _ _ ((w.alloc (.cells (certQ ⟨root, sg, rl, co, sp, pp, ra, rc, ca, cc, sa, sc, pa, pc⟩).toArray 27)).alloc (.cells (certQ ⟨root, sg, rl', co, sp, pp, ra', rc', ca', cc', sa', sc', pa', pc'⟩).toArray 27))
  generalize (w.alloc (.cells (certQ ⟨root, sg, rl, co, sp, pp, ra, rc, ca, cc, sa, sc, pa, pc⟩).toArray 27)).alloc (.cells (certQ ⟨root, sg, rl', co, sp, pp, ra', rc', ca', cc', sa', sc', pa', pc'⟩).toArray 27) = w1 at *
  have HCA := Lib.hid (show ∀ wz, Sc w ⟨root, sg, rl, co, sp, pp, ra, rc, ca, cc, sa, sc, pa, pc⟩ ⟨root, sg, rl', co, sp, pp, ra', rc', ca', cc', sa', sc', pa', pc'⟩ wz →
      wz.cell? ⟨w.heap.size, 0, none⟩ = some (.string ⟨root.toArray⟩) ∧ wz.cell? ⟨w.heap.size, 1, none⟩ = some (.int .u64 (sg : Int)) ∧ wz.cell? ⟨w.heap.size, 2, none⟩ = some (.slice ra rl.length rc) ∧ wz.cell? ⟨w.heap.size, 3, none⟩ = some (.slice ca co.length cc) ∧ wz.cell? ⟨w.heap.size, 4, none⟩ = some (.slice sa sp.length sc) ∧ wz.cell? ⟨w.heap.size, 5, none⟩ = some (.slice pa pp.length pc) ∧
      wz.cell? ⟨w.heap.size + 1, 0, none⟩ = some (.string ⟨root.toArray⟩) ∧ wz.cell? ⟨w.heap.size + 1, 1, none⟩ = some (.int .u64 (sg : Int)) ∧ wz.cell? ⟨w.heap.size + 1, 2, none⟩ = some (.slice ra' rl.length rc') ∧ wz.cell? ⟨w.heap.size + 1, 3, none⟩ = some (.slice ca' co.length cc') ∧ wz.cell? ⟨w.heap.size + 1, 4, none⟩ = some (.slice sa' sp.length sc') ∧ wz.cell? ⟨w.heap.size + 1, 5, none⟩ = some (.slice pa' pp.length pc') from fun wz h => by
    have hrl := HRL.out
    refine ⟨(lit_cell h.a 0).trans rfl, (lit_cell h.a 1).trans rfl, (lit_cell h.a 2).trans rfl, (lit_cell h.a 3).trans rfl, (lit_cell h.a 4).trans rfl, (lit_cell h.a 5).trans rfl, (lit_cell h.b 0).trans rfl, (lit_cell h.b 1).trans rfl, (lit_cell h.b 2).trans ?_, (lit_cell h.b 3).trans rfl, (lit_cell h.b 4).trans rfl, (lit_cell h.b 5).trans rfl⟩
    rw [← hrl]
    rfl)
  obtain ⟨p0, p1, p2, p3, p4, p5, q0, q1, q2, q3, q4, q5⟩ := HCA.out _ K.out
  generalize hB : w.heap.size = B at *
  go_upto_region 3 with (first
    | (go_at_call 32; with_reducible refine (HS1.out _ K.out).mono ?_; rintro e w2 ⟨rfl, b2⟩; have K := Lib.hid (K.out.next b2); obtain ⟨_, _, _, _, _, p5, _, _, _, _, _, q5⟩ := HCA.out _ K.out; clear b2)
    | (go_at_call 32; with_reducible refine (HS2.out _ K.out).mono ?_; rintro e w3 ⟨rfl, b3⟩; have K := Lib.hid (K.out.next b3); clear b3))
  clear HS1 HS2
  go_wp2
  go_loopw [5, 6, 7] (fun s5 s6 s7 wr => ∃ k : Nat, k ≤ rl.length ∧ s5 = .int .i64 (k : Int) ∧ Hid (Sc w ⟨root, sg, rl, co, sp, pp, ra, rc, ca, cc, sa, sc, pa, pc⟩ ⟨root, sg, rl', co, sp, pp, ra', rc', ca', cc', sa', sc', pa', pc'⟩ wr)) (fun s5 _ _ _ => rl.length - (intOf s5).toNat)
  case atStart => exact ⟨0, Nat.zero_le _, rfl, K⟩
  case round =>
    clear K
    obtain ⟨k, hk, rfl, K⟩ := hrel
    obtain ⟨_, _, p2, p3, _, _, _, _, q2, q3, _, _⟩ := HCA.out _ K.out
    by_cases hlt : k < rl.length
    · have k0 : (0 : Int) ≤ (k : Int) := by omega
      have k1 : (k : Int) < (rl.length : Int) := by omega
      obtain ⟨b1, o1, h1, hb1, hc1⟩ := revs_at (HA.out _ K.out).r hlt
      obtain ⟨b2, o2, h2, hb2, hc2⟩ := revs_at (HB.out _ K.out).r (k := k) (show k < rl'.length by have := HRL.out; omega)
      dsimp only at h1 h2
      subst h1 h2
      have hlt' : k < rl'.length := by have := HRL.out; omega
      have hre := HRE.out k hlt hlt'
      have hx1 := (HA.out _ K.out).x rl[k] (List.getElem_mem _)
      have hx2 := (HB.out _ K.out).x rl'[k] (List.getElem_mem _)
      have hwl := HL.out.w rl[k].r (List.mem_map.2 ⟨rl[k], List.getElem_mem _, rfl⟩)
      generalize rl[k] = x at *
      generalize rl'[k] = y at *
      obtain ⟨⟨pos, sl, pt⟩, xa, xc, xp, xd⟩ := x
      obtain ⟨yr, ya, yc, yp, yd⟩ := y
      dsimp only at hre
      subst hre
      obtain ⟨c0, c1, c2, c3, c4, c5, c6, c7, c8, c9, c10⟩ := rev_cells (w := wr) (bb := b1) (q := o1 + k * 11) (x := ⟨⟨pos, sl, pt⟩, xa, xc, xp, xd⟩) hc1
      obtain ⟨d0, d1, d2, d3, d4, d5, d6, d7, d8, d9, d10⟩ := rev_cells (w := wr) (bb := b2) (q := o2 + k * 11) (x := ⟨⟨pos, sl, pt⟩, ya, yc, yp, yd⟩) hc2
      clear hc1 hc2
      go_wp2
      have HLT := Lib.hid hlt
      have HSL := Lib.hid (show ∀ wz, Below wr.heap.size wr wz → Calls Tryz.prog 33 #[slotV ⟨sl, xa, xc, xp, xd⟩, slotV ⟨sl, ya, yc, yp, yd⟩] wz fun e w' => e = .returned (.bool true) ∧ Below wz.heap.size wz w' from fun wz h =>
        rsameslot_any sl xa xp ya yp xc xd yc yd wz hwl.1 hwl.2 ⟨hx1.1.below (Nat.le_refl _) h, hx1.2.below (Nat.le_refl _) h⟩ ⟨hx2.1.below (Nat.le_refl _) h, hx2.2.below (Nat.le_refl _) h⟩)
      have hBl1 : B < wr.heap.size := World.block_lt_of_cell? wr _ p2
      have hBl2 : B + 1 < wr.heap.size := World.block_lt_of_cell? wr _ q2
      have HCJ := Lib.hid (show ∀ w', Below wr.heap.size wr w' → w'.cell? ⟨B, 2, none⟩ = some (.slice (some ⟨b1, o1, none⟩) rl.length rc) ∧ w'.cell? ⟨B + 1, 2, none⟩ = some (.slice (some ⟨b2, o2, none⟩) rl.length rc') ∧ w'.cell? ⟨b1, o1 + k * 11, none⟩ = some (.int .u64 (pos : Int)) ∧ w'.cell? ⟨b1, o1 + k * 11 + 1, none⟩ = some (.int .u64 (sl.l : Int)) ∧ w'.cell? ⟨b1, o1 + k * 11 + 2, none⟩ = some (.bool sl.signed) ∧ w'.cell? ⟨b1, o1 + k * 11 + 3, none⟩ = some (.int .u64 (sl.sig.index : Int)) ∧ w'.cell? ⟨b1, o1 + k * 11 + 4, none⟩ = some (.slice xa sl.sig.wots.length xc) ∧ w'.cell? ⟨b1, o1 + k * 11 + 5, none⟩ = some (.slice xp sl.sig.path.length xd) ∧ w'.cell? ⟨b1, o1 + k * 11 + 6, none⟩ = some (.string ⟨pt.root.toArray⟩) ∧ w'.cell? ⟨b1, o1 + k * 11 + 7, none⟩ = some (.int .u64 (pt.weight : Int)) ∧ w'.cell? ⟨b1, o1 + k * 11 + 8, none⟩ = some (.int .u64 (pt.first : Int)) ∧ w'.cell? ⟨b1, o1 + k * 11 + 9, none⟩ = some (.int .u64 (pt.life : Int)) ∧ w'.cell? ⟨b1, o1 + k * 11 + 10, none⟩ = some (.int .u64 (pt.keys : Int)) ∧ w'.cell? ⟨b2, o2 + k * 11, none⟩ = some (.int .u64 (pos : Int)) ∧ w'.cell? ⟨b2, o2 + k * 11 + 1, none⟩ = some (.int .u64 (sl.l : Int)) ∧ w'.cell? ⟨b2, o2 + k * 11 + 2, none⟩ = some (.bool sl.signed) ∧ w'.cell? ⟨b2, o2 + k * 11 + 3, none⟩ = some (.int .u64 (sl.sig.index : Int)) ∧ w'.cell? ⟨b2, o2 + k * 11 + 4, none⟩ = some (.slice ya sl.sig.wots.length yc) ∧ w'.cell? ⟨b2, o2 + k * 11 + 5, none⟩ = some (.slice yp sl.sig.path.length yd) ∧ w'.cell? ⟨b2, o2 + k * 11 + 6, none⟩ = some (.string ⟨pt.root.toArray⟩) ∧ w'.cell? ⟨b2, o2 + k * 11 + 7, none⟩ = some (.int .u64 (pt.weight : Int)) ∧ w'.cell? ⟨b2, o2 + k * 11 + 8, none⟩ = some (.int .u64 (pt.first : Int)) ∧ w'.cell? ⟨b2, o2 + k * 11 + 9, none⟩ = some (.int .u64 (pt.life : Int)) ∧ w'.cell? ⟨b2, o2 + k * 11 + 10, none⟩ = some (.int .u64 (pt.keys : Int)) ∧ Below wr.heap.size wr w' from fun w' h => by
        have kk : ∀ {c o : Nat} {v : Value}, wr.cell? ⟨c, o, none⟩ = some v → w'.cell? ⟨c, o, none⟩ = some v := fun hc => (World.cell?_of_block (h.block _ (World.block_lt_of_cell? wr _ hc))).trans hc
        exact ⟨kk p2, kk q2, kk c0, kk c1, kk c2, kk c3, kk c4, kk c5, kk c6, kk c7, kk c8, kk c9, kk c10, kk d0, kk d1, kk d2, kk d3, kk d4, kk d5, kk d6, kk d7, kk d8, kk d9, kk d10, h⟩)
      have hbr := (Below.refl wr.heap.size wr).drew
      have HZ := Lib.hid (Nat.le_refl wr.heap.size)
      have k1' : (k : Int) < (rl'.length : Int) := by omega
      have hS0 := HCJ.out wr.drew hbr
      clear p2 q2 c0 c1 c2 c3 c4 c5 c6 c7 c8 c9 c10 d0 d1 d2 d3 d4 d5 d6 d7 d8 d9 d10
      go_region_held3 (fun w' => w'.cell? ⟨B, 2, none⟩ = some (.slice (some ⟨b1, o1, none⟩) rl.length rc) ∧ w'.cell? ⟨B + 1, 2, none⟩ = some (.slice (some ⟨b2, o2, none⟩) rl.length rc') ∧ w'.cell? ⟨b1, o1 + k * 11, none⟩ = some (.int .u64 (pos : Int)) ∧ w'.cell? ⟨b1, o1 + k * 11 + 1, none⟩ = some (.int .u64 (sl.l : Int)) ∧ w'.cell? ⟨b1, o1 + k * 11 + 2, none⟩ = some (.bool sl.signed) ∧ w'.cell? ⟨b1, o1 + k * 11 + 3, none⟩ = some (.int .u64 (sl.sig.index : Int)) ∧ w'.cell? ⟨b1, o1 + k * 11 + 4, none⟩ = some (.slice xa sl.sig.wots.length xc) ∧ w'.cell? ⟨b1, o1 + k * 11 + 5, none⟩ = some (.slice xp sl.sig.path.length xd) ∧ w'.cell? ⟨b1, o1 + k * 11 + 6, none⟩ = some (.string ⟨pt.root.toArray⟩) ∧ w'.cell? ⟨b1, o1 + k * 11 + 7, none⟩ = some (.int .u64 (pt.weight : Int)) ∧ w'.cell? ⟨b1, o1 + k * 11 + 8, none⟩ = some (.int .u64 (pt.first : Int)) ∧ w'.cell? ⟨b1, o1 + k * 11 + 9, none⟩ = some (.int .u64 (pt.life : Int)) ∧ w'.cell? ⟨b1, o1 + k * 11 + 10, none⟩ = some (.int .u64 (pt.keys : Int)) ∧ w'.cell? ⟨b2, o2 + k * 11, none⟩ = some (.int .u64 (pos : Int)) ∧ w'.cell? ⟨b2, o2 + k * 11 + 1, none⟩ = some (.int .u64 (sl.l : Int)) ∧ w'.cell? ⟨b2, o2 + k * 11 + 2, none⟩ = some (.bool sl.signed) ∧ w'.cell? ⟨b2, o2 + k * 11 + 3, none⟩ = some (.int .u64 (sl.sig.index : Int)) ∧ w'.cell? ⟨b2, o2 + k * 11 + 4, none⟩ = some (.slice ya sl.sig.wots.length yc) ∧ w'.cell? ⟨b2, o2 + k * 11 + 5, none⟩ = some (.slice yp sl.sig.path.length yd) ∧ w'.cell? ⟨b2, o2 + k * 11 + 6, none⟩ = some (.string ⟨pt.root.toArray⟩) ∧ w'.cell? ⟨b2, o2 + k * 11 + 7, none⟩ = some (.int .u64 (pt.weight : Int)) ∧ w'.cell? ⟨b2, o2 + k * 11 + 8, none⟩ = some (.int .u64 (pt.first : Int)) ∧ w'.cell? ⟨b2, o2 + k * 11 + 9, none⟩ = some (.int .u64 (pt.life : Int)) ∧ w'.cell? ⟨b2, o2 + k * 11 + 10, none⟩ = some (.int .u64 (pt.keys : Int)) ∧ Below wr.heap.size wr w')
        (first | (with_reducible assumption) | (exact HCJ.out _ hbr) | (exact HCJ.out _ (by0 wr _).drew) | (exact HCJ.out _ ((by0 wr _).alloc (by simp) _).drew) | (exact HCJ.out _ (by0 wr _)) | (exact HCJ.out _ ((by0 wr _).alloc (by simp) _)))
        (fail)
      · change Exit.then _ _ _ _ (((wr.alloc (.cells (revQ ⟨⟨pos, sl, pt⟩, xa, xc, xp, xd⟩).toArray 57)).alloc (.cells (revQ ⟨⟨pos, sl, pt⟩, ya, yc, yp, yd⟩).toArray 57)).drew)
        have hg1 : (((wr.alloc (.cells (revQ ⟨⟨pos, sl, pt⟩, xa, xc, xp, xd⟩).toArray 57)).alloc (.cells (revQ ⟨⟨pos, sl, pt⟩, ya, yc, yp, yd⟩).toArray 57)).drew).heap[wr.heap.size]? = some (.cells (revQ ⟨⟨pos, sl, pt⟩, xa, xc, xp, xd⟩).toArray 57 (0, 0)) := lit_old _ (heap_alloc_new wr _)
        have hg2 : (((wr.alloc (.cells (revQ ⟨⟨pos, sl, pt⟩, xa, xc, xp, xd⟩).toArray 57)).alloc (.cells (revQ ⟨⟨pos, sl, pt⟩, ya, yc, yp, yd⟩).toArray 57)).drew).heap[wr.heap.size + 1]? = some (.cells (revQ ⟨⟨pos, sl, pt⟩, ya, yc, yp, yd⟩).toArray 57 (0, 0)) := by
          rw [show wr.heap.size + 1 = (wr.alloc (.cells (revQ ⟨⟨pos, sl, pt⟩, xa, xc, xp, xd⟩).toArray 57)).heap.size by simp]; exact heap_alloc_new _ _
        have hbx : Below wr.heap.size wr (((wr.alloc (.cells (revQ ⟨⟨pos, sl, pt⟩, xa, xc, xp, xd⟩).toArray 57)).alloc (.cells (revQ ⟨⟨pos, sl, pt⟩, ya, yc, yp, yd⟩).toArray 57)).drew) := ((by0 wr _).alloc (by simp) _).drew
        generalize ((wr.alloc (.cells (revQ ⟨⟨pos, sl, pt⟩, xa, xc, xp, xd⟩).toArray 57)).alloc (.cells (revQ ⟨⟨pos, sl, pt⟩, ya, yc, yp, yd⟩).toArray 57)).drew = wq at *
        have K := Lib.hid (K.out.next hbx)
        have HSQ := Lib.hid (HSL.out wq hbx)
        simp only [revQ] at hg1 hg2
        have c0 := (lit_cell hg1 0).trans rfl; have c1 := (lit_cell hg1 1).trans rfl; have c2 := (lit_cell hg1 2).trans rfl; have c3 := (lit_cell hg1 3).trans rfl; have c4 := (lit_cell hg1 4).trans rfl; have c5 := (lit_cell hg1 5).trans rfl; have c6 := (lit_cell hg1 6).trans rfl; have c7 := (lit_cell hg1 7).trans rfl; have c8 := (lit_cell hg1 8).trans rfl; have c9 := (lit_cell hg1 9).trans rfl; have c10 := (lit_cell hg1 10).trans rfl
        have d0 := (lit_cell hg2 0).trans rfl; have d1 := (lit_cell hg2 1).trans rfl; have d2 := (lit_cell hg2 2).trans rfl; have d3 := (lit_cell hg2 3).trans rfl; have d4 := (lit_cell hg2 4).trans rfl; have d5 := (lit_cell hg2 5).trans rfl; have d6 := (lit_cell hg2 6).trans rfl; have d7 := (lit_cell hg2 7).trans rfl; have d8 := (lit_cell hg2 8).trans rfl; have d9 := (lit_cell hg2 9).trans rfl; have d10 := (lit_cell hg2 10).trans rfl
        clear hg1 hg2 hbx hS0 HCJ HSL
        go_wp2_with (go_at_call 33; with_reducible refine HSQ.out.mono ?_; rintro e w9 ⟨rfl, b9⟩; have K := Lib.hid (K.out.next b9); clear b9)
        go_roundw
        case rel => exact ⟨k + 1, HLT.out, by go_num, K⟩
        case measure => have := HLT.out; simp [intOf]; omega
      · change Exit.then _ _ _ _ (((wr.alloc (.cells (revQ ⟨⟨pos, sl, pt⟩, ya, yc, yp, yd⟩).toArray 57)).alloc (.cells (revQ ⟨⟨pos, sl, pt⟩, xa, xc, xp, xd⟩).toArray 57)).drew)
        have hg1 : (((wr.alloc (.cells (revQ ⟨⟨pos, sl, pt⟩, ya, yc, yp, yd⟩).toArray 57)).alloc (.cells (revQ ⟨⟨pos, sl, pt⟩, xa, xc, xp, xd⟩).toArray 57)).drew).heap[wr.heap.size]? = some (.cells (revQ ⟨⟨pos, sl, pt⟩, ya, yc, yp, yd⟩).toArray 57 (0, 0)) := lit_old _ (heap_alloc_new wr _)
        have hg2 : (((wr.alloc (.cells (revQ ⟨⟨pos, sl, pt⟩, ya, yc, yp, yd⟩).toArray 57)).alloc (.cells (revQ ⟨⟨pos, sl, pt⟩, xa, xc, xp, xd⟩).toArray 57)).drew).heap[wr.heap.size + 1]? = some (.cells (revQ ⟨⟨pos, sl, pt⟩, xa, xc, xp, xd⟩).toArray 57 (0, 0)) := by
          rw [show wr.heap.size + 1 = (wr.alloc (.cells (revQ ⟨⟨pos, sl, pt⟩, ya, yc, yp, yd⟩).toArray 57)).heap.size by simp]; exact heap_alloc_new _ _
        have hbx : Below wr.heap.size wr (((wr.alloc (.cells (revQ ⟨⟨pos, sl, pt⟩, ya, yc, yp, yd⟩).toArray 57)).alloc (.cells (revQ ⟨⟨pos, sl, pt⟩, xa, xc, xp, xd⟩).toArray 57)).drew) := ((by0 wr _).alloc (by simp) _).drew
        generalize ((wr.alloc (.cells (revQ ⟨⟨pos, sl, pt⟩, ya, yc, yp, yd⟩).toArray 57)).alloc (.cells (revQ ⟨⟨pos, sl, pt⟩, xa, xc, xp, xd⟩).toArray 57)).drew = wq at *
        have K := Lib.hid (K.out.next hbx)
        have HSQ := Lib.hid (HSL.out wq hbx)
        simp only [revQ] at hg1 hg2
        have c0 := (lit_cell hg1 0).trans rfl; have c1 := (lit_cell hg1 1).trans rfl; have c2 := (lit_cell hg1 2).trans rfl; have c3 := (lit_cell hg1 3).trans rfl; have c4 := (lit_cell hg1 4).trans rfl; have c5 := (lit_cell hg1 5).trans rfl; have c6 := (lit_cell hg1 6).trans rfl; have c7 := (lit_cell hg1 7).trans rfl; have c8 := (lit_cell hg1 8).trans rfl; have c9 := (lit_cell hg1 9).trans rfl; have c10 := (lit_cell hg1 10).trans rfl
        have d0 := (lit_cell hg2 0).trans rfl; have d1 := (lit_cell hg2 1).trans rfl; have d2 := (lit_cell hg2 2).trans rfl; have d3 := (lit_cell hg2 3).trans rfl; have d4 := (lit_cell hg2 4).trans rfl; have d5 := (lit_cell hg2 5).trans rfl; have d6 := (lit_cell hg2 6).trans rfl; have d7 := (lit_cell hg2 7).trans rfl; have d8 := (lit_cell hg2 8).trans rfl; have d9 := (lit_cell hg2 9).trans rfl; have d10 := (lit_cell hg2 10).trans rfl
        clear hg1 hg2 hbx hS0 HCJ HSL
        go_wp2_with (go_at_call 33; with_reducible refine HSQ.out.mono ?_; rintro e w9 ⟨rfl, b9⟩; have K := Lib.hid (K.out.next b9); clear b9)
        go_roundw
        case rel => exact ⟨k + 1, HLT.out, by go_num, K⟩
        case measure => have := HLT.out; simp [intOf]; omega
    · have k1 : ¬ (k : Int) < (rl.length : Int) := by omega
      go_wp2
      clear HRE
      go_loopw [8] (fun s8 wx => ∃ k : Nat, k ≤ co.length ∧ s8 = .int .i64 (k : Int) ∧ Hid (Sc w ⟨root, sg, rl, co, sp, pp, ra, rc, ca, cc, sa, sc, pa, pc⟩ ⟨root, sg, rl', co, sp, pp, ra', rc', ca', cc', sa', sc', pa', pc'⟩ wx)) (fun s8 _ => co.length - (intOf s8).toNat)
      case atStart => exact ⟨0, Nat.zero_le _, rfl, K⟩
      case round =>
        clear K p2 q2 p3 q3
        obtain ⟨k, hk, rfl, K⟩ := hrel
        obtain ⟨_, _, _, p3, _, _, _, _, _, q3, _, _⟩ := HCA.out _ K.out
        by_cases hlt : k < co.length
        · have k0 : (0 : Int) ≤ (k : Int) := by omega
          have k1' : (k : Int) < (co.length : Int) := by omega
          obtain ⟨b1, o1, h1, hc1⟩ := nums_at (HA.out _ K.out).co hlt
          obtain ⟨b2, o2, h2, hc2⟩ := nums_at (HB.out _ K.out).co hlt
          dsimp only at h1 h2 hc1 hc2
          subst h1 h2
          generalize co[k] = X at *
          go_wp2
          go_quiet (fail)
          have K := Lib.hid (K.out.next (by0q _ nq))
          go_wp2
          go_roundw
          case rel => exact ⟨k + 1, by omega, by go_num, K⟩
          case measure => simp [intOf]; omega
        · have k1' : ¬ (k : Int) < (co.length : Int) := by omega
          go_wp2
          go_ret
          exact ⟨rfl, by rw [← hB]; exact K.out.o⟩
end Go.Proofs.YtlhmmplkdjibkaaGreatDoor
