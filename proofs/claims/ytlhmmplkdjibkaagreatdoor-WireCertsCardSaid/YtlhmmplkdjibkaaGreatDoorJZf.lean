/- The reference's Cert, up to what it refuses. -/
import Derived.Test.YtlhmmplkdjibkaaGreatDoorJZe
import Derived.Test.YtlhmmplkdjibkaaGreatDoorJ27
import Derived.Deep.Cut
namespace Go.Proofs.YtlhmmplkdjibkaaGreatDoor
open Go.RowKit

/-- what the reference's Cert is given -/
structure CertB (c : CertE) : Prop where
  sp : c.sp.length ≤ 1000000
  pp : c.pp.length ≤ 1000000
  co : c.coins.length ≤ 1000000
  rl : c.rl.length ≤ 1000000
  rs : ∀ x ∈ c.rl, RSig x.r.slot.sig ∧ RevIn x.r
def okC (c : CertE) : Bool := digB c.root && mayB c.pp 10240 && mayB c.sp 10240 && decide (c.coins.length ≤ 640) && decide (c.rl.length ≤ 640)
theorem mayCert_ok (c : CertE) : mayCertB c.r = (okC c && c.rl.all fun x => mayRevB x.r) := by
  simp [mayCertB, okC, CertE.r, List.all_map, Function.comp_def]
  rfl
theorem all_rev (L : List RevE) (k : Nat) (hk : k < L.length) : (L.take (k + 1)).all (fun x => mayRevB x.r) = ((L.take k).all (fun x => mayRevB x.r) && mayRevB L[k].r) := by
  rw [List.take_succ_eq_append_getElem hk, List.all_append]; simp
structure Wc (w : World) (c : CertE) (wz : World) : Prop where
  o : Below w.heap.size w wz
  x : wz.heap[w.heap.size]? = some (.cells (certQ c).toArray 27 (0, 0))
theorem Wc.next {w wz wa : World} {c : CertE} (h : Wc w c wz) (hb : Below wz.heap.size wz wa) : Wc w c wa := ⟨h.o.trans (hb.mono h.o.size), (hb.block _ (lit_lt h.x)).trans h.x⟩
set_option maxRecDepth 100000 in
set_option maxHeartbeats 2000000 in
theorem rCert_no (c : CertE) (w : World) (hM : CertM c w) (hB : CertB c) (hno : mayCertB c.r = false) :
    Calls Tryz.prog 6 #[certV c] w fun e w' => e = .returned (.tuple #[.string ⟨#[]⟩, .int .i64 2]) ∧ Below w.heap.size w w' := by
  have K := Lib.hid (show Wc w c (w.alloc (.cells (certQ c).toArray 27)) from ⟨by0 w _, heap_alloc_new w _⟩)
  have HD := Lib.hid (fun wz => wdigest_any c.root wz)
  have HPP := Lib.hid (fun wz (h : Wc w c wz) => show Calls Tryz.prog 18 #[.slice c.pa c.pp.length c.pc, .int .i64 10240] wz fun e w' => e = .returned (.bool (mayB c.pp 10240)) ∧ Below wz.heap.size wz w' from may_any c.pa c.pc c.pp 10240 wz (hM.p.below (Nat.le_refl _) h.o) hB.pp)
  have HSP := Lib.hid (fun wz (h : Wc w c wz) => show Calls Tryz.prog 18 #[.slice c.sa c.sp.length c.sc, .int .i64 10240] wz fun e w' => e = .returned (.bool (mayB c.sp 10240)) ∧ Below wz.heap.size wz w' from may_any c.sa c.sc c.sp 10240 wz (hM.s.below (Nat.le_refl _) h.o) hB.sp)
  have hc0 := hB.co; have hr0 := hB.rl
  have HBB := Lib.hid hB
  have HMM := Lib.hid hM
  have HNO := Lib.hid hno
  clear hM hB hno
  go_enter Tryz.func6, Tryz.ntmps6
  go_upto_region 1 with fail
  change Code.wp _ _ _ _ (w.alloc (.cells (certQ c).toArray 27))
  generalize w.alloc (.cells (certQ c).toArray 27) = w1 at *
  have hx2 := K.out.x
  simp only [certQ] at hx2
  have z0 := (lit_cell hx2 0).trans rfl; have z2 := (lit_cell hx2 2).trans rfl; have z3 := (lit_cell hx2 3).trans rfl; have z4 := (lit_cell hx2 4).trans rfl; have z5 := (lit_cell hx2 5).trans rfl
  clear hx2
  go_cut [4] from 13 (fun s4 wx => s4 = .bool (okC c) ∧ Hid (Wc w c wx))
  case first =>
    cases hd : digB c.root with
    | false =>
      rw [hd] at HD
      have HE := Lib.hid (show okC c = false by simp [okC, hd])
      clear hd
      go_wp2_with (first | (go_at_call 17; refine (HD.out _).mono ?_; rintro e w3 ⟨rfl, rfl⟩) | (go_at_call 18; with_reducible refine (HPP.out _ K.out).mono ?_; rintro e w4 ⟨rfl, b4⟩; have KP := Lib.hid (K.out.next b4); clear b4; have hx4 := KP.out.x; simp only [certQ] at hx4; have y2 := (lit_cell hx4 2).trans rfl; have y3 := (lit_cell hx4 3).trans rfl; have y4 := (lit_cell hx4 4).trans rfl; clear hx4) | (go_at_call 18; with_reducible refine (HSP.out _ KP.out).mono ?_; rintro e w5 ⟨rfl, b5⟩; have KQ := Lib.hid (KP.out.next b5); clear b5; have hx5 := KQ.out.x; simp only [certQ] at hx5; have x2 := (lit_cell hx5 2).trans rfl; have x3 := (lit_cell hx5 3).trans rfl; clear hx5))
      go_meet
      exact ⟨by rw [HE.out], K⟩
    | true =>
      rw [hd] at HD
      cases hp : mayB c.pp 10240 with
      | false =>
        rw [hp] at HPP
        have HE := Lib.hid (show okC c = false by simp [okC, hp])
        clear hd hp
        go_wp2_with (first | (go_at_call 17; refine (HD.out _).mono ?_; rintro e w3 ⟨rfl, rfl⟩) | (go_at_call 18; with_reducible refine (HPP.out _ K.out).mono ?_; rintro e w4 ⟨rfl, b4⟩; have KP := Lib.hid (K.out.next b4); clear b4; have hx4 := KP.out.x; simp only [certQ] at hx4; have y2 := (lit_cell hx4 2).trans rfl; have y3 := (lit_cell hx4 3).trans rfl; have y4 := (lit_cell hx4 4).trans rfl; clear hx4) | (go_at_call 18; with_reducible refine (HSP.out _ KP.out).mono ?_; rintro e w5 ⟨rfl, b5⟩; have KQ := Lib.hid (KP.out.next b5); clear b5; have hx5 := KQ.out.x; simp only [certQ] at hx5; have x2 := (lit_cell hx5 2).trans rfl; have x3 := (lit_cell hx5 3).trans rfl; clear hx5))
        go_meet
        exact ⟨by rw [HE.out], KP⟩
      | true =>
        rw [hp] at HPP
        cases hs : mayB c.sp 10240 with
        | false =>
          rw [hs] at HSP
          have HE := Lib.hid (show okC c = false by simp [okC, hs])
          clear hd hp hs
          go_wp2_with (first | (go_at_call 17; refine (HD.out _).mono ?_; rintro e w3 ⟨rfl, rfl⟩) | (go_at_call 18; with_reducible refine (HPP.out _ K.out).mono ?_; rintro e w4 ⟨rfl, b4⟩; have KP := Lib.hid (K.out.next b4); clear b4; have hx4 := KP.out.x; simp only [certQ] at hx4; have y2 := (lit_cell hx4 2).trans rfl; have y3 := (lit_cell hx4 3).trans rfl; have y4 := (lit_cell hx4 4).trans rfl; clear hx4) | (go_at_call 18; with_reducible refine (HSP.out _ KP.out).mono ?_; rintro e w5 ⟨rfl, b5⟩; have KQ := Lib.hid (KP.out.next b5); clear b5; have hx5 := KQ.out.x; simp only [certQ] at hx5; have x2 := (lit_cell hx5 2).trans rfl; have x3 := (lit_cell hx5 3).trans rfl; clear hx5))
          go_meet
          exact ⟨by rw [HE.out], KQ⟩
        | true =>
          rw [hs] at HSP
          have HE := Lib.hid (show okC c = (decide (c.coins.length ≤ 640) && decide (c.rl.length ≤ 640)) by simp [okC, hd, hp, hs])
          clear hd hp hs
          by_cases h1 : c.coins.length ≤ 640
          · have j1 : (c.coins.length : Int) ≤ 640 := by omega
            by_cases h2 : c.rl.length ≤ 640
            · have j2 : (c.rl.length : Int) ≤ 640 := by omega
              have HE := Lib.hid (show okC c = true by rw [HE.out, decide_eq_true h1, decide_eq_true h2]; rfl)
              clear h1 h2
              go_wp2_with (first | (go_at_call 17; refine (HD.out _).mono ?_; rintro e w3 ⟨rfl, rfl⟩) | (go_at_call 18; with_reducible refine (HPP.out _ K.out).mono ?_; rintro e w4 ⟨rfl, b4⟩; have KP := Lib.hid (K.out.next b4); clear b4; have hx4 := KP.out.x; simp only [certQ] at hx4; have y2 := (lit_cell hx4 2).trans rfl; have y3 := (lit_cell hx4 3).trans rfl; have y4 := (lit_cell hx4 4).trans rfl; clear hx4) | (go_at_call 18; with_reducible refine (HSP.out _ KP.out).mono ?_; rintro e w5 ⟨rfl, b5⟩; have KQ := Lib.hid (KP.out.next b5); clear b5; have hx5 := KQ.out.x; simp only [certQ] at hx5; have x2 := (lit_cell hx5 2).trans rfl; have x3 := (lit_cell hx5 3).trans rfl; clear hx5))
              go_meet
              exact ⟨by (rw [HE.out]) <;> simp [*], KQ⟩
            · have j2 : ¬ (c.rl.length : Int) ≤ 640 := by omega
              have HE := Lib.hid (show okC c = false by rw [HE.out, decide_eq_true h1, decide_eq_false h2]; rfl)
              clear h1 h2
              go_wp2_with (first | (go_at_call 17; refine (HD.out _).mono ?_; rintro e w3 ⟨rfl, rfl⟩) | (go_at_call 18; with_reducible refine (HPP.out _ K.out).mono ?_; rintro e w4 ⟨rfl, b4⟩; have KP := Lib.hid (K.out.next b4); clear b4; have hx4 := KP.out.x; simp only [certQ] at hx4; have y2 := (lit_cell hx4 2).trans rfl; have y3 := (lit_cell hx4 3).trans rfl; have y4 := (lit_cell hx4 4).trans rfl; clear hx4) | (go_at_call 18; with_reducible refine (HSP.out _ KP.out).mono ?_; rintro e w5 ⟨rfl, b5⟩; have KQ := Lib.hid (KP.out.next b5); clear b5; have hx5 := KQ.out.x; simp only [certQ] at hx5; have x2 := (lit_cell hx5 2).trans rfl; have x3 := (lit_cell hx5 3).trans rfl; clear hx5))
              go_meet
              exact ⟨by (rw [HE.out]) <;> simp [*], KQ⟩
          · have j1 : ¬ (c.coins.length : Int) ≤ 640 := by omega
            have HE := Lib.hid (show okC c = false by rw [HE.out, decide_eq_false h1]; rfl)
            clear h1
            go_wp2_with (first | (go_at_call 17; refine (HD.out _).mono ?_; rintro e w3 ⟨rfl, rfl⟩) | (go_at_call 18; with_reducible refine (HPP.out _ K.out).mono ?_; rintro e w4 ⟨rfl, b4⟩; have KP := Lib.hid (K.out.next b4); clear b4; have hx4 := KP.out.x; simp only [certQ] at hx4; have y2 := (lit_cell hx4 2).trans rfl; have y3 := (lit_cell hx4 3).trans rfl; have y4 := (lit_cell hx4 4).trans rfl; clear hx4) | (go_at_call 18; with_reducible refine (HSP.out _ KP.out).mono ?_; rintro e w5 ⟨rfl, b5⟩; have KQ := Lib.hid (KP.out.next b5); clear b5; have hx5 := KQ.out.x; simp only [certQ] at hx5; have x2 := (lit_cell hx5 2).trans rfl; have x3 := (lit_cell hx5 3).trans rfl; clear hx5))
            go_meet
            exact ⟨by (rw [HE.out]) <;> simp [*], KQ⟩
  case rest =>
  obtain ⟨rfl, K⟩ := hcut
  have hk0 : okC c = (okC c && (c.rl.take 0).all fun x => mayRevB x.r) := by simp
  go_wp2
  go_loopw [4, 5] (fun s4 s5 wr => ∃ k : Nat, k ≤ c.rl.length ∧ s5 = .int .i64 (k : Int) ∧ s4 = .bool (okC c && (c.rl.take k).all fun x => mayRevB x.r) ∧ Hid (Wc w c wr)) (fun _ s5 _ => c.rl.length - (intOf s5).toNat)
  case atStart => exact ⟨0, Nat.zero_le _, rfl, by rw [← hk0], K⟩
  case round =>
    clear K hk0
    obtain ⟨k, hk, rfl, rfl, K⟩ := hrel
    have hx2 := K.out.x
    simp only [certQ] at hx2
    have y2 := (lit_cell hx2 2).trans rfl
    clear hx2
    by_cases hlt : k < c.rl.length
    · have k0 : (0 : Int) ≤ (k : Int) := by omega
      have k1 : (k : Int) < (c.rl.length : Int) := by omega
      have k6 : (k : Int) ≤ 1000000 := by omega
      obtain ⟨b1, o1, h1, hb1, hc1⟩ := revs_at (HMM.out.r.below K.out.o) hlt
      obtain ⟨c0, c1, c2, c3, c4, c5, c6, c7, c8, c9, c10⟩ := rev_cells (q := o1 + k * 11) hc1
      rw [h1] at y2
      have HQ := Lib.hid (show (okC c && (c.rl.take (k + 1)).all fun x => mayRevB x.r) = ((okC c && (c.rl.take k).all fun x => mayRevB x.r) && mayRevB c.rl[k].r) by rw [all_rev c.rl k hlt, Bool.and_assoc])
      have HXM := HMM.out.x c.rl[k] (List.getElem_mem _)
      have HDR := Lib.hid (fun wz => wdigest_any c.rl[k].r.part.root wz)
      have HSG := Lib.hid (fun wz (h : Wc w c wz) => maySig_any c.rl[k].r.slot.sig c.rl[k].wa c.rl[k].pa c.rl[k].wc c.rl[k].pc wz ⟨HXM.1.below (Nat.le_refl _) h.o, HXM.2.below (Nat.le_refl _) h.o⟩ (HBB.out.rs _ (List.getElem_mem _)).1)
      have HRV := Lib.hid (show mayRevB c.rl[k].r = (digB c.rl[k].r.part.root && maySigB c.rl[k].r.slot.sig) from rfl)
      have HLT := Lib.hid hlt
      clear hc1 HXM
      generalize (okC c && (c.rl.take k).all fun x => mayRevB x.r) = q at *
      generalize c.rl[k] = x at *
      clear hlt hk
      obtain ⟨⟨pos, ⟨sl, ss, ⟨si, sw, sp⟩⟩, pt⟩, xa, xc, xp, xd⟩ := x
      dsimp only at *
      cases q with
      | false =>
        go_wp2
        go_roundw
        case rel => exact ⟨k + 1, HLT.out, by go_num, by rw [HQ.out]; rfl, K⟩
        case measure => have := HLT.out; simp [intOf]; omega
      | true =>
        cases hd : digB pt.root with
        | false =>
          rw [hd] at HDR
          have HRF := Lib.hid (show mayRevB ⟨pos, ⟨sl, ss, ⟨si, sw, sp⟩⟩, pt⟩ = false by rw [HRV.out, hd]; rfl)
          clear hd
          go_wp2_with (go_at_call 17; refine (HDR.out _).mono ?_; rintro e w3 ⟨rfl, rfl⟩)
          go_roundw
          case rel => exact ⟨k + 1, HLT.out, by go_num, by rw [HQ.out, HRF.out]; rfl, K⟩
          case measure => have := HLT.out; simp [intOf]; omega
        | true =>
          rw [hd] at HDR
          have HRF := Lib.hid (show mayRevB ⟨pos, ⟨sl, ss, ⟨si, sw, sp⟩⟩, pt⟩ = maySigB ⟨si, sw, sp⟩ by rw [HRV.out, hd]; rfl)
          clear hd
          generalize maySigB ⟨si, sw, sp⟩ = v at *
          go_wp2_with (first | (go_at_call 17; refine (HDR.out _).mono ?_; rintro e w3 ⟨rfl, rfl⟩) | (go_at_call 19; refine (HSG.out _ K.out).mono ?_; rintro e w4 ⟨rfl, b4⟩; have KS := Lib.hid (K.out.next b4); clear b4))
          go_roundw
          case rel => exact ⟨k + 1, HLT.out, by go_num, by rw [HQ.out, HRF.out]; rfl, KS⟩
          case measure => have := HLT.out; simp [intOf]; omega
    · have k1 : ¬ (k : Int) < (c.rl.length : Int) := by omega
      have hq : (okC c && (c.rl.take k).all fun x => mayRevB x.r) = false := by rw [List.take_of_length_le (by omega), ← mayCert_ok]; exact HNO.out
      rw [hq]
      clear hq
      go_wp2
      refine bodyPost_ret (v := .tuple #[.string ⟨#[]⟩, .int .i64 2]) (by simp [results, Tryz.results6, go_sem]) rfl ⟨rfl, K.out.o⟩
end Go.Proofs.YtlhmmplkdjibkaaGreatDoor
