/- Public, Sign and Recover. -/
import Derived.Test.YtmnklonoelpidaaGreatDoorJ28
import Derived.Test.YtmnklonoelpidaaGreatDoorJ26
import Derived.Test.YtmnklonoelpidaaGreatDoorJ30
import Derived.Test.YtmnklonoelpidaaGreatDoorJ29
namespace Go.Proofs.YtmnklonoelpidaaGreatDoor
open Go.RowKit

theorem HandsRead.weaken {P : Program} {gf : Nat} {lb : Array Value} {enc : Nat → Array Value} {N : Nat} {ok ok2 : World → Prop} (H : HandsRead P gf lb enc N ok) (h : ∀ W, ok2 W → ok W) : HandsRead P gf lb enc N ok2 := by
  intro l J W hok hY h0
  refine H l J W (h W hok) (fun k W1 W' hk hj hkp => ?_) h0
  obtain ⟨fn, tmps, assign, body, hy, hR⟩ := hY k W1 W' hk hj hkp
  exact ⟨fn, tmps, assign, body, hy, hR.mono fun e w2 h2 => ⟨h2.1, h2.2.1, h _ h2.2.2⟩⟩
theorem enters_k : ∀ args w, (callFunc 65 args).run Tryz.prog w = .ok (.enter 65 args) w := enters_of Tryz.func65 (by kernel_rfl) rfl
theorem enters_s : ∀ args w, (callFunc 125 args).run Tryz.prog w = .ok (.enter 125 args) w := enters_of Tryz.func125 (by kernel_rfl) rfl
theorem enters_e : ∀ args w, (callFunc 130 args).run Tryz.prog w = .ok (.enter 130 args) w := enters_of Tryz.func130 (by kernel_rfl) rfl
theorem enters_a : ∀ args w, (callFunc 114 args).run Tryz.prog w = .ok (.enter 114 args) w := enters_of Tryz.func114 (by kernel_rfl) rfl
set_option maxRecDepth 100000 in
set_option maxHeartbeats 2000000 in
theorem public_any (g : Nat) (rv : Value) (f : Nat → (List UInt8)) (w : World) (hg : Glob w) (hcg : ∀ args w, (callFunc g args).run Tryz.prog w = .ok (.enter g args) w) (hf : ∀ i, i < 67 → (f i).length ≤ 10000000)
    (HS : ∀ i : Nat, i < 67 → ∀ W, Below w.heap.size w W → Calls Tryz.prog g #[rv, .int .i64 (i : Int), .int .i64 15] W fun e w' => e = .returned (.string ⟨(f i).toArray⟩) ∧ Below W.heap.size W w') :
    Calls Tryz.prog 66 #[.func (.func g) #[rv] #[]] w fun e w' => e = .returned (.string ⟨(hashL publicT (row67 f)).toArray⟩) ∧ Below w.heap.size w w' := by
  have HE := Lib.hid (fun wz => ends_calls wz)
  have HGA := Lib.hid (gathered_any g 130 rv #[] (fun _ => 15) f w hcg enters_e HS (ends_hands _))
  have HH := Lib.hid (fun wz b (hb : Below w.heap.size w wz) (h : Strs (some ⟨b, 0, none⟩) (row67 f) wz) => hash_any publicT (some ⟨b, 0, none⟩) 67 (row67 f) wz (hg.below hg.size hb) h (by decide) (by have := framed67 publicT f (by decide) hf; omega))
  rw [row67_len] at HH
  clear hg hcg hf HS
  go_enter Tryz.func66, Tryz.ntmps66
  go_wp2_with (first
    | (go_at_call 95; refine (HE.out _).mono ?_; rintro e w1 ⟨rfl, hw1⟩; have hw1 := hw1.symm; subst hw1)
    | (go_at_call 81; refine HGA.out.mono ?_; rintro e w2 ⟨b, rfl, hs, hb⟩; have HB := Lib.hid hb; have HSS := Lib.hid hs; clear hs hb)
    | (go_at_call 41; refine (HH.out _ _ HB.out HSS.out).mono ?_; rintro e w3 ⟨rfl, hb3⟩; have HB3 := Lib.hid (below_next HB.out hb3); clear hb3))
  go_ret
  exact ⟨rfl, HB3.out⟩
set_option maxRecDepth 100000 in
set_option maxHeartbeats 2000000 in
theorem Public_any (s : (List UInt8)) (n : Nat) (w : World) (hg : Glob w) (hs : s.length ≤ 10000000) : Calls Tryz.prog 27 #[.string ⟨s.toArray⟩, .int .u64 (n : Int)] w fun e w' => e = .returned (.string ⟨(pubF s n).toArray⟩) ∧ Below w.heap.size w w' := by
  have HP := Lib.hid (public_any 65 (.agg #[.string ⟨s.toArray⟩, .int .u64 (n : Int)]) (fun i => walkV i 0 15 (secF s n i)) w hg enters_k (fun i hi => by have := walkV_len32 i 0 15 (secF s n i) (secF_len s n i); exact Nat.le_trans this (by decide))
    (fun i hi W hW => kstands_any s n i 15 W (hg.below hg.size hW) hs (by omega)))
  have HE := Lib.hid (show pubF s n = hashL publicT (row67 fun i => walkV i 0 15 (secF s n i)) from rfl)
  rw [← HE.out] at HP
  clear hg hs HE
  go_enter Tryz.func27, Tryz.ntmps27
  go_wp2_with (go_at_call 66; refine HP.out.mono ?_; rintro e w1 ⟨rfl, hb1⟩; have HB := Lib.hid hb1; clear hb1)
  go_ret
  exact ⟨rfl, HB.out⟩
set_option maxRecDepth 100000 in
set_option maxHeartbeats 2000000 in
theorem Sign_any (s : (List UInt8)) (n : Nat) (d : (List UInt8)) (w : World) (hg : Glob w) (hs : s.length ≤ 10000000) (hd : d.length ≤ 1000000000) :
    Calls Tryz.prog 52 #[.string ⟨s.toArray⟩, .int .u64 (n : Int), .string ⟨d.toArray⟩] w fun e w' => ∃ ao cp, e = .returned (.tuple #[.slice ao (signC s n d).1.length cp, .int .i64 (signC s n d).2]) ∧ Strs ao (signC s n d).1 w' ∧ (signC s n d).1.length ≤ cp ∧ Below w.heap.size w w' := by
  have HNO := Lib.hid (fun wz => wisno_any d wz hd)
  by_cases h32 : d.length = 32
  · rw [signC_yes h32]
    rw [decide_eq_false (fun h => h h32)] at HNO
    have hl : (sigL s n d).length = 67 := by rw [sigL, row67_len]
    have HL := Lib.hid hl
    have HDG := Lib.hid (fun wz (h : Below w.heap.size w wz) => chainC.d d wz (hg.below hg.size h) (by unfold maxLen; omega))
    have HDC := Lib.hid (show digC d = digL d from if_pos h32)
    have HDL := Lib.hid (digL_len h32)
    have HAL := Lib.hid (fun ao cp wz => all_calls ao 67 cp wz)
    have HH := Lib.hid (fun bx db off cp => all_hands bx db off cp (digL d) (digL_len h32))
    have HGA := Lib.hid (fun wz (hb : Below w.heap.size w wz) bx hp => gathered_any 65 114 (.agg #[.string ⟨s.toArray⟩, .int .u64 (n : Int)]) #[.pointer (some ⟨bx, 0, none⟩)] (fun i => dgt d i) (fun i => walkV i 0 (dgt d i : Nat) (secF s n i)) wz enters_k enters_a
      (fun i hi W hW => kstands_any s n i (dgt d i) W (hg.below hg.size (below_next hb hW)) hs (by omega)) hp)
    have HE := Lib.hid (show sigL s n d = row67 fun i => walkV i 0 (dgt d i : Nat) (secF s n i) from rfl)
    rw [← HE.out] at HGA
    clear hs h32 hg hd hl HE
    go_enter Tryz.func52, Tryz.ntmps52
    go_wp2_with (go_at_call 80; refine (HNO.out _).mono ?_; rintro e w0 ⟨rfl, rfl⟩)
    refine (HDG.out _ (Below.refl _ _)).mono ?_
    rintro e w1 ⟨da, dc, rfl, hdi, hdb⟩
    rw [HDC.out] at hdi
    rw [HDC.out, HDL.out]
    obtain ⟨db, doff, rfl, hdv⟩ := Ints.get hdi (by rw [HDL.out]; decide)
    have HB1 := Lib.hid hdb
    have HDV := Lib.hid hdv
    clear hdi hdb hdv HDG
    go_wp2_with (go_at_call 82; refine (HAL.out _ _ _).mono ?_; rintro e w2 ⟨rfl, hw2⟩; have hw2 := hw2.symm; subst hw2)
    have hb2 := below_next HB1.out (by0 w1 (.cells #[.slice (some ⟨db, doff, none⟩) 67 dc] 121))
    have hbx : (w1.alloc (.cells #[.slice (some ⟨db, doff, none⟩) 67 dc] 121)).cell? ⟨w1.heap.size, 0, none⟩ = some (.slice (some ⟨db, doff, none⟩) 67 dc) := (lit_cell (heap_alloc_new w1 _) 0).trans rfl
    have hok : ∀ W, Below (w1.alloc (.cells #[.slice (some ⟨db, doff, none⟩) 67 dc] 121)).heap.size (w1.alloc (.cells #[.slice (some ⟨db, doff, none⟩) 67 dc] 121)) W → AllOk w1.heap.size db doff dc (digL d) W := fun W hW => by
      refine ⟨by rw [HDL.out]; exact key_keep hW hbx, fun k x hx => key_keep hW (key_keep (by0 w1 _) (HDV.out k x hx))⟩
    refine (HGA.out _ hb2 w1.heap.size ((HH.out w1.heap.size db doff dc).weaken hok)).mono ?_
    rintro e w3 ⟨b, rfl, hs3, hb3⟩
    have HS3 := Lib.hid hs3
    have HB3 := Lib.hid (below_next hb2 hb3)
    clear hs3 hb3 hok hbx hb2 HGA HH HAL
    go_wp2
    refine bodyPost_ret (v := .tuple #[.slice (some ⟨b, 0, none⟩) 67 67, .int .i64 0]) (by simp [results, Tryz.results52, go_sem]) rfl ⟨some ⟨b, 0, none⟩, 67, by rw [HL.out]; rfl, HS3.out, by rw [HL.out]; exact Nat.le_refl _, HB3.out⟩
  · rw [signC_no h32]
    rw [decide_eq_true h32] at HNO
    clear h32 hs hg hd
    go_enter Tryz.func52, Tryz.ntmps52
    go_wp2_with (go_at_call 80; refine (HNO.out _).mono ?_; rintro e w0 ⟨rfl, rfl⟩)
    refine bodyPost_ret (v := .tuple #[.slice none 0 0, .int .i64 2]) (by simp [results, Tryz.results52, go_sem]) rfl ⟨none, 0, rfl, .inl rfl, Nat.le_refl _, Below.refl _ _⟩
set_option maxRecDepth 100000 in
set_option maxHeartbeats 2000000 in
theorem Recover_any (g : List (List UInt8)) (ao : Option Addr) (cp : Nat) (d : (List UInt8)) (w : World) (hg : Glob w) (hS : Strs ao g w) (hl : g.length ≤ 100000) (hgl : ∀ x ∈ g, x.length ≤ 10000000) (hd : d.length ≤ 1000000000) :
    Calls Tryz.prog 89 #[.slice ao g.length cp, .string ⟨d.toArray⟩] w fun e w' => e = .returned (.tuple #[.string ⟨(recC g d).1.toArray⟩, .int .i64 (recC g d).2]) ∧ Below w.heap.size w w' := by
  have HNO := Lib.hid (fun wz => wisno_any d wz hd)
  by_cases h32 : d.length = 32
  · rw [decide_eq_false (fun h => h h32)] at HNO
    have HNS := Lib.hid (wnosig_any ao cp g w hS hl (fun i h => Nat.le_trans (hgl _ (List.getElem_mem h)) (by decide)))
    by_cases hsg : isSig g = true
    · rw [hsg] at HNS
      rw [recC_yes h32 hsg]
      have h67 : g.length = 67 := by
        rw [isSig, Bool.and_eq_true] at hsg
        simpa using hsg.1
      have HL := Lib.hid h67
      have HDG := Lib.hid (chainC.d d w hg (by unfold maxLen; omega))
      have HDC := Lib.hid (show digC d = digL d from if_pos h32)
      have HDL := Lib.hid (digL_len h32)
      have HDA := Lib.hid (fun i (hi : i < 67) => dgt_at h32 hi)
      obtain ⟨gb, go, rfl, -⟩ := hS.cell 0 (by omega)
      have HGC := Lib.hid (show ∀ i : Nat, i < 67 → w.cell? ⟨gb, go + i, none⟩ = some (.string ⟨(g.getD i []).toArray⟩) ∧ (g.getD i []).length ≤ 32 from fun i hi => by
        have hi2 : i < g.length := by omega
        obtain ⟨b', o', e', hc⟩ := hS.cell i hi2
        cases e'
        rw [show g.getD i [] = g[i] by rw [List.getD_eq_getElem?_getD, List.getElem?_eq_getElem hi2]; rfl]
        rw [isSig, Bool.and_eq_true, List.all_eq_true] at hsg
        have := hsg.2 _ (List.getElem_mem hi2)
        exact ⟨hc, by simp at this; omega⟩)
      have HPU := Lib.hid (fun wz db doff dc (hb : Below w.heap.size w wz) (hdv : ∀ k x : Nat, (digL d)[k]? = some x → wz.cell? ⟨db, doff + k, none⟩ = some (.int .i64 (x : Int))) => public_any 125 (.agg #[.slice (some ⟨gb, go, none⟩) 67 cp, .slice (some ⟨db, doff, none⟩) 67 dc]) (fun i => walkV i (dgt d i : Nat) 15 (g.getD i [])) wz (hg.below hg.size hb) enters_s
        (fun i hi => by have := walkV_len32 i (dgt d i) 15 (g.getD i []) (HGC.out i hi).2; exact Nat.le_trans this (by decide))
        (fun i hi W hW => sstands_any gb go cp db doff dc i (dgt d i) 15 (g.getD i []) W (hg.below hg.size (below_next hb hW)) hi (Nat.le_trans (HGC.out i hi).2 (by decide)) (key_keep (below_next hb hW) (HGC.out i hi).1) (key_keep hW (hdv i _ (HDA.out i hi)))))
      have HE := Lib.hid (show recF g d = hashL publicT (row67 fun i => walkV i (dgt d i : Nat) 15 (g.getD i [])) from rfl)
      rw [← HE.out] at HPU
      rw [HL.out] at HNS ⊢
      clear hS hl hgl hd h32 hsg h67 hg HE HDA HGC
      go_enter Tryz.func89, Tryz.ntmps89
      go_wp2_with (first
        | (go_at_call 80; refine (HNO.out _).mono ?_; rintro e w0 ⟨rfl, rfl⟩)
        | (go_at_call 124; refine HNS.out.mono ?_; rintro e w0 ⟨rfl, rfl⟩))
      refine HDG.out.mono ?_
      rintro e w1 ⟨da, dc, rfl, hdi, hdb⟩
      rw [HDC.out] at hdi
      rw [HDC.out, HDL.out]
      obtain ⟨db, doff, rfl, hdv⟩ := Ints.get hdi (by rw [HDL.out]; decide)
      have HP2 := Lib.hid (HPU.out w1 db doff dc hdb hdv)
      have HB1 := Lib.hid hdb
      clear hdi hdb hdv HDG HPU
      go_wp2_with (go_at_call 66; refine HP2.out.mono ?_; rintro e w2 ⟨rfl, hb2⟩; have HB2 := Lib.hid (below_next HB1.out hb2); clear hb2)
      refine bodyPost_ret (v := .tuple #[.string ⟨(recF g d).toArray⟩, .int .i64 0]) (by simp [results, Tryz.results89, go_sem]) rfl ⟨rfl, HB2.out⟩
    · rw [Bool.not_eq_true] at hsg
      rw [hsg] at HNS
      rw [recC_sig h32 hsg]
      clear hS hl hgl hd h32 hsg hg
      go_enter Tryz.func89, Tryz.ntmps89
      go_wp2_with (first
        | (go_at_call 80; refine (HNO.out _).mono ?_; rintro e w0 ⟨rfl, rfl⟩)
        | (go_at_call 124; refine HNS.out.mono ?_; rintro e w0 ⟨rfl, rfl⟩))
      refine bodyPost_ret (v := .tuple #[.string ⟨#[]⟩, .int .i64 10]) (by simp [results, Tryz.results89, go_sem]) rfl ⟨rfl, Below.refl _ _⟩
  · rw [recC_arg h32]
    rw [decide_eq_true h32] at HNO
    clear hS hl hgl hd h32 hg
    go_enter Tryz.func89, Tryz.ntmps89
    go_wp2_with (go_at_call 80; refine (HNO.out _).mono ?_; rintro e w0 ⟨rfl, rfl⟩)
    refine bodyPost_ret (v := .tuple #[.string ⟨#[]⟩, .int .i64 2]) (by simp [results, Tryz.results89, go_sem]) rfl ⟨rfl, Below.refl _ _⟩
theorem wotsC : WotsC := ⟨fun s n w hg hs _ => Public_any s n w hg (by omega), fun s n d w hg hs _ hd => Sign_any s n d w hg (by omega) (by omega), fun g ao cp d w hg hS hl hgl hd => Recover_any g ao cp d w hg hS (by omega) (fun x hx => Nat.le_trans (hgl x hx) (by decide)) (by omega)⟩
end Go.Proofs.YtmnklonoelpidaaGreatDoor
