/- Layer 14's law: works. -/
import Derived.Test.YtmnklonoelpidaaGreatDoorJ37
import Derived.Test.YtmnklonoelpidaaGreatDoorJ35
import Derived.Test.YtmnklonoelpidaaGreatDoorJ26
import Derived.Test.YtmnklonoelpidaaGreatDoorJ29
import Derived.Deep.RegionHeld3
namespace Go.Proofs.YtmnklonoelpidaaGreatDoor
open Go.RowKit

theorem strOne' {wz : World} {X : Nat} {t : (List UInt8)} (h : wz.cell? ⟨X, 0, none⟩ = some (.string ⟨t.toArray⟩)) : Strs (some ⟨X, 0, none⟩) [t] wz := .inr ⟨X, 0, rfl, World.block_lt_of_cell? wz _ h, fun i hi => by
  have hi0 : i = 0 := by simp at hi; omega
  subst hi0
  exact h⟩
/-- what a walk keeps: its ladder, a signature and a participant in boxes -/
structure Wk14 (Ld : Nat → (List UInt8) → Nat → Nat → Nat → World → Prop) (w0 : World) (b : Nat) (s : (List UInt8)) (f l n A B : Nat) (cs ds : Array Value) (wo po : Option Addr) (W P : List (List UInt8)) (wz : World) : Prop where
  o : Below w0.heap.size w0 wz
  l : Ld b s f l n wz
  x : wz.heap[A]? = some (.cells cs 48 (0, 0))
  y : wz.heap[B]? = some (.cells ds 39 (0, 0))
  hw : Strs wo W wz
  hp : Strs po P wz
theorem Wk14.next {Ld : Nat → (List UInt8) → Nat → Nat → Nat → World → Prop} (L : LadderC Ld) {w0 wz wa : World} {b : Nat} {s : (List UInt8)} {f l n A B : Nat} {cs ds : Array Value} {wo po : Option Addr} {W P : List (List UInt8)} (h : Wk14 Ld w0 b s f l n A B cs ds wo po W P wz) (hb : Below wz.heap.size wz wa) : Wk14 Ld w0 b s f l n A B cs ds wo po W P wa :=
  ⟨h.o.trans (hb.mono h.o.size), L.ck h.l hb, (hb.block _ (lit_lt h.x)).trans h.x, (hb.block _ (lit_lt h.y)).trans h.y, h.hw.below (Nat.le_refl _) hb, h.hp.below (Nat.le_refl _) hb⟩
/-- what the law's works answers -/
def WorksL : Prop := ∀ w : World, Glob w → Calls Tryz.prog 13 #[] w fun e w' => e = .returned (.bool true) ∧ Below w.heap.size w w'
set_option maxRecDepth 100000 in
set_option maxHeartbeats 8000000 in
theorem works14_any {Ld : Nat → (List UInt8) → Nat → Nat → Nat → World → Prop} (L : LadderC Ld) (C : WotsC) : WorksL := by
  intro w hg
  have HGB := Lib.hid (fun wz (h : Below w.heap.size w wz) => hg.below hg.size h)
  obtain ⟨S, hS⟩ : ∃ S, S = txtF 115 32 := ⟨_, rfl⟩
  obtain ⟨D, hD⟩ : ∃ D, D = txtF 100 32 := ⟨_, rfl⟩
  have hsl : S.length = 32 := by rw [hS, txtF_len]
  have hdl : D.length = 32 := by rw [hD, txtF_len]
  have HTS := Lib.hid (fun wz => show Calls Tryz.prog 9 #[.int .u8 115, .int .i64 32] wz fun e w' => e = .returned (.string ⟨S.toArray⟩) ∧ Below wz.heap.size wz w' by rw [hS]; exact text14_any 115 32 wz (by decide) (by decide))
  have HTD := Lib.hid (fun wz => show Calls Tryz.prog 9 #[.int .u8 100, .int .i64 32] wz fun e w' => e = .returned (.string ⟨D.toArray⟩) ∧ Below wz.heap.size wz w' by rw [hD]; exact text14_any 100 32 wz (by decide) (by decide))
  have HFI := Lib.hid (show FineL S 7 3 1 from ⟨hsl, by decide, by decide, by decide, by decide⟩)
  have HNW := Lib.hid (fun wz (h : Below w.heap.size w wz) => show Calls Tryz.prog 10 #[.string ⟨S.toArray⟩, .int .u64 7, .int .u64 3, .int .i64 1] wz fun e w' => ∃ b, e = .returned (.tuple #[.pointer (some ⟨b, 0, none⟩), .int .i64 0]) ∧ Ld b S 7 3 1 w' ∧ Below wz.heap.size wz w' from L.cn S 7 3 1 wz (HGB.out wz h) HFI.out)
  obtain ⟨W, hW⟩ : ∃ W, W = sigL S 0 D := ⟨_, rfl⟩
  obtain ⟨P, hP⟩ : ∃ P, P = proofD (rungsL S 1) [0] := ⟨_, rfl⟩
  obtain ⟨R, hR⟩ : ∃ R, R = rootS S 1 := ⟨_, rfl⟩
  have hwl : W.length = 67 := by rw [hW, sigL, row67_len]
  have hpl : P.length = 0 := by rw [hP]; exact path_one S
  have hk9 : keyF 7 3 1 9 = (0, true) := by decide
  have HSG := Lib.hid (fun b wz (h : Below w.heap.size w wz) (hl : Ld b S 7 3 1 wz) => show Calls Tryz.prog 20 #[.pointer (some ⟨b, 0, none⟩), .int .u64 9, .string ⟨D.toArray⟩] wz fun e w' => ∃ (wo po : Option Addr) (wc pc : Nat), e = .returned (.tuple #[.agg #[.int .u64 0, .slice wo 67 wc, .slice po 0 pc], .int .i64 0]) ∧ Strs wo W w' ∧ Strs po P w' ∧ Below wz.heap.size wz w' by
    have h1 := L.cs b S 7 3 1 9 D wz (HGB.out wz h) HFI.out hl (by decide) (by omega)
    have ha : signA S 7 3 1 9 D = ⟨0, 0, W, P⟩ := by rw [signA, hk9, if_neg (by decide), if_neg (by omega), hW, hP]
    rw [ha] at h1
    refine h1.mono ?_
    rintro e w' ⟨wo, po, wc, pc, h2, h3, h4, _, h5⟩
    exact ⟨wo, po, wc, pc, by rw [h2]; simp only [hwl, hpl]; rfl, h3, h4, h5⟩)
  have HPA := Lib.hid (fun b wz (h : Below w.heap.size w wz) (hl : Ld b S 7 3 1 wz) => show Calls Tryz.prog 16 #[.pointer (some ⟨b, 0, none⟩), .int .u64 5] wz fun e w' => e = .returned (.agg #[.string ⟨R.toArray⟩, .int .u64 5, .int .u64 7, .int .u64 3, .int .u64 1]) ∧ Below wz.heap.size wz w' by rw [hR]; exact L.cp b S 7 3 1 5 wz (HGB.out wz h) HFI.out hl (by decide))
  have HRO := Lib.hid (fun b wz (h : Below w.heap.size w wz) (hl : Ld b S 7 3 1 wz) => show Calls Tryz.prog 14 #[.pointer (some ⟨b, 0, none⟩)] wz fun e w' => e = .returned (.string ⟨R.toArray⟩) ∧ Below wz.heap.size wz w' by rw [hR]; exact L.cr b S 7 3 1 wz (HGB.out wz h) HFI.out hl)
  have hrl : R.length = 32 := by rw [hR]; exact rootS_32 S 1
  have HV7 := Lib.hid (fun wo po wc pc wz (h : Below w.heap.size w wz) (h1 : Strs wo W wz) (h2 : Strs po P wz) => show Calls Tryz.prog 24 #[.agg #[.string ⟨R.toArray⟩, .int .u64 5, .int .u64 7, .int .u64 3, .int .u64 1], .int .u64 7, .string ⟨D.toArray⟩, .agg #[.int .u64 0, .slice wo 67 wc, .slice po 0 pc]] wz fun e w' => e = .returned (.int .i64 0) ∧ Below wz.heap.size wz w' by
    have h3 := L.cv R 5 7 3 1 7 D 0 W P wo po wc pc wz (HGB.out wz h) (by omega) (by decide) (by decide) (by decide) (by decide) (by decide) (by decide) (by omega) h1 h2 (by omega) (fun _ x hx => by rw [hW] at hx; exact Nat.le_trans (sig_short _ _ _ x hx) (by decide)) (by omega) (by omega) (fun _ x hx => by rw [List.length_eq_zero_iff.1 hpl] at hx; cases hx)
    have h4 : verV R 7 3 1 7 D 0 W P = 0 := by rw [hR, hW, hP]; exact ver_good hdl (by decide) (by decide) (by decide) (by decide)
    rw [h4, hwl, hpl] at h3
    exact h3)
  have HVA := Lib.hid (fun wo po wc pc wz (h : Below w.heap.size w wz) (h1 : Strs wo W wz) (h2 : Strs po P wz) => show Calls Tryz.prog 24 #[.agg #[.string ⟨R.toArray⟩, .int .u64 5, .int .u64 7, .int .u64 3, .int .u64 1], .int .u64 10, .string ⟨D.toArray⟩, .agg #[.int .u64 0, .slice wo 67 wc, .slice po 0 pc]] wz fun e w' => e = .returned (.int .i64 16) ∧ Below wz.heap.size wz w' by
    have h3 := L.cv R 5 7 3 1 10 D 0 W P wo po wc pc wz (HGB.out wz h) (by omega) (by decide) (by decide) (by decide) (by decide) (by decide) (by decide) (by omega) h1 h2 (by omega) (fun _ x hx => by rw [hW] at hx; exact Nat.le_trans (sig_short _ _ _ x hx) (by decide)) (by omega) (by omega) (fun _ x hx => by rw [List.length_eq_zero_iff.1 hpl] at hx; cases hx)
    have h4 : verV R 7 3 1 10 D 0 W P = 16 := ver_none hdl hrl (by decide) (by decide) (by decide) (by decide)
    rw [h4, hwl, hpl] at h3
    exact h3)
  have HNU := Lib.hid (fun wz => show Calls Tryz.prog 26 #[.int .u64 0] wz fun e w' => e = .returned (.string ⟨(numL 0).toArray⟩) ∧ Below wz.heap.size wz w' from num_any 0 wz)
  have HPU := Lib.hid (fun wz (h : Below w.heap.size w wz) => show Calls Tryz.prog 27 #[.string ⟨S.toArray⟩, .int .u64 0] wz fun e w' => e = .returned (.string ⟨(pubF S 0).toArray⟩) ∧ Below wz.heap.size wz w' from C.p S 0 wz (HGB.out wz h) (by omega) (by decide))
  have hpu : (pubF S 0).length ≤ 32 := hashL_len _ _
  have hct := fun w => run_cat (numL 0) (pubF S 0) (by rw [numL_length]; omega) w
  have HHA := Lib.hid (fun (X : Nat) wz (h : Below w.heap.size w wz) (hx : wz.cell? ⟨X, 0, none⟩ = some (.string ⟨(numL 0 ++ pubF S 0).toArray⟩)) => show Calls Tryz.prog 41 #[.string ⟨#[108, 101, 97, 102]⟩, .slice (some ⟨X, 0, none⟩) 1 1] wz fun e w' => e = .returned (.string ⟨R.toArray⟩) ∧ Below wz.heap.size wz w' by
    rw [hR, rootS_one]
    exact hash_any leafT (some ⟨X, 0, none⟩) 1 [numL 0 ++ pubF S 0] wz (HGB.out wz h) (strOne' hx) (by decide) (by
      have := framed_short leafT [numL 0 ++ pubF S 0] (by decide) (fun x hx => by
        simp at hx
        rw [hx, List.length_append, numL_length]; omega) (by simp)
      omega))
  generalize numL 0 ++ pubF S 0 = rg at *
  generalize pubF S 0 = pb at *
  generalize numL 0 = nm at *
  clear hS hD hsl hdl hW hP hR hwl hpl hk9 hrl hpu hg
  go_enter Tryz.func13, Tryz.ntmps13
  go_upto_region 2 with (first
    | (go_at_call 9; with_reducible refine (HTS.out _).mono ?_; rintro e w1 ⟨rfl, hb1⟩; have B1 := Lib.hid hb1; clear hb1)
    | (go_at_call 9; with_reducible refine (HTD.out _).mono ?_; rintro e w2 ⟨rfl, hb2⟩; have B2 := Lib.hid (below_next B1.out hb2); clear hb2))
  go_upto_region 5 with (go_at_call 10; with_reducible refine (HNW.out _ B2.out).mono ?_; rintro e w3 ⟨b, rfl, hl3, hb3⟩; have B3 := Lib.hid (below_next B2.out hb3); have L3 := Lib.hid hl3; clear hb3 hl3)
  clear HTS HTD HNW
  go_upto_region 6 with (go_at_call 20; with_reducible refine (HSG.out _ _ B3.out L3.out).mono ?_; rintro e w4 ⟨wo, po, wc, pc, rfl, hw4, hp4, hb4⟩; have B4 := Lib.hid (below_next B3.out hb4); have L4 := Lib.hid (L.ck L3.out hb4); have SW := Lib.hid hw4; have SP := Lib.hid hp4; clear hb4 hw4 hp4)
  obtain ⟨A, hA⟩ : ∃ A, A = w4.heap.size := ⟨_, rfl⟩
  have HX5 := Lib.hid (show (w4.alloc (.cells #[.int .u64 0, .slice wo 67 wc, .slice po 0 pc] 48)).heap[A]? = some (.cells #[.int .u64 0, .slice wo 67 wc, .slice po 0 pc] 48 (0, 0)) by rw [hA]; exact heap_alloc_new w4 _)
  have B5 := Lib.hid (below_next B4.out (by0 w4 (.cells #[.int .u64 0, .slice wo 67 wc, .slice po 0 pc] 48)))
  have L5 := Lib.hid (L.ck L4.out (by0 w4 (.cells #[.int .u64 0, .slice wo 67 wc, .slice po 0 pc] 48)))
  have SW := Lib.hid (SW.out.below (Nat.le_refl _) (by0 w4 (.cells #[.int .u64 0, .slice wo 67 wc, .slice po 0 pc] 48)))
  have SP := Lib.hid (SP.out.below (Nat.le_refl _) (by0 w4 (.cells #[.int .u64 0, .slice wo 67 wc, .slice po 0 pc] 48)))
  rw [← hA]
  generalize w4.alloc (.cells #[.int .u64 0, .slice wo 67 wc, .slice po 0 pc] 48) = w5 at *
  clear hA HSG B4 L4
  go_upto_region 7 with (go_at_call 16; with_reducible refine (HPA.out _ _ B5.out L5.out).mono ?_; rintro e w6 ⟨rfl, hb6⟩; have B6 := Lib.hid (below_next B5.out hb6); have L6 := Lib.hid (L.ck L5.out hb6); have SW := Lib.hid (SW.out.below (Nat.le_refl _) hb6); have SP := Lib.hid (SP.out.below (Nat.le_refl _) hb6); have HX6 := Lib.hid ((hb6.block _ (lit_lt HX5.out)).trans HX5.out); clear hb6)
  obtain ⟨B, hB⟩ : ∃ B, B = w6.heap.size := ⟨_, rfl⟩
  have HW7 := Lib.hid (show Wk14 Ld w b S 7 3 1 A B #[.int .u64 0, .slice wo 67 wc, .slice po 0 pc] #[.string ⟨R.toArray⟩, .int .u64 5, .int .u64 7, .int .u64 3, .int .u64 1] wo po W P (w6.alloc (.cells #[.string ⟨R.toArray⟩, .int .u64 5, .int .u64 7, .int .u64 3, .int .u64 1] 39)) from
    ⟨below_next B6.out (by0 w6 _), L.ck L6.out (by0 w6 _), lit_old _ HX6.out, by rw [hB]; exact heap_alloc_new w6 _, SW.out.below (Nat.le_refl _) (by0 w6 _), SP.out.below (Nat.le_refl _) (by0 w6 _)⟩)
  rw [← hB]
  generalize w6.alloc (.cells #[.string ⟨R.toArray⟩, .int .u64 5, .int .u64 7, .int .u64 3, .int .u64 1] 39) = w7 at *
  clear hB HPA B5 L5 B6 L6 SW SP HX5 HX6 B1 B2 B3 L3
  have HOF := Lib.hid (show ∀ wz, Wk14 Ld w b S 7 3 1 A B #[.int .u64 0, .slice wo 67 wc, .slice po 0 pc] #[.string ⟨R.toArray⟩, .int .u64 5, .int .u64 7, .int .u64 3, .int .u64 1] wo po W P wz → (wz.cell? ⟨A, 0, none⟩ = some (.int .u64 0) ∧ wz.cell? ⟨A, 1, none⟩ = some (.slice wo 67 wc) ∧ wz.cell? ⟨A, 2, none⟩ = some (.slice po 0 pc) ∧ wz.cell? ⟨B, 0, none⟩ = some (.string ⟨R.toArray⟩) ∧ wz.cell? ⟨B, 1, none⟩ = some (.int .u64 5) ∧ wz.cell? ⟨B, 2, none⟩ = some (.int .u64 7) ∧ wz.cell? ⟨B, 3, none⟩ = some (.int .u64 3) ∧ wz.cell? ⟨B, 4, none⟩ = some (.int .u64 1) ∧ Wk14 Ld w b S 7 3 1 A B #[.int .u64 0, .slice wo 67 wc, .slice po 0 pc] #[.string ⟨R.toArray⟩, .int .u64 5, .int .u64 7, .int .u64 3, .int .u64 1] wo po W P wz) from fun wz h => ⟨(lit_cell h.x 0).trans rfl, (lit_cell h.x 1).trans rfl, (lit_cell h.x 2).trans rfl, (lit_cell h.y 0).trans rfl, (lit_cell h.y 1).trans rfl, (lit_cell h.y 2).trans rfl, (lit_cell h.y 3).trans rfl, (lit_cell h.y 4).trans rfl, h⟩)
  have HAL := Lib.hid (show ∀ wz o, (wz.cell? ⟨A, 0, none⟩ = some (.int .u64 0) ∧ wz.cell? ⟨A, 1, none⟩ = some (.slice wo 67 wc) ∧ wz.cell? ⟨A, 2, none⟩ = some (.slice po 0 pc) ∧ wz.cell? ⟨B, 0, none⟩ = some (.string ⟨R.toArray⟩) ∧ wz.cell? ⟨B, 1, none⟩ = some (.int .u64 5) ∧ wz.cell? ⟨B, 2, none⟩ = some (.int .u64 7) ∧ wz.cell? ⟨B, 3, none⟩ = some (.int .u64 3) ∧ wz.cell? ⟨B, 4, none⟩ = some (.int .u64 1) ∧ Wk14 Ld w b S 7 3 1 A B #[.int .u64 0, .slice wo 67 wc, .slice po 0 pc] #[.string ⟨R.toArray⟩, .int .u64 5, .int .u64 7, .int .u64 3, .int .u64 1] wo po W P wz) → ((wz.alloc o).cell? ⟨A, 0, none⟩ = some (.int .u64 0) ∧ (wz.alloc o).cell? ⟨A, 1, none⟩ = some (.slice wo 67 wc) ∧ (wz.alloc o).cell? ⟨A, 2, none⟩ = some (.slice po 0 pc) ∧ (wz.alloc o).cell? ⟨B, 0, none⟩ = some (.string ⟨R.toArray⟩) ∧ (wz.alloc o).cell? ⟨B, 1, none⟩ = some (.int .u64 5) ∧ (wz.alloc o).cell? ⟨B, 2, none⟩ = some (.int .u64 7) ∧ (wz.alloc o).cell? ⟨B, 3, none⟩ = some (.int .u64 3) ∧ (wz.alloc o).cell? ⟨B, 4, none⟩ = some (.int .u64 1) ∧ Wk14 Ld w b S 7 3 1 A B #[.int .u64 0, .slice wo 67 wc, .slice po 0 pc] #[.string ⟨R.toArray⟩, .int .u64 5, .int .u64 7, .int .u64 3, .int .u64 1] wo po W P (wz.alloc o)) from fun wz o h => HOF.out _ (Wk14.next L h.2.2.2.2.2.2.2.2 (by0 wz o)))
  have HST := Lib.hid (show ∀ wz wa, (wz.cell? ⟨A, 0, none⟩ = some (.int .u64 0) ∧ wz.cell? ⟨A, 1, none⟩ = some (.slice wo 67 wc) ∧ wz.cell? ⟨A, 2, none⟩ = some (.slice po 0 pc) ∧ wz.cell? ⟨B, 0, none⟩ = some (.string ⟨R.toArray⟩) ∧ wz.cell? ⟨B, 1, none⟩ = some (.int .u64 5) ∧ wz.cell? ⟨B, 2, none⟩ = some (.int .u64 7) ∧ wz.cell? ⟨B, 3, none⟩ = some (.int .u64 3) ∧ wz.cell? ⟨B, 4, none⟩ = some (.int .u64 1) ∧ Wk14 Ld w b S 7 3 1 A B #[.int .u64 0, .slice wo 67 wc, .slice po 0 pc] #[.string ⟨R.toArray⟩, .int .u64 5, .int .u64 7, .int .u64 3, .int .u64 1] wo po W P wz) → Below wz.heap.size wz wa → (wa.cell? ⟨A, 0, none⟩ = some (.int .u64 0) ∧ wa.cell? ⟨A, 1, none⟩ = some (.slice wo 67 wc) ∧ wa.cell? ⟨A, 2, none⟩ = some (.slice po 0 pc) ∧ wa.cell? ⟨B, 0, none⟩ = some (.string ⟨R.toArray⟩) ∧ wa.cell? ⟨B, 1, none⟩ = some (.int .u64 5) ∧ wa.cell? ⟨B, 2, none⟩ = some (.int .u64 7) ∧ wa.cell? ⟨B, 3, none⟩ = some (.int .u64 3) ∧ wa.cell? ⟨B, 4, none⟩ = some (.int .u64 1) ∧ Wk14 Ld w b S 7 3 1 A B #[.int .u64 0, .slice wo 67 wc, .slice po 0 pc] #[.string ⟨R.toArray⟩, .int .u64 5, .int .u64 7, .int .u64 3, .int .u64 1] wo po W P wa) from fun wz wa h hb => HOF.out _ (Wk14.next L h.2.2.2.2.2.2.2.2 hb))
  have hS1 := HOF.out _ (Wk14.next L HW7.out (Below.refl _ _).drew)
  have K1 := Lib.hid (fun wz (h : (wz.cell? ⟨A, 0, none⟩ = some (.int .u64 0) ∧ wz.cell? ⟨A, 1, none⟩ = some (.slice wo 67 wc) ∧ wz.cell? ⟨A, 2, none⟩ = some (.slice po 0 pc) ∧ wz.cell? ⟨B, 0, none⟩ = some (.string ⟨R.toArray⟩) ∧ wz.cell? ⟨B, 1, none⟩ = some (.int .u64 5) ∧ wz.cell? ⟨B, 2, none⟩ = some (.int .u64 7) ∧ wz.cell? ⟨B, 3, none⟩ = some (.int .u64 3) ∧ wz.cell? ⟨B, 4, none⟩ = some (.int .u64 1) ∧ Wk14 Ld w b S 7 3 1 A B #[.int .u64 0, .slice wo 67 wc, .slice po 0 pc] #[.string ⟨R.toArray⟩, .int .u64 5, .int .u64 7, .int .u64 3, .int .u64 1] wo po W P wz)) => HRO.out b wz h.2.2.2.2.2.2.2.2.o h.2.2.2.2.2.2.2.2.l)
  have K2 := Lib.hid (fun wz (h : (wz.cell? ⟨A, 0, none⟩ = some (.int .u64 0) ∧ wz.cell? ⟨A, 1, none⟩ = some (.slice wo 67 wc) ∧ wz.cell? ⟨A, 2, none⟩ = some (.slice po 0 pc) ∧ wz.cell? ⟨B, 0, none⟩ = some (.string ⟨R.toArray⟩) ∧ wz.cell? ⟨B, 1, none⟩ = some (.int .u64 5) ∧ wz.cell? ⟨B, 2, none⟩ = some (.int .u64 7) ∧ wz.cell? ⟨B, 3, none⟩ = some (.int .u64 3) ∧ wz.cell? ⟨B, 4, none⟩ = some (.int .u64 1) ∧ Wk14 Ld w b S 7 3 1 A B #[.int .u64 0, .slice wo 67 wc, .slice po 0 pc] #[.string ⟨R.toArray⟩, .int .u64 5, .int .u64 7, .int .u64 3, .int .u64 1] wo po W P wz)) => HPU.out wz h.2.2.2.2.2.2.2.2.o)
  have K3 := Lib.hid (fun X wz (h : (wz.cell? ⟨A, 0, none⟩ = some (.int .u64 0) ∧ wz.cell? ⟨A, 1, none⟩ = some (.slice wo 67 wc) ∧ wz.cell? ⟨A, 2, none⟩ = some (.slice po 0 pc) ∧ wz.cell? ⟨B, 0, none⟩ = some (.string ⟨R.toArray⟩) ∧ wz.cell? ⟨B, 1, none⟩ = some (.int .u64 5) ∧ wz.cell? ⟨B, 2, none⟩ = some (.int .u64 7) ∧ wz.cell? ⟨B, 3, none⟩ = some (.int .u64 3) ∧ wz.cell? ⟨B, 4, none⟩ = some (.int .u64 1) ∧ Wk14 Ld w b S 7 3 1 A B #[.int .u64 0, .slice wo 67 wc, .slice po 0 pc] #[.string ⟨R.toArray⟩, .int .u64 5, .int .u64 7, .int .u64 3, .int .u64 1] wo po W P wz)) hx => HHA.out X wz h.2.2.2.2.2.2.2.2.o hx)
  have K4 := Lib.hid (fun wz (h : (wz.cell? ⟨A, 0, none⟩ = some (.int .u64 0) ∧ wz.cell? ⟨A, 1, none⟩ = some (.slice wo 67 wc) ∧ wz.cell? ⟨A, 2, none⟩ = some (.slice po 0 pc) ∧ wz.cell? ⟨B, 0, none⟩ = some (.string ⟨R.toArray⟩) ∧ wz.cell? ⟨B, 1, none⟩ = some (.int .u64 5) ∧ wz.cell? ⟨B, 2, none⟩ = some (.int .u64 7) ∧ wz.cell? ⟨B, 3, none⟩ = some (.int .u64 3) ∧ wz.cell? ⟨B, 4, none⟩ = some (.int .u64 1) ∧ Wk14 Ld w b S 7 3 1 A B #[.int .u64 0, .slice wo 67 wc, .slice po 0 pc] #[.string ⟨R.toArray⟩, .int .u64 5, .int .u64 7, .int .u64 3, .int .u64 1] wo po W P wz)) => HV7.out wo po wc pc wz h.2.2.2.2.2.2.2.2.o h.2.2.2.2.2.2.2.2.hw h.2.2.2.2.2.2.2.2.hp)
  have K5 := Lib.hid (fun wz (h : (wz.cell? ⟨A, 0, none⟩ = some (.int .u64 0) ∧ wz.cell? ⟨A, 1, none⟩ = some (.slice wo 67 wc) ∧ wz.cell? ⟨A, 2, none⟩ = some (.slice po 0 pc) ∧ wz.cell? ⟨B, 0, none⟩ = some (.string ⟨R.toArray⟩) ∧ wz.cell? ⟨B, 1, none⟩ = some (.int .u64 5) ∧ wz.cell? ⟨B, 2, none⟩ = some (.int .u64 7) ∧ wz.cell? ⟨B, 3, none⟩ = some (.int .u64 3) ∧ wz.cell? ⟨B, 4, none⟩ = some (.int .u64 1) ∧ Wk14 Ld w b S 7 3 1 A B #[.int .u64 0, .slice wo 67 wc, .slice po 0 pc] #[.string ⟨R.toArray⟩, .int .u64 5, .int .u64 7, .int .u64 3, .int .u64 1] wo po W P wz)) => HVA.out wo po wc pc wz h.2.2.2.2.2.2.2.2.o h.2.2.2.2.2.2.2.2.hw h.2.2.2.2.2.2.2.2.hp)
  clear HRO HPU HHA HV7 HVA HW7
  go_region_held3 (fun wz => (wz.cell? ⟨A, 0, none⟩ = some (.int .u64 0) ∧ wz.cell? ⟨A, 1, none⟩ = some (.slice wo 67 wc) ∧ wz.cell? ⟨A, 2, none⟩ = some (.slice po 0 pc) ∧ wz.cell? ⟨B, 0, none⟩ = some (.string ⟨R.toArray⟩) ∧ wz.cell? ⟨B, 1, none⟩ = some (.int .u64 5) ∧ wz.cell? ⟨B, 2, none⟩ = some (.int .u64 7) ∧ wz.cell? ⟨B, 3, none⟩ = some (.int .u64 3) ∧ wz.cell? ⟨B, 4, none⟩ = some (.int .u64 1) ∧ Wk14 Ld w b S 7 3 1 A B #[.int .u64 0, .slice wo 67 wc, .slice po 0 pc] #[.string ⟨R.toArray⟩, .int .u64 5, .int .u64 7, .int .u64 3, .int .u64 1] wo po W P wz))
    (first | (with_reducible assumption) | (with_reducible exact HAL.out _ _ (by with_reducible assumption)))
    (first
      | (go_at_call 14; with_reducible refine (K1.out _ (by with_reducible assumption)).mono ?_; rintro e wa ⟨rfl, hba⟩; have hSa := HST.out _ _ (by with_reducible assumption) hba)
      | (go_at_call 26; with_reducible refine (HNU.out _).mono ?_; rintro e wb ⟨rfl, hbb⟩; have hSb := HST.out _ _ (by with_reducible assumption) hbb)
      | (go_at_call 27; with_reducible refine (K2.out _ (by with_reducible assumption)).mono ?_; rintro e we ⟨rfl, hbe⟩; have hSe := HST.out _ _ (by with_reducible assumption) hbe)
      | (go_at_call 41; with_reducible refine (K3.out _ _ (by with_reducible assumption) ?_).mono ?_; (focus (exact cell_new1 _ _ _)); rintro e wf ⟨rfl, hbf⟩; have hSf := HST.out _ _ (by with_reducible assumption) hbf)
      | (go_at_call 24; with_reducible refine (K4.out _ (by with_reducible assumption)).mono ?_; rintro e wg ⟨rfl, hbg⟩; have hSg := HST.out _ _ (by with_reducible assumption) hbg)
      | (go_at_call 24; with_reducible refine (K5.out _ (by with_reducible assumption)).mono ?_; rintro e wh ⟨rfl, hbh⟩; have hSh := HST.out _ _ (by with_reducible assumption) hbh))
  all_goals
    have HF := Lib.hid hSh.2.2.2.2.2.2.2.2.o
    go_wp2
    exact bodyPost_ret (v := .bool true) (by simp [results, Tryz.results13, go_sem]) rfl ⟨rfl, HF.out⟩
end Go.Proofs.YtmnklonoelpidaaGreatDoor
