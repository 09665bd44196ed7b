/- Layer 14's law: LadderKnown. -/
import Derived.Test.YtmnklonoelpidaaGreatDoorJLadl
import Derived.Test.YtmnklonoelpidaaGreatDoorJ35
namespace Go.Proofs.YtmnklonoelpidaaGreatDoor
open Go.RowKit

/-- what a walk keeps: its ladder, and a signature in a box -/
structure Wa14 (Ld : Nat → (List UInt8) → Nat → Nat → Nat → World → Prop) (w0 : World) (b : Nat) (s : (List UInt8)) (f l n A : Nat) (cs : Array Value) (wo po : Option Addr) (W P : List (List UInt8)) (wz : World) : Prop where
  o : Below w0.heap.size w0 wz
  l : Ld b s f l n wz
  x : wz.heap[A]? = some (.cells cs 48 (0, 0))
  hw : Strs wo W wz
  hp : Strs po P wz
theorem Wa14.next {Ld : Nat → (List UInt8) → Nat → Nat → Nat → World → Prop} (L : LadderC Ld) {w0 wz wa : World} {b : Nat} {s : (List UInt8)} {f l n A : Nat} {cs : Array Value} {wo po : Option Addr} {W P : List (List UInt8)} (h : Wa14 Ld w0 b s f l n A cs wo po W P wz) (hb : Below wz.heap.size wz wa) : Wa14 Ld w0 b s f l n A cs wo po W P wa :=
  ⟨h.o.trans (hb.mono h.o.size), L.ck h.l hb, (hb.block _ (lit_lt h.x)).trans h.x, h.hw.below (Nat.le_refl _) hb, h.hp.below (Nat.le_refl _) hb⟩
theorem path_two (s : (List UInt8)) : (proofD (rungsL s 4) [2]).length = 2 := by
  rw [proofD_len, rungsL_len]
  decide +kernel
set_option maxRecDepth 100000 in
set_option maxHeartbeats 8000000 in
theorem ladderKnown_any {Ld : Nat → (List UInt8) → Nat → Nat → Nat → World → Prop} (L : LadderC Ld) (HWK : WorksL) (w : World) (hg : Glob w) :
    Calls Tryz.prog 7 #[] w fun e w' => e = .returned (.bool true) ∧ Below w.heap.size w w' := by
  have HWO := Lib.hid (fun wz (h : Below w.heap.size w wz) => HWK wz (hg.below hg.size h))
  have HGB := Lib.hid (fun wz (h : Below w.heap.size w wz) => hg.below hg.size h)
  obtain ⟨S, hS⟩ : ∃ S, S = txtF 115 32 := ⟨_, rfl⟩
  obtain ⟨D, hD⟩ : ∃ D, D = txtF 100 32 := ⟨_, rfl⟩
  have hsl : S.length = 32 := by rw [hS, txtF_len]
  have hdl : D.length = 32 := by rw [hD, txtF_len]
  have HTS := Lib.hid (fun wz => show Calls Tryz.prog 9 #[.int .u8 115, .int .i64 32] wz fun e w' => e = .returned (.string ⟨S.toArray⟩) ∧ Below wz.heap.size wz w' by rw [hS]; exact text14_any 115 32 wz (by decide) (by decide))
  have HTD := Lib.hid (fun wz => show Calls Tryz.prog 9 #[.int .u8 100, .int .i64 32] wz fun e w' => e = .returned (.string ⟨D.toArray⟩) ∧ Below wz.heap.size wz w' by rw [hD]; exact text14_any 100 32 wz (by decide) (by decide))
  have HFI := Lib.hid (show FineL S 100 10 4 from ⟨hsl, by decide, by decide, by decide, by decide⟩)
  have HNW := Lib.hid (fun wz (h : Below w.heap.size w wz) => show Calls Tryz.prog 10 #[.string ⟨S.toArray⟩, .int .u64 100, .int .u64 10, .int .i64 4] wz fun e w' => ∃ b, e = .returned (.tuple #[.pointer (some ⟨b, 0, none⟩), .int .i64 0]) ∧ Ld b S 100 10 4 w' ∧ Below wz.heap.size wz w' from L.cn S 100 10 4 wz (HGB.out wz h) HFI.out)
  obtain ⟨W, hW⟩ : ∃ W, W = sigL S 2 D := ⟨_, rfl⟩
  obtain ⟨P, hP⟩ : ∃ P, P = proofD (rungsL S 4) [2] := ⟨_, rfl⟩
  obtain ⟨Q, hQ⟩ : ∃ Q, Q = rootS S 4 := ⟨_, rfl⟩
  have hwl : W.length = 67 := by rw [hW, sigL, row67_len]
  have hpl : P.length = 2 := by rw [hP]; exact path_two S
  have hql : Q.length = 32 := by rw [hQ]; exact rootS_32 S 4
  obtain ⟨S1, hS1⟩ : ∃ S1, S1 = S.drop 1 := ⟨_, rfl⟩
  obtain ⟨D1, hD1⟩ : ∃ D1, D1 = D.drop 1 := ⟨_, rfl⟩
  have hs1l : S1.length = 31 := by rw [hS1, List.length_drop]; omega
  have hd1l : D1.length = 31 := by rw [hD1, List.length_drop]; omega
  have hexS : (⟨S.toArray⟩ : ByteArray).extract 1 S.length = ⟨S1.toArray⟩ := by rw [extract_list, List.take_of_length_le (by omega), hS1]
  have hexD : (⟨D.toArray⟩ : ByteArray).extract 1 D.length = ⟨D1.toArray⟩ := by rw [extract_list, List.take_of_length_le (by omega), hD1]
  have hSz : (1 : Int) ≤ (S.length : Int) := by omega
  have hDz : (1 : Int) ≤ (D.length : Int) := by omega
  have HSG := Lib.hid (fun b wz (h : Below w.heap.size w wz) (hl : Ld b S 100 10 4 wz) => show Calls Tryz.prog 20 #[.pointer (some ⟨b, 0, none⟩), .int .u64 125, .string ⟨D.toArray⟩] wz fun e w' => ∃ (wo po : Option Addr) (wc pc : Nat), e = .returned (.tuple #[.agg #[.int .u64 2, .slice wo 67 wc, .slice po 2 pc], .int .i64 0]) ∧ Strs wo W w' ∧ Strs po P w' ∧ 2 ≤ pc ∧ Below wz.heap.size wz w' by
    have h1 := L.cs b S 100 10 4 125 D wz (HGB.out wz h) HFI.out hl (by decide) (by omega)
    have ha : signA S 100 10 4 125 D = ⟨0, 2, W, P⟩ := by rw [signA, show keyF 100 10 4 125 = (2, true) by decide, if_neg (by decide), if_neg (by omega), hW, hP]
    rw [ha] at h1
    refine h1.mono ?_
    rintro e w' ⟨wo, po, wc, pc, h2, h3, h4, h6, h5⟩
    exact ⟨wo, po, wc, pc, by rw [h2]; simp only [hwl, hpl]; rfl, h3, h4, by have h7 : P.length ≤ pc := h6; omega, h5⟩)
  have HSH := Lib.hid (fun b wz (h : Below w.heap.size w wz) (hl : Ld b S 100 10 4 wz) => show Calls Tryz.prog 20 #[.pointer (some ⟨b, 0, none⟩), .int .u64 140, .string ⟨D.toArray⟩] wz fun e w' => ∃ (wo po : Option Addr) (wc pc : Nat), e = .returned (.tuple #[.agg #[.int .u64 0, .slice wo 0 wc, .slice po 0 pc], .int .i64 16]) ∧ Below wz.heap.size wz w' by
    have h1 := L.cs b S 100 10 4 140 D wz (HGB.out wz h) HFI.out hl (by decide) (by omega)
    have ha : signA S 100 10 4 140 D = ⟨16, 0, [], []⟩ := by rw [signA, show keyF 100 10 4 140 = (0, false) by decide, if_pos rfl]
    rw [ha] at h1
    refine h1.mono ?_
    rintro e w' ⟨wo, po, wc, pc, h2, h3, h4, h6, h5⟩
    exact ⟨wo, po, wc, pc, h2, h5⟩)
  have HSI := Lib.hid (fun b wz (h : Below w.heap.size w wz) (hl : Ld b S 100 10 4 wz) => show Calls Tryz.prog 20 #[.pointer (some ⟨b, 0, none⟩), .int .u64 125, .string ⟨D1.toArray⟩] wz fun e w' => ∃ (wo po : Option Addr) (wc pc : Nat), e = .returned (.tuple #[.agg #[.int .u64 0, .slice wo 0 wc, .slice po 0 pc], .int .i64 2]) ∧ Below wz.heap.size wz w' by
    have h1 := L.cs b S 100 10 4 125 D1 wz (HGB.out wz h) HFI.out hl (by decide) (by omega)
    have ha : signA S 100 10 4 125 D1 = ⟨2, 0, [], []⟩ := by rw [signA, show keyF 100 10 4 125 = (2, true) by decide, if_neg (by decide), if_pos (by omega)]
    rw [ha] at h1
    refine h1.mono ?_
    rintro e w' ⟨wo, po, wc, pc, h2, h3, h4, h6, h5⟩
    exact ⟨wo, po, wc, pc, h2, h5⟩)
  have HPA := Lib.hid (fun b wz (h : Below w.heap.size w wz) (hl : Ld b S 100 10 4 wz) => show Calls Tryz.prog 16 #[.pointer (some ⟨b, 0, none⟩), .int .u64 1] wz fun e w' => e = .returned (.agg #[.string ⟨Q.toArray⟩, .int .u64 1, .int .u64 100, .int .u64 10, .int .u64 4]) ∧ Below wz.heap.size wz w' by rw [hQ]; exact L.cp b S 100 10 4 1 wz (HGB.out wz h) HFI.out hl (by decide))
  have HKE := Lib.hid (fun b wz (h : Below w.heap.size w wz) (hb : Ld b S 100 10 4 wz) (q k : Nat) (t : Bool) (hk : keyF 100 10 4 q = (k, t)) (hq : q < 18446744073709551616) => show Calls Tryz.prog 18 #[.pointer (some ⟨b, 0, none⟩), .int .u64 (q : Int)] wz fun e w' => e = .returned (.tuple #[.int .u64 (k : Int), .bool t]) ∧ Below wz.heap.size wz w' by
    have h1 := L.cq b S 100 10 4 q wz (HGB.out wz h) HFI.out hb hq
    rw [hk] at h1
    exact h1)
  have HV1 := Lib.hid (fun wo po wc pc wz (h : Below w.heap.size w wz) (h1 : Strs wo W wz) (h2 : Strs po P wz) (hpc : 2 ≤ pc) => show Calls Tryz.prog 24 #[.agg #[.string ⟨Q.toArray⟩, .int .u64 1, .int .u64 100, .int .u64 10, .int .u64 4], .int .u64 120, .string ⟨D.toArray⟩, .agg #[.int .u64 2, .slice wo 67 wc, .slice po 2 pc]] wz fun e w' => e = .returned (.int .i64 0) ∧ Below wz.heap.size wz w' by
    have h3 := L.cv Q 1 100 10 4 120 D 2 W P wo po wc pc wz (HGB.out wz h) (by omega) (by decide) (by decide) (by decide) (by decide) (by decide) (by decide) (by omega) h1 h2 (by omega) (fun _ x hx => by rw [hW] at hx; exact Nat.le_trans (sig_short _ _ _ x hx) (by decide)) (by omega) (by omega) (fun _ x hx => by rw [hP] at hx; exact path_short S 4 2 x hx)
    have h4 : verV Q 100 10 4 120 D 2 W P = 0 := by rw [hQ, hW, hP]; exact ver_good hdl (by decide) (by decide) (by decide) (by decide)
    rw [h4, hwl, hpl] at h3
    exact h3)
  have HV2 := Lib.hid (fun wo po wc pc wz (h : Below w.heap.size w wz) (h1 : Strs wo W wz) (h2 : Strs po P wz) (hpc : 2 ≤ pc) => show Calls Tryz.prog 24 #[.agg #[.string ⟨Q.toArray⟩, .int .u64 1, .int .u64 100, .int .u64 10, .int .u64 4], .int .u64 129, .string ⟨D.toArray⟩, .agg #[.int .u64 2, .slice wo 67 wc, .slice po 2 pc]] wz fun e w' => e = .returned (.int .i64 0) ∧ Below wz.heap.size wz w' by
    have h3 := L.cv Q 1 100 10 4 129 D 2 W P wo po wc pc wz (HGB.out wz h) (by omega) (by decide) (by decide) (by decide) (by decide) (by decide) (by decide) (by omega) h1 h2 (by omega) (fun _ x hx => by rw [hW] at hx; exact Nat.le_trans (sig_short _ _ _ x hx) (by decide)) (by omega) (by omega) (fun _ x hx => by rw [hP] at hx; exact path_short S 4 2 x hx)
    have h4 : verV Q 100 10 4 129 D 2 W P = 0 := by rw [hQ, hW, hP]; exact ver_good hdl (by decide) (by decide) (by decide) (by decide)
    rw [h4, hwl, hpl] at h3
    exact h3)
  have HV3 := Lib.hid (fun wo po wc pc wz (h : Below w.heap.size w wz) (h1 : Strs wo W wz) (h2 : Strs po P wz) (hpc : 2 ≤ pc) => show Calls Tryz.prog 24 #[.agg #[.string ⟨Q.toArray⟩, .int .u64 1, .int .u64 100, .int .u64 10, .int .u64 4], .int .u64 130, .string ⟨D.toArray⟩, .agg #[.int .u64 2, .slice wo 67 wc, .slice po 2 pc]] wz fun e w' => e = .returned (.int .i64 10) ∧ Below wz.heap.size wz w' by
    have h3 := L.cv Q 1 100 10 4 130 D 2 W P wo po wc pc wz (HGB.out wz h) (by omega) (by decide) (by decide) (by decide) (by decide) (by decide) (by decide) (by omega) h1 h2 (by omega) (fun _ x hx => by rw [hW] at hx; exact Nat.le_trans (sig_short _ _ _ x hx) (by decide)) (by omega) (by omega) (fun _ x hx => by rw [hP] at hx; exact path_short S 4 2 x hx)
    have h4 : verV Q 100 10 4 130 D 2 W P = 10 := ver_other hdl hql (by decide) (by decide) (by decide) (show keyF 100 10 4 130 = (3, true) by decide) (by decide)
    rw [h4, hwl, hpl] at h3
    exact h3)
  have HV4 := Lib.hid (fun wo po wc pc wz (h : Below w.heap.size w wz) (h1 : Strs wo W wz) (h2 : Strs po P wz) (hpc : 2 ≤ pc) => show Calls Tryz.prog 24 #[.agg #[.string ⟨Q.toArray⟩, .int .u64 1, .int .u64 100, .int .u64 10, .int .u64 4], .int .u64 140, .string ⟨D.toArray⟩, .agg #[.int .u64 2, .slice wo 67 wc, .slice po 2 pc]] wz fun e w' => e = .returned (.int .i64 16) ∧ Below wz.heap.size wz w' by
    have h3 := L.cv Q 1 100 10 4 140 D 2 W P wo po wc pc wz (HGB.out wz h) (by omega) (by decide) (by decide) (by decide) (by decide) (by decide) (by decide) (by omega) h1 h2 (by omega) (fun _ x hx => by rw [hW] at hx; exact Nat.le_trans (sig_short _ _ _ x hx) (by decide)) (by omega) (by omega) (fun _ x hx => by rw [hP] at hx; exact path_short S 4 2 x hx)
    have h4 : verV Q 100 10 4 140 D 2 W P = 16 := ver_none hdl hql (by decide) (by decide) (by decide) (by decide)
    rw [h4, hwl, hpl] at h3
    exact h3)
  have HV5 := Lib.hid (fun wo po wc pc wz (h : Below w.heap.size w wz) (h1 : Strs wo W wz) (h2 : Strs po P wz) (hpc : 2 ≤ pc) => show Calls Tryz.prog 24 #[.agg #[.string ⟨Q.toArray⟩, .int .u64 1, .int .u64 18446744073709551615, .int .u64 10, .int .u64 4], .int .u64 5, .string ⟨D.toArray⟩, .agg #[.int .u64 2, .slice wo 67 wc, .slice po 2 pc]] wz fun e w' => e = .returned (.int .i64 16) ∧ Below wz.heap.size wz w' by
    have h3 := L.cv Q 1 18446744073709551615 10 4 5 D 2 W P wo po wc pc wz (HGB.out wz h) (by omega) (by decide) (by decide) (by decide) (by decide) (by decide) (by decide) (by omega) h1 h2 (by omega) (fun _ x hx => by rw [hW] at hx; exact Nat.le_trans (sig_short _ _ _ x hx) (by decide)) (by omega) (by omega) (fun _ x hx => by rw [hP] at hx; exact path_short S 4 2 x hx)
    have h4 : verV Q 18446744073709551615 10 4 5 D 2 W P = 16 := ver_none hdl hql (by decide) (by decide) (by decide) (by decide)
    rw [h4, hwl, hpl] at h3
    exact h3)
  have HV6 := Lib.hid (fun wo po wc pc wz (h : Below w.heap.size w wz) (h1 : Strs wo W wz) (h2 : Strs po P wz) (hpc : 2 ≤ pc) => show Calls Tryz.prog 24 #[.agg #[.string ⟨#[]⟩, .int .u64 0, .int .u64 0, .int .u64 0, .int .u64 0], .int .u64 5, .string ⟨D.toArray⟩, .agg #[.int .u64 2, .slice wo 67 wc, .slice po 2 pc]] wz fun e w' => e = .returned (.int .i64 2) ∧ Below wz.heap.size wz w' by
    have h3 := L.cv [] 0 0 0 0 5 D 2 W P wo po wc pc wz (HGB.out wz h) (by decide) (by decide) (by decide) (by decide) (by decide) (by decide) (by decide) (by omega) h1 h2 (by omega) (fun _ x hx => by rw [hW] at hx; exact Nat.le_trans (sig_short _ _ _ x hx) (by decide)) (by omega) (by omega) (fun _ x hx => by rw [hP] at hx; exact path_short S 4 2 x hx)
    have h4 : verV [] 0 0 0 5 D 2 W P = 2 := ver_arg (.inr (.inl (by decide)))
    rw [h4, hwl, hpl] at h3
    exact h3)
  have HN1 := Lib.hid (fun wz (h : Below w.heap.size w wz) => show Calls Tryz.prog 10 #[.string ⟨S1.toArray⟩, .int .u64 0, .int .u64 1, .int .i64 1] wz fun e w' => e = .returned (.tuple #[.pointer none, .int .i64 2]) ∧ Below wz.heap.size wz w' by
    have hne : newE S1 0 1 1 = 2 := by unfold newE; rw [if_pos (.inl (by omega))]
    have h1 := L.ca S1 0 1 1 wz (HGB.out wz h) (by omega) (by decide) (by decide) (by decide) (by rw [hne]; decide)
    rw [hne] at h1
    exact h1)
  have HN2 := Lib.hid (fun wz (h : Below w.heap.size w wz) => show Calls Tryz.prog 10 #[.string ⟨S.toArray⟩, .int .u64 0, .int .u64 0, .int .i64 1] wz fun e w' => e = .returned (.tuple #[.pointer none, .int .i64 2]) ∧ Below wz.heap.size wz w' by
    have hne : newE S 0 0 1 = 2 := by unfold newE; rw [if_pos (by omega)]
    have h1 := L.ca S 0 0 1 wz (HGB.out wz h) (by omega) (by decide) (by decide) (by decide) (by rw [hne]; decide)
    rw [hne] at h1
    exact h1)
  have HN3 := Lib.hid (fun wz (h : Below w.heap.size w wz) => show Calls Tryz.prog 10 #[.string ⟨S.toArray⟩, .int .u64 0, .int .u64 1, .int .i64 0] wz fun e w' => e = .returned (.tuple #[.pointer none, .int .i64 2]) ∧ Below wz.heap.size wz w' by
    have hne : newE S 0 1 0 = 2 := by unfold newE; rw [if_pos (by omega)]
    have h1 := L.ca S 0 1 0 wz (HGB.out wz h) (by omega) (by decide) (by decide) (by decide) (by rw [hne]; decide)
    rw [hne] at h1
    exact h1)
  have HN4 := Lib.hid (fun wz (h : Below w.heap.size w wz) => show Calls Tryz.prog 10 #[.string ⟨S.toArray⟩, .int .u64 0, .int .u64 1, .int .i64 65] wz fun e w' => e = .returned (.tuple #[.pointer none, .int .i64 2]) ∧ Below wz.heap.size wz w' by
    have hne : newE S 0 1 65 = 2 := by unfold newE; rw [if_pos (by omega)]
    have h1 := L.ca S 0 1 65 wz (HGB.out wz h) (by omega) (by decide) (by decide) (by decide) (by rw [hne]; decide)
    rw [hne] at h1
    exact h1)
  have HN5 := Lib.hid (fun wz (h : Below w.heap.size w wz) => show Calls Tryz.prog 10 #[.string ⟨S.toArray⟩, .int .u64 18446744073709551613, .int .u64 1, .int .i64 3] wz fun e w' => e = .returned (.tuple #[.pointer none, .int .i64 21]) ∧ Below wz.heap.size wz w' by
    have hne : newE S 18446744073709551613 1 3 = 21 := by unfold newE; rw [if_neg (by omega), if_pos (by decide)]
    have h1 := L.ca S 18446744073709551613 1 3 wz (HGB.out wz h) (by omega) (by decide) (by decide) (by decide) (by rw [hne]; decide)
    rw [hne] at h1
    exact h1)
  have HN6 := Lib.hid (fun wz (h : Below w.heap.size w wz) => show Calls Tryz.prog 10 #[.string ⟨S.toArray⟩, .int .u64 0, .int .u64 9223372036854775808, .int .i64 2] wz fun e w' => e = .returned (.tuple #[.pointer none, .int .i64 21]) ∧ Below wz.heap.size wz w' by
    have hne : newE S 0 9223372036854775808 2 = 21 := by unfold newE; rw [if_neg (by omega), if_pos (by decide)]
    have h1 := L.ca S 0 9223372036854775808 2 wz (HGB.out wz h) (by omega) (by decide) (by decide) (by decide) (by rw [hne]; decide)
    rw [hne] at h1
    exact h1)
  have HN7 := Lib.hid (fun wz (h : Below w.heap.size w wz) => show Calls Tryz.prog 10 #[.string ⟨S.toArray⟩, .int .u64 18446744073709551613, .int .u64 1, .int .i64 2] wz fun e w' => ∃ b, e = .returned (.tuple #[.pointer (some ⟨b, 0, none⟩), .int .i64 0]) ∧ Ld b S 18446744073709551613 1 2 w' ∧ Below wz.heap.size wz w' from L.cn S 18446744073709551613 1 2 wz (HGB.out wz h) ⟨hsl, by decide, by decide, by decide, by decide⟩)
  have HR0 := Lib.hid (fun wz (h : Below w.heap.size w wz) => L.cr0 wz (HGB.out wz h))
  have HK0 := Lib.hid (fun wz (h : Below w.heap.size w wz) => show Calls Tryz.prog 18 #[.pointer none, .int .u64 1] wz fun e w' => e = .returned (.tuple #[.int .u64 0, .bool false]) ∧ Below wz.heap.size wz w' from L.cq0 1 wz (HGB.out wz h))
  have HP0 := Lib.hid (fun wz (h : Below w.heap.size w wz) => show Calls Tryz.prog 16 #[.pointer none, .int .u64 1] wz fun e w' => e = .returned (.agg #[.string ⟨#[]⟩, .int .u64 0, .int .u64 0, .int .u64 0, .int .u64 0]) ∧ Below wz.heap.size wz w' from L.cp0 1 wz (HGB.out wz h))
  have HS0 := Lib.hid (fun wz (h : Below w.heap.size w wz) => show Calls Tryz.prog 20 #[.pointer none, .int .u64 1, .string ⟨D.toArray⟩] wz fun e w' => e = .returned (.tuple #[.agg #[.int .u64 0, .slice none 0 0, .slice none 0 0], .int .i64 1]) ∧ Below wz.heap.size wz w' from L.cs0 1 D wz (HGB.out wz h))
  clear hS hD hsl hdl hW hP hQ hwl hpl hql hS1 hD1 hs1l hd1l hg
  go_enter Tryz.func7, Tryz.ntmps7
  go_upto_region 2 with (first
    | (go_at_call 9; with_reducible refine (HTS.out _).mono ?_; rintro e w1 ⟨rfl, hb1⟩; have B1 := Lib.hid hb1; clear hb1)
    | (go_at_call 9; with_reducible refine (HTD.out _).mono ?_; rintro e w2 ⟨rfl, hb2⟩; have B2 := Lib.hid (below_next B1.out hb2); clear hb2))
  go_upto_region 3 with (go_at_call 10; with_reducible refine (HNW.out _ B2.out).mono ?_; rintro e w3 ⟨b, rfl, hl3, hb3⟩; have B3 := Lib.hid (below_next B2.out hb3); have L3 := Lib.hid hl3; clear hb3 hl3)
  go_upto_region 5 with (go_at_call 13; with_reducible refine (HWO.out _ B3.out).mono ?_; rintro e w4 ⟨rfl, hb4⟩; have B4 := Lib.hid (below_next B3.out hb4); have L4 := Lib.hid (L.ck L3.out hb4); clear hb4)
  clear HTS HTD HNW HWO B1 B2 B3 L3
  go_upto_region 7 with fail
  obtain ⟨X, hX⟩ : ∃ X, X = w4.heap.size := ⟨_, rfl⟩
  have H1 := Lib.hid (show ((w4.alloc (.cells #[.int .u64 99, .int .u64 100, .int .u64 109, .int .u64 110, .int .u64 139, .int .u64 140] 22)).alloc (.cells #[.int .u64 0, .int .u64 0, .int .u64 0, .int .u64 1, .int .u64 3, .int .u64 0] 22)).heap[X]? = some (.cells #[.int .u64 99, .int .u64 100, .int .u64 109, .int .u64 110, .int .u64 139, .int .u64 140] 22 (0, 0)) by rw [hX]; exact lit_old _ (heap_alloc_new w4 _))
  have H2 := Lib.hid (show ((w4.alloc (.cells #[.int .u64 99, .int .u64 100, .int .u64 109, .int .u64 110, .int .u64 139, .int .u64 140] 22)).alloc (.cells #[.int .u64 0, .int .u64 0, .int .u64 0, .int .u64 1, .int .u64 3, .int .u64 0] 22)).heap[X + 1]? = some (.cells #[.int .u64 0, .int .u64 0, .int .u64 0, .int .u64 1, .int .u64 3, .int .u64 0] 22 (0, 0)) by
    have := heap_alloc_new (w4.alloc (.cells #[.int .u64 99, .int .u64 100, .int .u64 109, .int .u64 110, .int .u64 139, .int .u64 140] 22)) (.cells #[.int .u64 0, .int .u64 0, .int .u64 0, .int .u64 1, .int .u64 3, .int .u64 0] 22)
    rwa [World.size_alloc, ← hX] at this)
  have B5 := Lib.hid (below_next B4.out (below_alloc (by0 w4 (.cells #[.int .u64 99, .int .u64 100, .int .u64 109, .int .u64 110, .int .u64 139, .int .u64 140] 22)) (.cells #[.int .u64 0, .int .u64 0, .int .u64 0, .int .u64 1, .int .u64 3, .int .u64 0] 22)))
  have L5 := Lib.hid (L.ck L4.out (below_alloc (by0 w4 (.cells #[.int .u64 99, .int .u64 100, .int .u64 109, .int .u64 110, .int .u64 139, .int .u64 140] 22)) (.cells #[.int .u64 0, .int .u64 0, .int .u64 0, .int .u64 1, .int .u64 3, .int .u64 0] 22)))
  rw [← hX]
  generalize (w4.alloc (.cells #[.int .u64 99, .int .u64 100, .int .u64 109, .int .u64 110, .int .u64 139, .int .u64 140] 22)).alloc (.cells #[.int .u64 0, .int .u64 0, .int .u64 0, .int .u64 1, .int .u64 3, .int .u64 0] 22) = w5 at *
  clear B4 L4 hX
  have HCL := Lib.hid (show ∀ i, i < 6 → ∃ (q kk : Nat) (t : Bool), w5.cell? ⟨X, i, none⟩ = some (.int .u64 (q : Int)) ∧ w5.cell? ⟨X + 1, i, none⟩ = some (.int .u64 (kk : Int)) ∧ keyF 100 10 4 q = (kk, t) ∧ q < 18446744073709551616 ∧ t = (decide (0 < i) && decide (i < 5)) by
    intro i hi
    match i, hi with
    | 0, _ => exact ⟨99, 0, false, (lit_cell H1.out 0).trans rfl, (lit_cell H2.out 0).trans rfl, by decide, by decide, by decide⟩
    | 1, _ => exact ⟨100, 0, true, (lit_cell H1.out 1).trans rfl, (lit_cell H2.out 1).trans rfl, by decide, by decide, by decide⟩
    | 2, _ => exact ⟨109, 0, true, (lit_cell H1.out 2).trans rfl, (lit_cell H2.out 2).trans rfl, by decide, by decide, by decide⟩
    | 3, _ => exact ⟨110, 1, true, (lit_cell H1.out 3).trans rfl, (lit_cell H2.out 3).trans rfl, by decide, by decide, by decide⟩
    | 4, _ => exact ⟨139, 3, true, (lit_cell H1.out 4).trans rfl, (lit_cell H2.out 4).trans rfl, by decide, by decide, by decide⟩
    | 5, _ => exact ⟨140, 0, false, (lit_cell H1.out 5).trans rfl, (lit_cell H2.out 5).trans rfl, by decide, by decide, by decide⟩)
  clear H1 H2
  go_wp2
  go_loopw [7] (fun v7 wr => ∃ i : Nat, i ≤ 6 ∧ v7 = .int .i64 (i : Int) ∧ Hid (Below w5.heap.size w5 wr)) (fun v7 _ => 6 - (intOf v7).toNat)
  case atStart => exact ⟨0, by decide, rfl, Lib.hid (Below.refl _ _)⟩
  case round =>
    obtain ⟨i, hi, rfl, HB⟩ := hrel
    by_cases hlt : i < 6
    · obtain ⟨q, kk, tt, c1, c2, hq, hq2, ht⟩ := HCL.out i hlt
      have c1 := key_keep HB.out c1
      have c2 := key_keep HB.out c2
      have HKq := Lib.hid (fun wz hz hl => HKE.out b wz hz hl q kk tt hq hq2)
      have i0 : (0 : Int) ≤ (i : Int) := by omega
      have i1 : (i : Int) < 6 := by omega
      have HLT := Lib.hid hlt
      clear hlt hi hq hq2
      have HTT := Lib.hid ht
      clear ht
      by_cases h0 : 0 < i
      · by_cases h5 : i < 5
        · have ht : tt = true := by rw [HTT.out]; simp [h0, h5]
          subst ht
          have g0 : (0 : Int) < (i : Int) := by omega
          have g5 : (i : Int) < 5 := by omega
          clear h0 h5
          go_upto_region 11 with (go_at_call 18; with_reducible refine (HKq.out _ (B5.out.trans (HB.out.mono B5.out.size)) (L.ck L5.out HB.out)).mono ?_; rintro e w6 ⟨rfl, hb6⟩; have c2 := key_keep hb6 c2; have HB6 := Lib.hid (HB.out.trans (hb6.mono HB.out.size)); clear hb6)
          go_wp2
          go_roundw
          case rel => exact ⟨i + 1, HLT.out, by go_num, HB6⟩
          case measure => have := HLT.out; simp [intOf]; omega
        · have ht : tt = false := by rw [HTT.out]; simp [h5]
          subst ht
          have g0 : (0 : Int) < (i : Int) := by omega
          have g5 : ¬ (i : Int) < 5 := by omega
          clear h0 h5
          go_upto_region 11 with (go_at_call 18; with_reducible refine (HKq.out _ (B5.out.trans (HB.out.mono B5.out.size)) (L.ck L5.out HB.out)).mono ?_; rintro e w6 ⟨rfl, hb6⟩; have c2 := key_keep hb6 c2; have HB6 := Lib.hid (HB.out.trans (hb6.mono HB.out.size)); clear hb6)
          go_wp2
          go_roundw
          case rel => exact ⟨i + 1, HLT.out, by go_num, HB6⟩
          case measure => have := HLT.out; simp [intOf]; omega
      · have ht : tt = false := by rw [HTT.out]; simp [h0]
        subst ht
        have g0 : ¬ (0 : Int) < (i : Int) := by omega
        clear h0
        go_upto_region 11 with (go_at_call 18; with_reducible refine (HKq.out _ (B5.out.trans (HB.out.mono B5.out.size)) (L.ck L5.out HB.out)).mono ?_; rintro e w6 ⟨rfl, hb6⟩; have c2 := key_keep hb6 c2; have HB6 := Lib.hid (HB.out.trans (hb6.mono HB.out.size)); clear hb6)
        go_wp2
        go_roundw
        case rel => exact ⟨i + 1, HLT.out, by go_num, HB6⟩
        case measure => have := HLT.out; simp [intOf]; omega
    · have k1 : ¬ (i : Int) < 6 := by omega
      have B7 := Lib.hid (B5.out.trans (HB.out.mono B5.out.size))
      have L7 := Lib.hid (L.ck L5.out HB.out)
      clear hlt hi HB HCL HKE B5 L5
      go_upto_region 14 with (go_at_call 20; with_reducible refine (HSG.out _ _ B7.out L7.out).mono ?_; rintro e w8 ⟨wo, po, wc, pc, rfl, hw8, hp8, hpc, hb8⟩; have B8 := Lib.hid (below_next B7.out hb8); have L8 := Lib.hid (L.ck L7.out hb8); have SW := Lib.hid hw8; have SP := Lib.hid hp8; have HPC := Lib.hid hpc; clear hb8 hw8 hp8 hpc)
      obtain ⟨A, hA⟩ : ∃ A, A = w8.heap.size := ⟨_, rfl⟩
      have HA := Lib.hid (show Wa14 Ld w b S 100 10 4 A #[.int .u64 2, .slice wo 67 wc, .slice po 2 pc] wo po W P (w8.alloc (.cells #[.int .u64 2, .slice wo 67 wc, .slice po 2 pc] 48)) from
        ⟨below_next B8.out (by0 w8 _), L.ck L8.out (by0 w8 _), by rw [hA]; exact heap_alloc_new w8 _, SW.out.below (Nat.le_refl _) (by0 w8 _), SP.out.below (Nat.le_refl _) (by0 w8 _)⟩)
      rw [← hA]
      generalize w8.alloc (.cells #[.int .u64 2, .slice wo 67 wc, .slice po 2 pc] 48) = w9 at *
      clear hA B8 L8 B7 L7 SW SP HSG
      go_upto_region 15 with (go_at_call 20; with_reducible refine (HSH.out _ _ HA.out.o HA.out.l).mono ?_; rintro e w10 ⟨wo2, po2, wc2, pc2, rfl, hb10⟩; have HA := Lib.hid (HA.out.next L hb10); clear hb10)
      have HA := Lib.hid (HA.out.next L (by0 w10 (.cells #[.int .u64 0, .slice wo2 0 wc2, .slice po2 0 pc2] 48)))
      generalize w10.alloc (.cells #[.int .u64 0, .slice wo2 0 wc2, .slice po2 0 pc2] 48) = w11 at *
      clear HSH
      go_upto_region 16 with (go_at_call 20; with_reducible refine (HSI.out _ _ HA.out.o HA.out.l).mono ?_; rintro e w12 ⟨wo3, po3, wc3, pc3, rfl, hb12⟩; have HA := Lib.hid (HA.out.next L hb12); clear hb12)
      have HA := Lib.hid (HA.out.next L (by0 w12 (.cells #[.int .u64 0, .slice wo3 0 wc3, .slice po3 0 pc3] 48)))
      generalize w12.alloc (.cells #[.int .u64 0, .slice wo3 0 wc3, .slice po3 0 pc3] 48) = w13 at *
      clear HSI
      go_upto_region 17 with (go_at_call 16; with_reducible refine (HPA.out _ _ HA.out.o HA.out.l).mono ?_; rintro e w14 ⟨rfl, hb14⟩; have HA := Lib.hid (HA.out.next L hb14); clear hb14)
      obtain ⟨B, hB⟩ : ∃ B, B = w14.heap.size := ⟨_, rfl⟩
      have HK := Lib.hid (show Wk14 Ld w b S 100 10 4 A B #[.int .u64 2, .slice wo 67 wc, .slice po 2 pc] #[.string ⟨Q.toArray⟩, .int .u64 1, .int .u64 100, .int .u64 10, .int .u64 4] wo po W P (w14.alloc (.cells #[.string ⟨Q.toArray⟩, .int .u64 1, .int .u64 100, .int .u64 10, .int .u64 4] 39)) from
        ⟨below_next HA.out.o (by0 w14 _), L.ck HA.out.l (by0 w14 _), lit_old _ HA.out.x, by rw [hB]; exact heap_alloc_new w14 _, HA.out.hw.below (Nat.le_refl _) (by0 w14 _), HA.out.hp.below (Nat.le_refl _) (by0 w14 _)⟩)
      rw [← hB]
      generalize w14.alloc (.cells #[.string ⟨Q.toArray⟩, .int .u64 1, .int .u64 100, .int .u64 10, .int .u64 4] 39) = w15 at *
      clear hB HA HPA
      have HCE := Lib.hid (show ∀ wz, Wk14 Ld w b S 100 10 4 A B #[.int .u64 2, .slice wo 67 wc, .slice po 2 pc] #[.string ⟨Q.toArray⟩, .int .u64 1, .int .u64 100, .int .u64 10, .int .u64 4] wo po W P wz → (wz.cell? ⟨A, 0, none⟩ = some (.int .u64 2) ∧ wz.cell? ⟨A, 1, none⟩ = some (.slice wo 67 wc) ∧ wz.cell? ⟨A, 2, none⟩ = some (.slice po 2 pc) ∧ wz.cell? ⟨B, 0, none⟩ = some (.string ⟨Q.toArray⟩) ∧ wz.cell? ⟨B, 1, none⟩ = some (.int .u64 1) ∧ wz.cell? ⟨B, 2, none⟩ = some (.int .u64 100) ∧ wz.cell? ⟨B, 3, none⟩ = some (.int .u64 10) ∧ wz.cell? ⟨B, 4, none⟩ = some (.int .u64 4)) from fun wz h => ⟨(lit_cell h.x 0).trans rfl, (lit_cell h.x 1).trans rfl, (lit_cell h.x 2).trans rfl, (lit_cell h.y 0).trans rfl, (lit_cell h.y 1).trans rfl, (lit_cell h.y 2).trans rfl, (lit_cell h.y 3).trans rfl, (lit_cell h.y 4).trans rfl⟩)
      obtain ⟨a0, a1, a2, b0, b1, b2, b3, b4⟩ := HCE.out _ HK.out
      go_upto_region 19 with (first
        | (go_at_call 24; with_reducible refine (HV1.out wo po wc pc _ HK.out.o HK.out.hw HK.out.hp HPC.out).mono ?_; rintro e w16 ⟨rfl, hb16⟩; have HK := Lib.hid (HK.out.next L hb16); clear hb16 a0 a1 a2 b0 b1 b2 b3 b4; obtain ⟨a0, a1, a2, b0, b1, b2, b3, b4⟩ := HCE.out _ HK.out)
        | (go_at_call 24; with_reducible refine (HV2.out wo po wc pc _ HK.out.o HK.out.hw HK.out.hp HPC.out).mono ?_; rintro e w17 ⟨rfl, hb17⟩; have HK := Lib.hid (HK.out.next L hb17); clear hb17 a0 a1 a2 b0 b1 b2 b3 b4; obtain ⟨a0, a1, a2, b0, b1, b2, b3, b4⟩ := HCE.out _ HK.out)
        | (go_at_call 24; with_reducible refine (HV3.out wo po wc pc _ HK.out.o HK.out.hw HK.out.hp HPC.out).mono ?_; rintro e w18 ⟨rfl, hb18⟩; have HK := Lib.hid (HK.out.next L hb18); clear hb18 a0 a1 a2 b0 b1 b2 b3 b4; obtain ⟨a0, a1, a2, b0, b1, b2, b3, b4⟩ := HCE.out _ HK.out)
        | (go_at_call 24; with_reducible refine (HV4.out wo po wc pc _ HK.out.o HK.out.hw HK.out.hp HPC.out).mono ?_; rintro e w19 ⟨rfl, hb19⟩; have HK := Lib.hid (HK.out.next L hb19); clear hb19))
      clear HV1 HV2 HV3 HV4
      go_upto_region 20 with (go_at_call 10; with_reducible refine (HN1.out _ HK.out.o).mono ?_; rintro e v1 ⟨rfl, hc1⟩; have HK := Lib.hid (HK.out.next L hc1); clear hc1)
      clear HN1
      go_upto_region 21 with (go_at_call 10; with_reducible refine (HN2.out _ HK.out.o).mono ?_; rintro e v2 ⟨rfl, hc2⟩; have HK := Lib.hid (HK.out.next L hc2); clear hc2)
      clear HN2
      go_upto_region 22 with (go_at_call 10; with_reducible refine (HN3.out _ HK.out.o).mono ?_; rintro e v3 ⟨rfl, hc3⟩; have HK := Lib.hid (HK.out.next L hc3); clear hc3)
      clear HN3
      go_upto_region 23 with (go_at_call 10; with_reducible refine (HN4.out _ HK.out.o).mono ?_; rintro e v4 ⟨rfl, hc4⟩; have HK := Lib.hid (HK.out.next L hc4); clear hc4)
      clear HN4
      go_upto_region 24 with (go_at_call 10; with_reducible refine (HN5.out _ HK.out.o).mono ?_; rintro e v5 ⟨rfl, hc5⟩; have HK := Lib.hid (HK.out.next L hc5); clear hc5)
      clear HN5
      go_upto_region 25 with (go_at_call 10; with_reducible refine (HN6.out _ HK.out.o).mono ?_; rintro e v6 ⟨rfl, hc6⟩; have HK := Lib.hid (HK.out.next L hc6); clear hc6)
      clear HN6
      go_upto_region 26 with (go_at_call 10; with_reducible refine (HN7.out _ HK.out.o).mono ?_; rintro e v7 ⟨b7, rfl, _, hc7⟩; have HK := Lib.hid (HK.out.next L hc7); clear hc7)
      clear HN7 hexS hexD
      go_upto_region 29 with (first
        | (go_at_call 18; with_reducible refine (HK0.out _ HK.out.o).mono ?_; rintro e v8 ⟨rfl, hc8⟩; have HK := Lib.hid (HK.out.next L hc8); clear hc8)
        | (go_at_call 20; with_reducible refine (HS0.out _ HK.out.o).mono ?_; rintro e v9 ⟨rfl, hc9⟩; have HK := Lib.hid (HK.out.next L hc9); clear hc9))
      have HK := Lib.hid (HK.out.next L (by0 v9 (.cells #[.int .u64 0, .slice none 0 0, .slice none 0 0] 48)))
      generalize v9.alloc (.cells #[.int .u64 0, .slice none 0 0, .slice none 0 0] 48) = v10 at *
      obtain ⟨a0, a1, a2, b0, b1, b2, b3, b4⟩ := HCE.out _ HK.out
      go_upto_region 30 with fail
      obtain ⟨F, hF⟩ : ∃ F, F = v10.heap.size := ⟨_, rfl⟩
      have HFX := Lib.hid (show (v10.alloc (.cells #[.string ⟨Q.toArray⟩, .int .u64 1, .int .u64 100, .int .u64 10, .int .u64 4] 39)).heap[F]? = some (.cells #[.string ⟨Q.toArray⟩, .int .u64 1, .int .u64 100, .int .u64 10, .int .u64 4] 39 (0, 0)) by rw [hF]; exact heap_alloc_new v10 _)
      have hb11 := by0 v10 (.cells #[.string ⟨Q.toArray⟩, .int .u64 1, .int .u64 100, .int .u64 10, .int .u64 4] 39)
      have HB12 := Lib.hid (hb11.setCell (p := ⟨F, 2, none⟩) (by rw [hF]; exact Nat.le_refl _) (.int .u64 18446744073709551615))
      rw [← hF]
      generalize v10.alloc (.cells #[.string ⟨Q.toArray⟩, .int .u64 1, .int .u64 100, .int .u64 10, .int .u64 4] 39) = v11 at *
      have f2 := (lit_cell HFX.out 2).trans rfl
      have f3 := lit_free HFX.out 2
      have HFY := Lib.hid (show (v11.setCell ⟨F, 2, none⟩ (.int .u64 18446744073709551615)).heap[F]? = some (.cells #[.string ⟨Q.toArray⟩, .int .u64 1, .int .u64 18446744073709551615, .int .u64 10, .int .u64 4] 39 (0, 0)) from lit_set (k := 2) _ HFX.out)
      have HK := Lib.hid (HK.out.next L HB12.out)
      clear hF hb11 HB12 a0 a1 a2 b0 b1 b2 b3 b4
      go_upto_region 31 with fail
      generalize v11.setCell ⟨F, 2, none⟩ (.int .u64 18446744073709551615) = v12 at *
      clear f2 f3 HFX
      go_wp2_with (first
        | (go_at_call 14; with_reducible refine (HR0.out _ HK.out.o).mono ?_; rintro e v13 ⟨rfl, hc13⟩; have HK := Lib.hid (HK.out.next L hc13); have HFY := Lib.hid ((hc13.block _ (lit_lt HFY.out)).trans HFY.out); clear hc13)
        | (go_at_call 16; with_reducible refine (HP0.out _ HK.out.o).mono ?_; rintro e v14 ⟨rfl, hc14⟩; have HK := Lib.hid (HK.out.next L hc14); have HFY := Lib.hid ((hc14.block _ (lit_lt HFY.out)).trans HFY.out); clear hc14; obtain ⟨a0, a1, a2, b0, b1, b2, b3, b4⟩ := HCE.out _ HK.out; have g0 := (lit_cell HFY.out 0).trans rfl; have g1 := (lit_cell HFY.out 1).trans rfl; have g2 := (lit_cell HFY.out 2).trans rfl; have g3 := (lit_cell HFY.out 3).trans rfl; have g4 := (lit_cell HFY.out 4).trans rfl)
        | (go_at_call 24; with_reducible refine (HV5.out wo po wc pc _ HK.out.o HK.out.hw HK.out.hp HPC.out).mono ?_; rintro e v15 ⟨rfl, hc15⟩; have HK := Lib.hid (HK.out.next L hc15); clear hc15 a0 a1 a2 b0 b1 b2 b3 b4 g0 g1 g2 g3 g4; obtain ⟨a0, a1, a2, b0, b1, b2, b3, b4⟩ := HCE.out _ HK.out)
        | (go_at_call 24; with_reducible refine (HV6.out wo po wc pc _ HK.out.o HK.out.hw HK.out.hp HPC.out).mono ?_; rintro e v16 ⟨rfl, hc16⟩; have HK := Lib.hid (HK.out.next L hc16); clear hc16))
      exact bodyPost_ret (v := .bool true) (by simp [results, Tryz.results7, go_sem]) rfl ⟨rfl, HK.out.o⟩
end Go.Proofs.YtmnklonoelpidaaGreatDoor
