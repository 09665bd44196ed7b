/- Layer 14's law: LadderHolds. -/
import Derived.Test.YtmnklonoelpidaaGreatDoorJLadk
import Derived.Deep.QuietTactic
import Derived.BigQuiet
import Derived.IntWalk
namespace Go.Proofs.YtmnklonoelpidaaGreatDoor
open Go.RowKit

/-- what a walk keeps: what came in, and what lay below -/
structure M14 (w0 : World) (cs : Array Value) (wz : World) : Prop where
  o : Below w0.heap.size w0 wz
  m : wz.heap[w0.heap.size]? = some (.cells cs 24 (0, 0))
theorem M14.next {w0 wz wa : World} {cs : Array Value} (h : M14 w0 cs wz) (hb : Below wz.heap.size wz wa) : M14 w0 cs wa :=
  ⟨h.o.trans (hb.mono h.o.size), (hb.block _ (lit_lt h.m)).trans h.m⟩
/-- the same, with a ladder, a signature and a participant -/
structure H14 (Ld : Nat → (List UInt8) → Nat → Nat → Nat → World → Prop) (w0 : World) (ms : Array Value) (b : Nat) (s : (List UInt8)) (f l n A B : Nat) (cs ds : Array Value) (wo po : Option Addr) (W P : List (List UInt8)) (wz : World) : Prop where
  i : M14 w0 ms wz
  k : Wk14 Ld w0 b s f l n A B cs ds wo po W P wz
theorem H14.next {Ld : Nat → (List UInt8) → Nat → Nat → Nat → World → Prop} (L : LadderC Ld) {w0 wz wa : World} {ms : Array Value} {b : Nat} {s : (List UInt8)} {f l n A B : Nat} {cs ds : Array Value} {wo po : Option Addr} {W P : List (List UInt8)} (h : H14 Ld w0 ms b s f l n A B cs ds wo po W P wz) (hb : Below wz.heap.size wz wa) : H14 Ld w0 ms b s f l n A B cs ds wo po W P wa :=
  ⟨h.i.next hb, h.k.next L hb⟩
theorem M14.first (w : World) (cs : Array Value) : M14 w cs (w.alloc (.cells cs 24)) := ⟨by0 w _, heap_alloc_new w _⟩
set_option maxRecDepth 100000 in
set_option maxHeartbeats 8000000 in
theorem ladderHolds_any {Ld : Nat → (List UInt8) → Nat → Nat → Nat → World → Prop} (L : LadderC Ld) (HWK : WorksL) (s d z F E : Nat) (K : Int) (R wt : Nat) (w : World) (hg : Glob w) (hs : s < 256) (hd : d < 256) (hF : F < 18446744073709551616) (hE : E < 18446744073709551616) (hK : -9223372036854775808 ≤ K ∧ K ≤ 9223372036854775807) (hR : R < 18446744073709551616) :
    Calls Tryz.prog 5 #[.agg (madeV s d z F E K R wt)] w fun e w' => e = .returned (.bool true) ∧ Below w.heap.size w w' := by
  have HWO := Lib.hid (fun wz (h : Below w.heap.size w wz) => HWK wz (hg.below hg.size h))
  have HGB := Lib.hid (fun wz (h : Below w.heap.size w wz) => hg.below hg.size h)
  obtain ⟨M, hM⟩ : ∃ M : Nat, M = K.toNat := ⟨_, rfl⟩
  have hmax : max 0 K = (M : Int) := by omega
  obtain ⟨m8, hm8⟩ : ∃ m, m = M % 8 := ⟨_, rfl⟩
  obtain ⟨m6, hm6⟩ : ∃ m, m = E % 6 := ⟨_, rfl⟩
  obtain ⟨n, hn⟩ : ∃ n, n = 1 + m8 := ⟨_, rfl⟩
  obtain ⟨l, hl⟩ : ∃ l, l = 1 + m6 := ⟨_, rfl⟩
  obtain ⟨f, hf⟩ : ∃ f, f = F / 2 := ⟨_, rfl⟩
  have hn8 : n ≤ 8 := by omega
  have hl6 : l ≤ 6 := by omega
  have hn1 : 1 ≤ n := by omega
  have hl1 : 0 < l := by omega
  obtain ⟨a, ha⟩ : ∃ a, a = l * n := ⟨_, rfl⟩
  have ha48 : a ≤ 48 := by rw [ha]; exact Nat.mul_le_mul hl6 hn8
  have ha1 : 0 < a := by rw [ha]; exact Nat.mul_pos hl1 hn1
  obtain ⟨x, hx⟩ : ∃ x, x = R % a := ⟨_, rfl⟩
  have hxa : x < a := by rw [hx]; exact Nat.mod_lt _ ha1
  obtain ⟨r, hr⟩ : ∃ r, r = f + x := ⟨_, rfl⟩
  obtain ⟨g, hgg⟩ : ∃ g, g = f + a := ⟨_, rfl⟩
  obtain ⟨k, hk⟩ : ∃ k, k = x / l := ⟨_, rfl⟩
  have hkn : k < n := by rw [hk]; exact Nat.div_lt_of_lt_mul (by rw [← ha]; exact hxa)
  have hf63 : f ≤ 9223372036854775807 := by omega
  have hrf : r - f = x := by omega
  have hgf : g - f = a := by omega
  have hkey : keyF f l n r = (k, true) := by rw [keyF_yes (by omega) (by rw [hrf, ← hk]; exact hkn), hrf, hk]
  have HKJ := Lib.hid (show ∀ q j, q = f + j → j < a → keyF f l n q = (j / l, true) from fun q j hq hj => by
    have h1 : q - f = j := by omega
    rw [keyF_yes (by omega) (by rw [h1]; exact Nat.div_lt_of_lt_mul (by rw [← ha]; exact hj)), h1])
  have hkg : keyF f l n g = (0, false) := keyF_no (.inr (by rw [hgf, ha, Nat.mul_div_cancel_left _ hl1]; exact Nat.le_refl _))
  have HKB := Lib.hid (show ∀ h, h + 1 = f → keyF f l n h = (0, false) from fun h hh => keyF_no (.inl (by omega)))
  obtain ⟨S, hS⟩ : ∃ S, S = txtF s 32 := ⟨_, rfl⟩
  obtain ⟨D, hD⟩ : ∃ D, D = txtF d 32 := ⟨_, rfl⟩
  have hsl : S.length = 32 := by rw [hS, txtF_len]
  have hdl : D.length = 32 := by rw [hD, txtF_len]
  have HTS := Lib.hid (fun wz => show Calls Tryz.prog 9 #[.int .u8 (s : Int), .int .i64 32] wz fun e w' => e = .returned (.string ⟨S.toArray⟩) ∧ Below wz.heap.size wz w' by rw [hS]; exact text14_any s 32 wz hs (by decide))
  have HTD := Lib.hid (fun wz => show Calls Tryz.prog 9 #[.int .u8 (d : Int), .int .i64 32] wz fun e w' => e = .returned (.string ⟨D.toArray⟩) ∧ Below wz.heap.size wz w' by rw [hD]; exact text14_any d 32 wz hd (by decide))
  have HFI := Lib.hid (show FineL S f l n from ⟨hsl, hl1, hn1, by omega, by rw [← ha]; omega⟩)
  have HNW := Lib.hid (fun wz (h : Below w.heap.size w wz) => show Calls Tryz.prog 10 #[.string ⟨S.toArray⟩, .int .u64 (f : Int), .int .u64 (l : Int), .int .i64 (n : Int)] wz fun e w' => ∃ b, e = .returned (.tuple #[.pointer (some ⟨b, 0, none⟩), .int .i64 0]) ∧ Ld b S f l n w' ∧ Below wz.heap.size wz w' from L.cn S f l n wz (HGB.out wz h) HFI.out)
  obtain ⟨W, hW⟩ : ∃ W, W = sigL S k D := ⟨_, rfl⟩
  obtain ⟨P, hP⟩ : ∃ P, P = proofD (rungsL S n) [k] := ⟨_, rfl⟩
  obtain ⟨Q, hQ⟩ : ∃ Q, Q = rootS S n := ⟨_, rfl⟩
  have hwl : W.length = 67 := by rw [hW, sigL, row67_len]
  obtain ⟨pl, hpl⟩ : ∃ pl, pl = P.length := ⟨_, rfl⟩
  have hple : pl ≤ 100000 := by rw [hpl, hP]; exact path_le S n k (by omega) hkn
  have hql : Q.length = 32 := by rw [hQ]; exact rootS_32 S n
  have HSG := Lib.hid (fun b wz (h : Below w.heap.size w wz) (hb : Ld b S f l n wz) => show Calls Tryz.prog 20 #[.pointer (some ⟨b, 0, none⟩), .int .u64 (r : Int), .string ⟨D.toArray⟩] wz fun e w' => ∃ (wo po : Option Addr) (wc pc : Nat), e = .returned (.tuple #[.agg #[.int .u64 (k : Int), .slice wo 67 wc, .slice po pl pc], .int .i64 0]) ∧ Strs wo W w' ∧ Strs po P w' ∧ pl ≤ pc ∧ Below wz.heap.size wz w' by
    have h1 := L.cs b S f l n r D wz (HGB.out wz h) HFI.out hb (by omega) (by omega)
    have ha : signA S f l n r D = ⟨0, k, W, P⟩ := by rw [signA, hkey, if_neg (by simp), if_neg (by omega), hW, hP]
    rw [ha] at h1
    refine h1.mono ?_
    rintro e w' ⟨wo, po, wc, pc, h2, h3, h4, h6, h5⟩
    exact ⟨wo, po, wc, pc, by rw [h2]; simp only [hwl, ← hpl]; rfl, h3, h4, by rw [hpl]; exact h6, h5⟩)
  have HPA := Lib.hid (fun b wz (h : Below w.heap.size w wz) (hb : Ld b S f l n wz) => show Calls Tryz.prog 16 #[.pointer (some ⟨b, 0, none⟩), .int .u64 1] wz fun e w' => e = .returned (.agg #[.string ⟨Q.toArray⟩, .int .u64 1, .int .u64 (f : Int), .int .u64 (l : Int), .int .u64 (n : Int)]) ∧ Below wz.heap.size wz w' by rw [hQ]; exact L.cp b S f l n 1 wz (HGB.out wz h) HFI.out hb (by decide))
  have HVE := Lib.hid (fun (q e : Nat) (hq : verV Q f l n q D k W P = e) (hq2 : q < 18446744073709551616) wo po wc pc wz (h : Below w.heap.size w wz) (h1 : Strs wo W wz) (h2 : Strs po P wz) (hpc : pl ≤ pc) => show Calls Tryz.prog 24 #[.agg #[.string ⟨Q.toArray⟩, .int .u64 1, .int .u64 (f : Int), .int .u64 (l : Int), .int .u64 (n : Int)], .int .u64 (q : Int), .string ⟨D.toArray⟩, .agg #[.int .u64 (k : Int), .slice wo 67 wc, .slice po pl pc]] wz fun e' w' => e' = .returned (.int .i64 (e : Int)) ∧ Below wz.heap.size wz w' by
    have h3 := L.cv Q 1 f l n q D k W P wo po wc pc wz (HGB.out wz h) (by omega) hq2 (by omega) (by omega) (by omega) (by omega) (by decide) (by omega) h1 h2 (by omega) (fun _ x hx => by rw [hW] at hx; exact Nat.le_trans (sig_short _ _ _ x hx) (by decide)) (by omega) (by omega) (fun _ x hx => by rw [hP] at hx; exact path_short S n k x hx)
    rw [hq, hwl, ← hpl] at h3
    exact h3)
  have HVY := Lib.hid (fun q j (hq : q = f + j) (hj : j < a) (hjk : j / l = k) wo po wc pc wz (h : Below w.heap.size w wz) (h1 : Strs wo W wz) (h2 : Strs po P wz) (hpc : pl ≤ pc) => show Calls Tryz.prog 24 #[.agg #[.string ⟨Q.toArray⟩, .int .u64 1, .int .u64 (f : Int), .int .u64 (l : Int), .int .u64 (n : Int)], .int .u64 (q : Int), .string ⟨D.toArray⟩, .agg #[.int .u64 (k : Int), .slice wo 67 wc, .slice po pl pc]] wz fun e' w' => e' = .returned (.int .i64 0) ∧ Below wz.heap.size wz w' from
    HVE.out q 0 (by rw [hQ, hW, hP]; exact ver_good hdl hl1 hn1 (by omega) (by rw [HKJ.out q j hq hj, hjk])) (by omega) wo po wc pc wz h h1 h2 hpc)
  have HVN := Lib.hid (fun q j (hq : q = f + j) (hj : j < a) (hjk : j / l ≠ k) wo po wc pc wz (h : Below w.heap.size w wz) (h1 : Strs wo W wz) (h2 : Strs po P wz) (hpc : pl ≤ pc) => show Calls Tryz.prog 24 #[.agg #[.string ⟨Q.toArray⟩, .int .u64 1, .int .u64 (f : Int), .int .u64 (l : Int), .int .u64 (n : Int)], .int .u64 (q : Int), .string ⟨D.toArray⟩, .agg #[.int .u64 (k : Int), .slice wo 67 wc, .slice po pl pc]] wz fun e' w' => e' = .returned (.int .i64 10) ∧ Below wz.heap.size wz w' from
    HVE.out q 10 (ver_other hdl hql hl1 hn1 (by omega) (HKJ.out q j hq hj) (fun h => hjk h.symm)) (by omega) wo po wc pc wz h h1 h2 hpc)
  have HVG := Lib.hid (fun q (hq : keyF f l n q = (0, false)) (hq2 : q ≤ g) wo po wc pc wz (h : Below w.heap.size w wz) (h1 : Strs wo W wz) (h2 : Strs po P wz) (hpc : pl ≤ pc) => show Calls Tryz.prog 24 #[.agg #[.string ⟨Q.toArray⟩, .int .u64 1, .int .u64 (f : Int), .int .u64 (l : Int), .int .u64 (n : Int)], .int .u64 (q : Int), .string ⟨D.toArray⟩, .agg #[.int .u64 (k : Int), .slice wo 67 wc, .slice po pl pc]] wz fun e' w' => e' = .returned (.int .i64 16) ∧ Below wz.heap.size wz w' from
    HVE.out q 16 (ver_none hdl hql hl1 hn1 (by omega) hq) (by omega) wo po wc pc wz h h1 h2 hpc)
  have u1 : (M : Int).tmod 8 = (m8 : Int) := by rw [Int.tmod_eq_emod_of_nonneg (by omega)]; omega
  have u2 : (M : Int) % 8 = (m8 : Int) := by omega
  have u3 : IntKind.i64.wrap (m8 : Int) = (m8 : Int) := IntWalk.i64_in _ (by omega)
  have u4 : (1 : Int) + (m8 : Int) = (n : Int) := by omega
  have u5 : IntKind.i64.wrap (n : Int) = (n : Int) := IntWalk.i64_in _ (by omega)
  have v1 : (E : Int).tmod 6 = (m6 : Int) := by rw [Int.tmod_eq_emod_of_nonneg (by omega)]; omega
  have v2 : (E : Int) % 6 = (m6 : Int) := by omega
  have v3 : IntKind.u64.wrap (m6 : Int) = (m6 : Int) := by rw [IntKind.wrap_u64]; omega
  have v4 : (1 : Int) + (m6 : Int) = (l : Int) := by omega
  have v5 : IntKind.u64.wrap (l : Int) = (l : Int) := by rw [IntKind.wrap_u64]; omega
  have x1 : (F : Int).tdiv 2 = (f : Int) := by rw [Int.tdiv_eq_ediv_of_nonneg (by omega)]; omega
  have x2 : (F : Int) / 2 = (f : Int) := by omega
  have x3 : IntKind.u64.wrap (f : Int) = (f : Int) := by rw [IntKind.wrap_u64]; omega
  have y1 : IntKind.u64.wrap (n : Int) = (n : Int) := by rw [IntKind.wrap_u64]; omega
  have y2 : (l : Int) * (n : Int) = (a : Int) := by rw [ha]; exact (Int.natCast_mul l n).symm
  have y3 : IntKind.u64.wrap (a : Int) = (a : Int) := by rw [IntKind.wrap_u64]; omega
  have y4 : (R : Int) % (a : Int) = (x : Int) := by rw [hx]; exact (Int.natCast_emod R a).symm
  have y5 : (R : Int).tmod (a : Int) = (x : Int) := by rw [Int.tmod_eq_emod_of_nonneg (by omega)]; exact y4
  have y6 : ¬ (a : Int) = 0 := by omega
  have y7 : (f : Int) + (x : Int) = (r : Int) := by omega
  have y8 : IntKind.u64.wrap (r : Int) = (r : Int) := by rw [IntKind.wrap_u64]; omega
  have y9 : (r : Int) - (f : Int) = (x : Int) := by omega
  have ya : IntKind.u64.wrap (x : Int) = (x : Int) := by rw [IntKind.wrap_u64]; omega
  have yb : (x : Int) / (l : Int) = (k : Int) := by rw [hk]; exact (Int.natCast_ediv x l).symm
  have yc : (x : Int).tdiv (l : Int) = (k : Int) := by rw [Int.tdiv_eq_ediv_of_nonneg (by omega)]; exact yb
  have yd : IntKind.u64.wrap (k : Int) = (k : Int) := by rw [IntKind.wrap_u64]; omega
  have ye : ¬ (l : Int) = 0 := by omega
  have yf : (f : Int) + (a : Int) = (g : Int) := by omega
  have yg : IntKind.u64.wrap (g : Int) = (g : Int) := by rw [IntKind.wrap_u64]; omega
  have HGF := Lib.hid hgg
  have HF63 := Lib.hid hf63
  have HLA := Lib.hid (show 0 < l ∧ l ≤ 6 ∧ a ≤ 48 from ⟨hl1, hl6, ha48⟩)
  have HKG := Lib.hid hkg
  have hn0 : ¬ (a = 0) := by omega
  clear hF hE hK hs hd hM hm8 hm6 hn hl hf hR hx hr hk hrf hgf hkey hkg hkn hxa hwl hpl hple hql hsl hdl hW hP hQ hS hD hgg hf63 ha hg HKJ HVE
  have B0 := Lib.hid (M14.first w (madeV s d z F E K R wt))
  have HC := Lib.hid (fun wz (h : M14 w (madeV s d z F E K R wt) wz) => show wz.cell? ⟨w.heap.size, 0, none⟩ = some (.int .u8 (s : Int)) ∧ wz.cell? ⟨w.heap.size, 1, none⟩ = some (.int .u8 (d : Int)) ∧ wz.cell? ⟨w.heap.size, 3, none⟩ = some (.int .u64 (F : Int)) ∧ wz.cell? ⟨w.heap.size, 4, none⟩ = some (.int .u64 (E : Int)) ∧ wz.cell? ⟨w.heap.size, 5, none⟩ = some (.int .i64 K) ∧ wz.cell? ⟨w.heap.size, 6, none⟩ = some (.int .u64 (R : Int)) from
    ⟨(lit_cell h.m 0).trans rfl, (lit_cell h.m 1).trans rfl, (lit_cell h.m 3).trans rfl, (lit_cell h.m 4).trans rfl, (lit_cell h.m 5).trans rfl, (lit_cell h.m 6).trans rfl⟩)
  go_enter Tryz.func5, Tryz.ntmps5
  go_upto_region 3 with (go_at_call 13; with_reducible refine (HWO.out _ B0.out.o).mono ?_; rintro e w1 ⟨rfl, hb1⟩; have B1 := Lib.hid (B0.out.next hb1); clear hb1)
  have B2 := Lib.hid (B1.out.next (Below.refl w1.heap.size w1).drew)
  have hS1 := HC.out _ B2.out
  have hS1 : w1.drew.cell? ⟨w.heap.size, 3, none⟩ = some (.int .u64 (F : Int)) ∧ w1.drew.cell? ⟨w.heap.size, 4, none⟩ = some (.int .u64 (E : Int)) ∧ w1.drew.cell? ⟨w.heap.size, 5, none⟩ = some (.int .i64 K) ∧ M14 w (madeV s d z F E K R wt) w1.drew := ⟨hS1.2.2.1, hS1.2.2.2.1, hS1.2.2.2.2.1, B2.out⟩
  go_region_held3 (fun wz => wz.cell? ⟨w.heap.size, 3, none⟩ = some (.int .u64 (F : Int)) ∧ wz.cell? ⟨w.heap.size, 4, none⟩ = some (.int .u64 (E : Int)) ∧ wz.cell? ⟨w.heap.size, 5, none⟩ = some (.int .i64 K) ∧ M14 w (madeV s d z F E K R wt) wz)
    (first | (with_reducible assumption))
    (first | (fail))
  generalize w1.drew = w2 at *
  clear hS1 B1 B0 HWO
  have c1 := (HC.out _ B2.out).1
  have c0 := (HC.out _ B2.out).2.1
  go_upto_region 5 with (go_at_call 9; with_reducible refine (HTD.out _).mono ?_; rintro e w3 ⟨rfl, hb3⟩; have B3 := Lib.hid (B2.out.next hb3); clear hb3)
  clear c1 c0
  have c0 := (HC.out _ B3.out).1
  go_upto_region 6 with (first
    | (go_at_call 9; with_reducible refine (HTS.out _).mono ?_; rintro e w4 ⟨rfl, hb4⟩; have B4 := Lib.hid (B3.out.next hb4); clear hb4)
    | (go_at_call 10; with_reducible refine (HNW.out _ B4.out.o).mono ?_; rintro e w5 ⟨b, rfl, hl5, hb5⟩; have B5 := Lib.hid (B4.out.next hb5); have L5 := Lib.hid hl5; clear hb5 hl5))
  clear HTS HTD HNW c0 B3 B4 B2
  have c6 := (HC.out _ B5.out).2.2.2.2.2
  go_upto_region 10 with fail
  clear c6
  go_upto_region 11 with (go_at_call 20; with_reducible refine (HSG.out _ _ B5.out.o L5.out).mono ?_; rintro e w6 ⟨wo, po, wc, pc, rfl, hw6, hp6, hpc, hb6⟩; have B6 := Lib.hid (B5.out.next hb6); have L6 := Lib.hid (L.ck L5.out hb6); have SW := Lib.hid hw6; have SP := Lib.hid hp6; have HPC := Lib.hid hpc; clear hb6 hw6 hp6 hpc)
  obtain ⟨A, hA⟩ : ∃ A, A = w6.heap.size := ⟨_, rfl⟩
  have HX7 := Lib.hid (show (w6.alloc (.cells #[.int .u64 (k : Int), .slice wo 67 wc, .slice po pl pc] 48)).heap[A]? = some (.cells #[.int .u64 (k : Int), .slice wo 67 wc, .slice po pl pc] 48 (0, 0)) by rw [hA]; exact heap_alloc_new w6 _)
  have B7 := Lib.hid (B6.out.next (by0 w6 (.cells #[.int .u64 (k : Int), .slice wo 67 wc, .slice po pl pc] 48)))
  have L7 := Lib.hid (L.ck L6.out (by0 w6 (.cells #[.int .u64 (k : Int), .slice wo 67 wc, .slice po pl pc] 48)))
  have SW := Lib.hid (SW.out.below (Nat.le_refl _) (by0 w6 (.cells #[.int .u64 (k : Int), .slice wo 67 wc, .slice po pl pc] 48)))
  have SP := Lib.hid (SP.out.below (Nat.le_refl _) (by0 w6 (.cells #[.int .u64 (k : Int), .slice wo 67 wc, .slice po pl pc] 48)))
  rw [← hA]
  generalize w6.alloc (.cells #[.int .u64 (k : Int), .slice wo 67 wc, .slice po pl pc] 48) = w7 at *
  clear hA HSG B6 L6 B5 L5
  have hA0 := (lit_cell HX7.out 0).trans rfl
  go_quiet (fail)
  have HX7 := Lib.hid (((by0q w7 nq).block _ (lit_lt HX7.out)).trans HX7.out)
  have B7 := Lib.hid (B7.out.next (by0q w7 nq))
  have L7 := Lib.hid (L.ck L7.out (by0q w7 nq))
  have SW := Lib.hid (SW.out.below (Nat.le_refl _) (by0q w7 nq))
  have SP := Lib.hid (SP.out.below (Nat.le_refl _) (by0q w7 nq))
  generalize w7.drewN nq = w8 at *
  clear hA0
  go_upto_region 14 with (go_at_call 16; with_reducible refine (HPA.out _ _ B7.out.o L7.out).mono ?_; rintro e w9 ⟨rfl, hb9⟩; have B9 := Lib.hid (B7.out.next hb9); have L9 := Lib.hid (L.ck L7.out hb9); have SW := Lib.hid (SW.out.below (Nat.le_refl _) hb9); have SP := Lib.hid (SP.out.below (Nat.le_refl _) hb9); have HX9 := Lib.hid ((hb9.block _ (lit_lt HX7.out)).trans HX7.out); clear hb9)
  obtain ⟨B, hB⟩ : ∃ B, B = w9.heap.size := ⟨_, rfl⟩
  have HH := Lib.hid (show H14 Ld w (madeV s d z F E K R wt) b S f l n A B #[.int .u64 (k : Int), .slice wo 67 wc, .slice po pl pc] #[.string ⟨Q.toArray⟩, .int .u64 1, .int .u64 (f : Int), .int .u64 (l : Int), .int .u64 (n : Int)] wo po W P (w9.alloc (.cells #[.string ⟨Q.toArray⟩, .int .u64 1, .int .u64 (f : Int), .int .u64 (l : Int), .int .u64 (n : Int)] 39)) from
    ⟨B9.out.next (by0 w9 _), ⟨(B9.out.next (by0 w9 _)).o, L.ck L9.out (by0 w9 _), lit_old _ HX9.out, by rw [hB]; exact heap_alloc_new w9 _, SW.out.below (Nat.le_refl _) (by0 w9 _), SP.out.below (Nat.le_refl _) (by0 w9 _)⟩⟩)
  rw [← hB]
  generalize w9.alloc (.cells #[.string ⟨Q.toArray⟩, .int .u64 1, .int .u64 (f : Int), .int .u64 (l : Int), .int .u64 (n : Int)] 39) = w10 at *
  clear hB HPA B7 L7 B9 L9 SW SP HX7 HX9
  have HCE := Lib.hid (show ∀ wz, H14 Ld w (madeV s d z F E K R wt) b S f l n A B #[.int .u64 (k : Int), .slice wo 67 wc, .slice po pl pc] #[.string ⟨Q.toArray⟩, .int .u64 1, .int .u64 (f : Int), .int .u64 (l : Int), .int .u64 (n : Int)] wo po W P wz → (wz.cell? ⟨A, 0, none⟩ = some (.int .u64 (k : Int)) ∧ wz.cell? ⟨A, 1, none⟩ = some (.slice wo 67 wc) ∧ wz.cell? ⟨A, 2, none⟩ = some (.slice po pl pc) ∧ wz.cell? ⟨B, 0, none⟩ = some (.string ⟨Q.toArray⟩) ∧ wz.cell? ⟨B, 1, none⟩ = some (.int .u64 1) ∧ wz.cell? ⟨B, 2, none⟩ = some (.int .u64 (f : Int)) ∧ wz.cell? ⟨B, 3, none⟩ = some (.int .u64 (l : Int)) ∧ wz.cell? ⟨B, 4, none⟩ = some (.int .u64 (n : Int))) from fun wz h => ⟨(lit_cell h.k.x 0).trans rfl, (lit_cell h.k.x 1).trans rfl, (lit_cell h.k.x 2).trans rfl, (lit_cell h.k.y 0).trans rfl, (lit_cell h.k.y 1).trans rfl, (lit_cell h.k.y 2).trans rfl, (lit_cell h.k.y 3).trans rfl, (lit_cell h.k.y 4).trans rfl⟩)
  go_wp2
  go_loopw [14, 15] (fun v14 v15 wr => ∃ j : Nat, j ≤ a ∧ v14 = .int .u64 ((f + j : Nat) : Int) ∧ Hid (H14 Ld w (madeV s d z F E K R wt) b S f l n A B #[.int .u64 (k : Int), .slice wo 67 wc, .slice po pl pc] #[.string ⟨Q.toArray⟩, .int .u64 1, .int .u64 (f : Int), .int .u64 (l : Int), .int .u64 (n : Int)] wo po W P wr)) (fun v14 v15 _ => f + a - (intOf v14).toNat)
  case atStart => exact ⟨0, Nat.zero_le _, rfl, HH⟩
  case round =>
    obtain ⟨j, hj, rfl, HR⟩ := hrel
    obtain ⟨q, hq⟩ : ∃ q, q = f + j := ⟨_, rfl⟩
    rw [← hq]
    by_cases hlt : j < a
    · obtain ⟨p, hp⟩ : ∃ p, p = j / l := ⟨_, rfl⟩
      obtain ⟨q1, hq1⟩ : ∃ q1, q1 = f + (j + 1) := ⟨_, rfl⟩
      have k0 : (q : Int) < (g : Int) := by have := HGF.out; omega
      have k1 : (q : Int) - (f : Int) = (j : Int) := by omega
      have k2 : IntKind.u64.wrap (j : Int) = (j : Int) := by rw [IntKind.wrap_u64]; have := HLA.out; omega
      have k3 : (j : Int) / (l : Int) = (p : Int) := by rw [hp]; exact (Int.natCast_ediv j l).symm
      have k4 : (j : Int).tdiv (l : Int) = (p : Int) := by rw [Int.tdiv_eq_ediv_of_nonneg (by omega)]; exact k3
      have hpj : p ≤ j := by rw [hp]; exact Nat.div_le_self _ _
      have k5 : IntKind.u64.wrap (p : Int) = (p : Int) := by rw [IntKind.wrap_u64]; have := HLA.out; omega
      have k6 : (q : Int) + 1 = (q1 : Int) := by omega
      have k7 : IntKind.u64.wrap (q1 : Int) = (q1 : Int) := by rw [IntKind.wrap_u64]; have := HLA.out; have := HF63.out; omega
      have HJ := Lib.hid (show q = f + j ∧ j < a ∧ p = j / l ∧ q1 = f + (j + 1) from ⟨hq, hlt, hp, hq1⟩)
      clear hq hlt hp hq1 hj hpj
      have hA0 := (HCE.out _ HR.out).1
      by_cases hpk : p = k
      · obtain rfl := hpk.symm
        go_upto_region 18 with fail
        go_quiet (fail)
        have HR := Lib.hid (HR.out.next L (by0q wr nq))
        generalize wr.drewN nq = w11 at *
        clear hA0
        obtain ⟨a0, a1, a2, b0, b1, b2, b3, b4⟩ := HCE.out _ HR.out
        go_upto_region 16 with (go_at_call 24; with_reducible refine (HVY.out q j HJ.out.1 HJ.out.2.1 HJ.out.2.2.1.symm wo po wc pc _ HR.out.i.o HR.out.k.hw HR.out.k.hp HPC.out).mono ?_; rintro e w12 ⟨rfl, hb12⟩; have HR' := Lib.hid (HR.out.next L hb12); clear hb12)
        clear a0 a1 a2 b0 b1 b2 b3 b4
        go_wp2
        go_roundw
        case rel => exact ⟨j + 1, HJ.out.2.1, by rw [HJ.out.2.2.2], HR'⟩
        case measure => obtain ⟨h1, h2, _, h4⟩ := HJ.out; simp [intOf]; omega
      · have HPK := Lib.hid hpk
        have k8 : ¬ (p : Int) = (k : Int) := by omega
        go_upto_region 18 with fail
        go_quiet (fail)
        have HR := Lib.hid (HR.out.next L (by0q wr nq))
        generalize wr.drewN nq = w11 at *
        clear hA0
        obtain ⟨a0, a1, a2, b0, b1, b2, b3, b4⟩ := HCE.out _ HR.out
        go_upto_region 16 with (go_at_call 24; with_reducible refine (HVN.out q j HJ.out.1 HJ.out.2.1 (by rw [← HJ.out.2.2.1]; exact HPK.out) wo po wc pc _ HR.out.i.o HR.out.k.hw HR.out.k.hp HPC.out).mono ?_; rintro e w12 ⟨rfl, hb12⟩; have HR' := Lib.hid (HR.out.next L hb12); clear hb12)
        clear a0 a1 a2 b0 b1 b2 b3 b4
        go_wp2
        go_roundw
        case rel => exact ⟨j + 1, HJ.out.2.1, by rw [HJ.out.2.2.2], HR'⟩
        case measure => obtain ⟨h1, h2, _, h4⟩ := HJ.out; simp [intOf]; omega
    · have k0 : ¬ (q : Int) < (g : Int) := by have := HGF.out; omega
      clear hlt hq hj
      obtain ⟨a0, a1, a2, b0, b1, b2, b3, b4⟩ := HCE.out _ HR.out
      by_cases hf0 : f = 0
      · have hga : g = a := by have := HGF.out; omega
        subst hga
        subst hf0
        rw [show ((0 : Nat) : Int) = 0 from rfl] at *
        go_wp2_with (go_at_call 24; with_reducible refine (HVG.out g HKG.out (Nat.le_refl _) wo po wc pc _ HR.out.i.o HR.out.k.hw HR.out.k.hp HPC.out).mono ?_; rintro e w12 ⟨rfl, hb12⟩; have HR' := Lib.hid (HR.out.next L hb12); clear hb12)
        exact bodyPost_ret (v := .bool true) (by simp [results, Tryz.results5, go_sem]) rfl ⟨rfl, HR'.out.i.o⟩
      · obtain ⟨h, hh⟩ : ∃ h, h = f - 1 := ⟨_, rfl⟩
        have HH1 := Lib.hid (show h + 1 = f by omega)
        have f0 : ¬ (f : Int) = 0 := by omega
        have f1 : (f : Int) - 1 = (h : Int) := by omega
        have f2 : IntKind.u64.wrap (h : Int) = (h : Int) := by rw [IntKind.wrap_u64]; have := HF63.out; omega
        clear hf0 hh
        go_wp2_with (first
          | (go_at_call 24; with_reducible refine (HVG.out g HKG.out (Nat.le_refl _) wo po wc pc _ HR.out.i.o HR.out.k.hw HR.out.k.hp HPC.out).mono ?_; rintro e w12 ⟨rfl, hb12⟩; have HR' := Lib.hid (HR.out.next L hb12); clear hb12; clear a0 a1 a2 b0 b1 b2 b3 b4; obtain ⟨a0, a1, a2, b0, b1, b2, b3, b4⟩ := HCE.out _ HR'.out)
          | (go_at_call 24; with_reducible refine (HVG.out h (HKB.out h HH1.out) (by have := HH1.out; have := HGF.out; omega) wo po wc pc _ HR'.out.i.o HR'.out.k.hw HR'.out.k.hp HPC.out).mono ?_; rintro e w13 ⟨rfl, hb13⟩; have HR2 := Lib.hid (HR'.out.next L hb13); clear hb13))
        exact bodyPost_ret (v := .bool true) (by simp [results, Tryz.results5, go_sem]) rfl ⟨rfl, HR2.out.i.o⟩
end Go.Proofs.YtmnklonoelpidaaGreatDoor
