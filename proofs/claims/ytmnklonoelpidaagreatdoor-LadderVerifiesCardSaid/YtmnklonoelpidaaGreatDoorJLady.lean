/- The program's ladder: Sign, whole. -/
import Derived.Test.YtmnklonoelpidaaGreatDoorJLadx
namespace Go.Proofs.YtmnklonoelpidaaGreatDoor
open Go.RowKit

abbrev sFs (A : Nat) : List (FuncId × Array Value) := [(48, #[.pointer (some ⟨A, 0, none⟩)]), (49, #[.pointer (some ⟨A, 0, none⟩), .pointer (some ⟨A + 1, 0, none⟩), .pointer (some ⟨A + 4, 0, none⟩)]), (51, #[.pointer (some ⟨A, 0, none⟩), .pointer (some ⟨A + 4, 0, none⟩), .pointer (some ⟨A + 2, 0, none⟩)]), (53, #[.pointer (some ⟨A, 0, none⟩), .pointer (some ⟨A + 4, 0, none⟩)])]
theorem sFs_ent (A : Nat) : ∀ f ∈ sFs A, Ent14 f.1 := by
  intro f hf
  simp at hf
  rcases hf with rfl | rfl | rfl | rfl
  · exact enters_of Tryz.func48 (by kernel_rfl) rfl
  · exact enters_of Tryz.func49 (by kernel_rfl) rfl
  · exact enters_of Tryz.func51 (by kernel_rfl) rfl
  · exact enters_of Tryz.func53 (by kernel_rfl) rfl
/-- what Sign answers, of which P is so -/
def SgP (P : Value → Nat → World → Prop) (e : Ending) (w' : World) : Prop := ∃ (v : Value) (x : Nat), e = .returned (.tuple #[v, .int .i64 (x : Int)]) ∧ P v x w'
set_option maxRecDepth 100000 in
set_option maxHeartbeats 4000000 in
theorem sign_walk {A : Nat} {p : Option Addr} {r : Nat} {d : (List UInt8)} {w : World} {K : Nat → World → Prop} {Q : Nat → World → Prop} {P : Value → Nat → World → Prop} (hA : A = w.heap.size) (HAS : Asks (sFs A) (A + 5) K Q) (h0 : ∀ w', Sw14 w A p r d #[.int .u64 0, .slice none 0 0, .slice none 0 0] w' → K 0 w')
    (hK : ∀ w', K 4 w' → ∃ (k : Nat) (wo po : Option Addr) (wl wc pl pc : Nat), Sw14 w A p r d #[.int .u64 (k : Int), .slice wo wl wc, .slice po pl pc] w' ∧ P (.agg #[.int .u64 (k : Int), .slice wo wl wc, .slice po pl pc]) 0 (((w'.setCell ⟨A + 3, 0, none⟩ (.int .u64 (k : Int))).setCell ⟨A + 3, 1, none⟩ (.slice wo wl wc)).setCell ⟨A + 3, 2, none⟩ (.slice po pl pc)))
    (hQ : ∀ x w', x ≠ 0 → Q x w' → ∃ cs, Sw14 w A p r d cs w' ∧ P (.agg #[.int .u64 0, .slice none 0 0, .slice none 0 0]) x (((w'.setCell ⟨A + 3, 0, none⟩ (.int .u64 0)).setCell ⟨A + 3, 1, none⟩ (.slice none 0 0)).setCell ⟨A + 3, 2, none⟩ (.slice none 0 0))) :
    Calls Tryz.prog 20 #[.pointer p, .int .u64 (r : Int), .string ⟨d.toArray⟩] w (SgP P) := by
  have HK := Lib.hid hK
  have HQ := Lib.hid hQ
  obtain ⟨wa, hwa⟩ : ∃ wa, wa = w.alloc (.cells #[.pointer p] 28) := ⟨_, rfl⟩
  have za : wa.heap.size = A + 1 := by rw [hwa, World.size_alloc, hA]
  have xa : wa.heap[A]? = some (.cells #[.pointer p] 28 (0, 0)) := by rw [hwa, hA]; exact heap_alloc_new w _
  have ba : Below A w wa := by rw [hwa, hA]; exact by0 w _
  obtain ⟨wb, hwb⟩ : ∃ wb, wb = wa.alloc (.cells #[.int .u64 (r : Int)] 22) := ⟨_, rfl⟩
  have zb : wb.heap.size = A + 2 := by rw [hwb, World.size_alloc, za]
  have xb : wb.heap[A + 1]? = some (.cells #[.int .u64 (r : Int)] 22 (0, 0)) := by rw [hwb, ← za]; exact heap_alloc_new wa _
  have bb : Below A w wb := by rw [hwb]; exact ba.alloc (by omega) _
  obtain ⟨wd, hwd⟩ : ∃ wd, wd = wb.alloc (.cells #[.string ⟨d.toArray⟩] 9) := ⟨_, rfl⟩
  have zd : wd.heap.size = A + 3 := by rw [hwd, World.size_alloc, zb]
  have xd : wd.heap[A + 2]? = some (.cells #[.string ⟨d.toArray⟩] 9 (0, 0)) := by rw [hwd, ← zb]; exact heap_alloc_new wb _
  have bd : Below A w wd := by rw [hwd]; exact bb.alloc (by omega) _
  obtain ⟨wr, hwr⟩ : ∃ wr, wr = wd.alloc (.cells #[.int .u64 0, .slice none 0 0, .slice none 0 0] 48) := ⟨_, rfl⟩
  have zr : wr.heap.size = A + 4 := by rw [hwr, World.size_alloc, zd]
  have xr : wr.heap[A + 3]? = some (.cells #[.int .u64 0, .slice none 0 0, .slice none 0 0] 48 (0, 0)) := by rw [hwr, ← zd]; exact heap_alloc_new wd _
  have br : Below A w wr := by rw [hwr]; exact bd.alloc (by omega) _
  obtain ⟨ws, hws⟩ : ∃ ws, ws = wr.alloc (.cells #[.int .u64 0, .slice none 0 0, .slice none 0 0] 48) := ⟨_, rfl⟩
  have zs : ws.heap.size = A + 5 := by rw [hws, World.size_alloc, zr]
  have xs : ws.heap[A + 4]? = some (.cells #[.int .u64 0, .slice none 0 0, .slice none 0 0] 48 (0, 0)) := by rw [hws, ← zr]; exact heap_alloc_new wr _
  have bs : Below A w ws := by rw [hws]; exact br.alloc (by omega) _
  have HN4 := Lib.hid (show Sw14 w A p r d #[.int .u64 0, .slice none 0 0, .slice none 0 0] (ws.alloc (.cells #[.func (.func 48) #[] #[.pointer (some ⟨A, 0, none⟩)], .func (.func 49) #[] #[.pointer (some ⟨A, 0, none⟩), .pointer (some ⟨A + 1, 0, none⟩), .pointer (some ⟨A + 4, 0, none⟩)], .func (.func 51) #[] #[.pointer (some ⟨A, 0, none⟩), .pointer (some ⟨A + 4, 0, none⟩), .pointer (some ⟨A + 2, 0, none⟩)], .func (.func 53) #[] #[.pointer (some ⟨A, 0, none⟩), .pointer (some ⟨A + 4, 0, none⟩)]] 74)) from
    ⟨hA.symm, bs.alloc (by omega) _, lit_old _ (by rw [hws]; refine lit_old _ ?_; rw [hwr]; refine lit_old _ ?_; rw [hwd]; refine lit_old _ ?_; rw [hwb]; exact lit_old _ xa), lit_old _ (by rw [hws]; refine lit_old _ ?_; rw [hwr]; refine lit_old _ ?_; rw [hwd]; exact lit_old _ xb), lit_old _ (by rw [hws]; refine lit_old _ ?_; rw [hwr]; exact lit_old _ xd), lit_old _ (by rw [hws]; exact lit_old _ xr), lit_old _ xs, by rw [← zs]; exact heap_alloc_new ws _⟩)
  have HF := Lib.hid (show Calls Tryz.prog 30 #[.slice (some ⟨A + 5, 0, none⟩) 4 4] _ _ from first_any HAS 4 _ (by simp) (h0 _ HN4.out))
  have HWR := Lib.hid (show wr = (((w.alloc (.cells #[.pointer p] 28)).alloc (.cells #[.int .u64 (r : Int)] 22)).alloc (.cells #[.string ⟨d.toArray⟩] 9)).alloc (.cells #[.int .u64 0, .slice none 0 0, .slice none 0 0] 48) by rw [hwr, hwd, hwb, hwa])
  have HWS := Lib.hid hws
  have HAA := Lib.hid hA
  have HZR := Lib.hid zr
  clear HAS h0 hK hQ hwa za xa ba hwb zb xb bb hwd zd xd bd hwr zr xr br hws xs bs HN4 hA
  go_enter Tryz.func20, Tryz.ntmps20
  go_upto_region 1 with fail
  rw [← HWR.out, ← HAA.out]
  go_upto_region 2 with fail
  rw [HZR.out, ← HWS.out]
  go_wp2_with (fail)
  refine HF.out.mono ?_
  rintro e w5 (⟨rfl, hk⟩ | ⟨x, hx, rfl, hq⟩)
  · obtain ⟨k, wo, po, wl, wc, pl, pc, hS, hP⟩ := HK.out w5 hk
    have HP := Lib.hid hP
    have HX := Lib.hid (lit_set (k := 2) (.slice po pl pc) (lit_set (k := 1) (.slice wo wl wc) (lit_set (k := 0) (.int .u64 (k : Int)) hS.r)))
    have s0 := (lit_cell hS.s 0).trans rfl
    have s1 := (lit_cell hS.s 1).trans rfl
    have s2 := (lit_cell hS.s 2).trans rfl
    have r0 := (lit_cell hS.r 0).trans rfl
    have r1 := (lit_cell hS.r 1).trans rfl
    have r2 := (lit_cell hS.r 2).trans rfl
    have f0 := lit_free hS.r 0
    have f1 := lit_free hS.r 1
    have f2 := lit_free hS.r 2
    clear hk hS hP HK HQ HF zs
    go_wp2
    clear s0 s1 s2 r0 r1 r2 f0 f1 f2
    have v0 := (lit_cell HX.out 0).trans rfl
    have v1 := (lit_cell HX.out 1).trans rfl
    have v2 := (lit_cell HX.out 2).trans rfl
    generalize (((w5.setCell ⟨A + 3, 0, none⟩ (.int .u64 (k : Int))).setCell ⟨A + 3, 1, none⟩ (.slice wo wl wc)).setCell ⟨A + 3, 2, none⟩ (.slice po pl pc)) = wT at *
    exact bodyPost_ret (v := .tuple #[.agg #[.int .u64 (k : Int), .slice wo wl wc, .slice po pl pc], .int .i64 0]) (by simp [results, Tryz.results20, go_sem, v0, v1, v2]) rfl ⟨_, 0, rfl, HP.out⟩
  · obtain ⟨cs, hS, hP⟩ := HQ.out x w5 hx hq
    have HP := Lib.hid hP
    have HX := Lib.hid (lit_set (k := 2) (.slice none 0 0) (lit_set (k := 1) (.slice none 0 0) (lit_set (k := 0) (.int .u64 0) hS.r)))
    have r0 := (lit_cell hS.r 0).trans rfl
    have r1 := (lit_cell hS.r 1).trans rfl
    have r2 := (lit_cell hS.r 2).trans rfl
    have f0 := lit_free hS.r 0
    have f1 := lit_free hS.r 1
    have f2 := lit_free hS.r 2
    have hx1 : ((x : Int) != 0) = true := by simp; omega
    have hx2 : ¬ (x : Int) = 0 := by omega
    clear hq hS hP HK HQ HF zs hx
    go_wp2
    clear r0 r1 r2 f0 f1 f2
    have v0 := (lit_cell HX.out 0).trans rfl
    have v1 := (lit_cell HX.out 1).trans rfl
    have v2 := (lit_cell HX.out 2).trans rfl
    generalize (((w5.setCell ⟨A + 3, 0, none⟩ (.int .u64 0)).setCell ⟨A + 3, 1, none⟩ (.slice none 0 0)).setCell ⟨A + 3, 2, none⟩ (.slice none 0 0)) = wT at *
    exact bodyPost_ret (v := .tuple #[.agg #[.int .u64 0, .slice none 0 0, .slice none 0 0], .int .i64 (x : Int)]) (by simp [results, Tryz.results20, go_sem, v0, v1, v2]) rfl ⟨_, x, rfl, HP.out⟩
/-- what is so behind each question of Sign -/
def sK (w0 : World) (A b : Nat) (s : (List UInt8)) (f l n r : Nat) (d : (List UInt8)) : Nat → World → Prop
  | 0, w => Sw14 w0 A (some ⟨b, 0, none⟩) r d #[.int .u64 0, .slice none 0 0, .slice none 0 0] w ∧ PLad b s f l n w
  | 1, w => Sw14 w0 A (some ⟨b, 0, none⟩) r d #[.int .u64 0, .slice none 0 0, .slice none 0 0] w ∧ PLad b s f l n w
  | 2, w => Sw14 w0 A (some ⟨b, 0, none⟩) r d #[.int .u64 ((keyF f l n r).1 : Nat), .slice none 0 0, .slice none 0 0] w ∧ PLad b s f l n w ∧ (keyF f l n r).2 = true
  | 3, w => ∃ wo wc, Sw14 w0 A (some ⟨b, 0, none⟩) r d #[.int .u64 ((keyF f l n r).1 : Nat), .slice wo (sigL s (keyF f l n r).1 d).length wc, .slice none 0 0] w ∧ PLad b s f l n w ∧ (keyF f l n r).2 = true ∧ d.length = 32 ∧ Strs wo (sigL s (keyF f l n r).1 d) w
  | _ + 4, w => ∃ wo wc po pc, Sw14 w0 A (some ⟨b, 0, none⟩) r d #[.int .u64 ((keyF f l n r).1 : Nat), .slice wo (sigL s (keyF f l n r).1 d).length wc, .slice po (proofD (rungsL s n) [(keyF f l n r).1]).length pc] w ∧ (keyF f l n r).2 = true ∧ d.length = 32 ∧ Strs wo (sigL s (keyF f l n r).1 d) w ∧ Strs po (proofD (rungsL s n) [(keyF f l n r).1]) w ∧ (proofD (rungsL s n) [(keyF f l n r).1]).length ≤ pc
theorem sK_sw {w0 : World} {A b : Nat} {s : (List UInt8)} {f l n r : Nat} {d : (List UInt8)} : ∀ (i : Nat) (w : World), sK w0 A b s f l n r d i w → ∃ cs, Sw14 w0 A (some ⟨b, 0, none⟩) r d cs w
  | 0, _, h => ⟨_, h.1⟩
  | 1, _, h => ⟨_, h.1⟩
  | 2, _, h => ⟨_, h.1⟩
  | 3, _, h => by
    obtain ⟨wo, wc, h1, _⟩ := h
    exact ⟨_, h1⟩
  | _ + 4, _, h => by
    obtain ⟨wo, wc, po, pc, h1, _⟩ := h
    exact ⟨_, h1⟩
theorem sign_asks (C : WotsC) {w0 : World} {A b : Nat} {s : (List UInt8)} {f l n r : Nat} {d : (List UInt8)} (hg : Glob w0) (hs : s.length ≤ 1000) (hl : 0 < l) (hr : r < 18446744073709551616) (hn : n ≤ 64) (hd : d.length ≤ 1000) :
    Asks (sFs A) (A + 5) (sK w0 A b s f l n r d) (fun x w => x = (signA s f l n r d).e ∧ ∃ cs, Sw14 w0 A (some ⟨b, 0, none⟩) r d cs w) := by
  refine ⟨sFs_ent A, ?_, ?_⟩
  · intro i w hK k f hf
    obtain ⟨cs, hN⟩ := sK_sw i w hK
    exact ask_cells (fs := sFs A) hN.x k f hf
  · intro i F w hF hK
    match i with
    | 0 =>
      cases hF
      obtain ⟨h1, h2⟩ := hK
      refine (sign1_any h1 h2).mono ?_
      rintro e w' ⟨rfl, rfl⟩
      exact Or.inl ⟨rfl, h1, h2⟩
    | 1 =>
      cases hF
      obtain ⟨h1, h2⟩ := hK
      refine (sign2_any h1 h2 hl hr).mono ?_
      rintro e w' ⟨rfl, h3, h4⟩
      cases hk : (keyF f l n r).2
      · exact Or.inr ⟨16, by decide, rfl, by rw [signA_round hk], _, h3⟩
      · exact Or.inl ⟨rfl, h3, h4, hk⟩
    | 2 =>
      cases hF
      obtain ⟨h1, h2, hk⟩ := hK
      have hkl := keyF_lt (show keyF f l n r = ((keyF f l n r).1, true) by rw [← hk])
      refine (sign3_any C h1 (fun t h => by cases h) h2 (hg.below hg.size (by have := h1.o; rwa [← h1.sz] at this)) hs (by omega) hd).mono ?_
      rintro e w' ⟨wo, wc, rfl, h3, h4, h5⟩
      by_cases h32 : d.length = 32
      · rw [signC_yes h32] at h3 h5 ⊢
        exact Or.inl ⟨rfl, wo, wc, h3, h4, hk, h32, h5⟩
      · rw [show signC s (keyF f l n r).1 d = ([], 2) from if_neg h32] at h3 ⊢
        exact Or.inr ⟨2, by decide, rfl, by rw [signA_arg hk h32], _, h3⟩
    | 3 =>
      cases hF
      obtain ⟨wo, wc, h1, h2, hk, h32, h3⟩ := hK
      have hkl := keyF_lt (show keyF f l n r = ((keyF f l n r).1, true) by rw [← hk])
      refine (sign4_any h1 h2 h3 hkl.1).mono ?_
      rintro e w' ⟨po, pc, rfl, h4, h5, h6, h7, h8⟩
      exact Or.inl ⟨rfl, wo, wc, po, pc, h4, hk, h32, h6, h7, h8⟩
    | j + 4 => simp at hF
theorem off13 (w' : World) (A : Nat) (a b c : Value) : Kept (fun j => j ≠ A + 3) w' (((w'.setCell ⟨A + 3, 0, none⟩ a).setCell ⟨A + 3, 1, none⟩ b).setCell ⟨A + 3, 2, none⟩ c) := (((Kept.refl _ w').setCell (A + 3) 0 _ (fun _ h => h rfl)).setCell (A + 3) 1 _ (fun _ h => h rfl)).setCell (A + 3) 2 _ (fun _ h => h rfl)
theorem bel13 {w0 w' : World} {A : Nat} (h : Below A w0 w') (a b c : Value) : Below A w0 (((w'.setCell ⟨A + 3, 0, none⟩ a).setCell ⟨A + 3, 1, none⟩ b).setCell ⟨A + 3, 2, none⟩ c) := ((h.setCell (p := ⟨A + 3, 0, none⟩) (show A ≤ A + 3 by omega) _).setCell (p := ⟨A + 3, 1, none⟩) (show A ≤ A + 3 by omega) _).setCell (p := ⟨A + 3, 2, none⟩) (show A ≤ A + 3 by omega) _
theorem pSign_any (C : WotsC) (b : Nat) (s : (List UInt8)) (f l n r : Nat) (d : (List UInt8)) (w : World) (hg : Glob w) (h : PLad b s f l n w) (hs : s.length ≤ 1000) (hl : 0 < l) (hr : r < 18446744073709551616) (hn : n ≤ 64) (hd : d.length ≤ 1000) : Calls Tryz.prog 20 #[.pointer (some ⟨b, 0, none⟩), .int .u64 (r : Int), .string ⟨d.toArray⟩] w (SigO (signA s f l n r d) w) := by
  refine (sign_walk (P := fun v x w' => SigO (signA s f l n r d) w (.returned (.tuple #[v, .int .i64 (x : Int)])) w') rfl (sign_asks C hg hs hl hr hn hd) (fun w' h1 => ⟨h1, h.next (by have := h1.o; exact this)⟩) ?_ ?_).mono ?_
  · rintro w' ⟨wo, wc, po, pc, h1, hk, h32, h2, h3, h4⟩
    refine ⟨_, wo, po, _, wc, _, pc, h1, ?_⟩
    rw [signA_yes hk h32]
    exact ⟨wo, po, wc, pc, rfl, strs_off h2 h1.r (sig_cells _ _ _ (fun t h => by cases h) (fun t h => by cases h)) (off13 _ _ _ _ _), strs_off h3 h1.r (sig_cells _ _ _ (fun t h => by cases h) (fun t h => by cases h)) (off13 _ _ _ _ _), h4, bel13 h1.o _ _ _⟩
  · rintro x w' hx0 ⟨hx, cs, h1⟩
    refine ⟨cs, h1, ?_⟩
    have hz : signA s f l n r d = ⟨x, 0, [], []⟩ := by
      revert hx0
      rw [hx]
      unfold signA
      split
      · exact fun _ => rfl
      · split
        · exact fun _ => rfl
        · exact fun h => absurd rfl h
    rw [hz]
    exact ⟨none, none, 0, 0, rfl, .inl rfl, .inl rfl, Nat.le_refl _, bel13 h1.o _ _ _⟩
  · rintro e w' ⟨v, x, rfl, hP⟩
    exact hP
theorem pSign_nil (r : Nat) (d : (List UInt8)) (w : World) : Calls Tryz.prog 20 #[.pointer none, .int .u64 (r : Int), .string ⟨d.toArray⟩] w fun e w' => e = .returned (.tuple #[.agg #[.int .u64 0, .slice none 0 0, .slice none 0 0], .int .i64 1]) ∧ Below w.heap.size w w' := by
  obtain ⟨A, hA⟩ : ∃ A, A = w.heap.size := ⟨_, rfl⟩
  have HAS : Asks (sFs A) (A + 5) (fun i w' => i = 0 ∧ Sw14 w A none r d #[.int .u64 0, .slice none 0 0, .slice none 0 0] w') (fun x w' => x = 1 ∧ Sw14 w A none r d #[.int .u64 0, .slice none 0 0, .slice none 0 0] w') := by
    refine ⟨sFs_ent A, ?_, ?_⟩
    · rintro i w' ⟨_, hN⟩ k f hf
      exact ask_cells (fs := sFs A) hN.x k f hf
    · rintro i F w' hF ⟨rfl, hN⟩
      cases hF
      refine (sign1_nil hN).mono ?_
      rintro e w2 ⟨rfl, rfl⟩
      exact Or.inr ⟨1, by decide, rfl, rfl, hN⟩
  refine (sign_walk (P := fun v x w' => v = .agg #[.int .u64 0, .slice none 0 0, .slice none 0 0] ∧ x = 1 ∧ Below A w w') hA HAS (fun w' h1 => ⟨rfl, h1⟩) (fun w' h => absurd h.1 (by decide)) (fun x w' _ h => ⟨_, h.2, rfl, h.1, bel13 h.2.o _ _ _⟩)).mono ?_
  rintro e w' ⟨v, x, rfl, rfl, rfl, hb⟩
  exact ⟨rfl, by rw [← hA]; exact hb⟩
end Go.Proofs.YtmnklonoelpidaaGreatDoor
