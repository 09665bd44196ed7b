/- Layer 14's law: spoilt: its beginning. -/
import Derived.Test.YtmnklonoelpidaaGreatDoorJ43
import Derived.Test.YtmnklonoelpidaaGreatDoorJ29
import Derived.Test.YtmnklonoelpidaaGreatDoorJ37
import Derived.Deep.RegionLaw
import Derived.Deep.RegionHeld3
namespace Go.Proofs.YtmnklonoelpidaaGreatDoor
open Go.RowKit

set_option maxRecDepth 100000 in
set_option maxHeartbeats 40000000 in
theorem spoilt_any (i wt f l n : Nat) (W P : List (List UInt8)) (wo po : Option Addr) (kw kp : Nat) (root : (List UInt8)) (q y z : Nat) (w : World) (hW : Strs wo W w) (hP : Strs po P w) (h67 : W.length = 67) (h32 : ∀ x ∈ W, x.length = 32) (hPl : P.length ≤ 1000) (hP1 : ∀ x ∈ P, x.length ≤ 1000) (hroot : root.length = 32) (hi : i < 18446744073709551616) (hf : f < 18446744073709551616) (hl : l < 18446744073709551616) (hn : n < 18446744073709551616) (hq : q < 256) (hy : y < 256) (hz : z < 256) :
    Calls Tryz.prog 23 #[.agg #[.int .u64 (i : Int), .slice wo 67 kw, .slice po P.length kp], .agg #[.string ⟨root.toArray⟩, .int .u64 (wt : Int), .int .u64 (f : Int), .int .u64 (l : Int), .int .u64 (n : Int)], .agg #[.int .u8 (q : Int), .int .u8 (y : Int), .int .u8 (z : Int)]] w (SpO wt w) := by
  obtain ⟨A, hA⟩ : ∃ A, A = w.heap.size := ⟨_, rfl⟩
  obtain ⟨wa, hwa⟩ : ∃ wa, wa = w.alloc (.cells #[.int .u64 (i : Int), .slice wo 67 kw, .slice po P.length kp] 48) := ⟨_, rfl⟩
  have za : wa.heap.size = A + 1 := by rw [hwa, World.size_alloc, hA]
  have xa : wa.heap[A]? = some (.cells #[.int .u64 (i : Int), .slice wo 67 kw, .slice po P.length kp] 48 (0, 0)) := by rw [hwa, hA]; exact heap_alloc_new w _
  have ba : Below A w wa := by rw [hwa, hA]; exact by0 w _
  obtain ⟨wb, hwb⟩ : ∃ wb, wb = wa.alloc (.cells #[.string ⟨root.toArray⟩, .int .u64 (wt : Int), .int .u64 (f : Int), .int .u64 (l : Int), .int .u64 (n : Int)] 39) := ⟨_, rfl⟩
  have zb : wb.heap.size = A + 2 := by rw [hwb, World.size_alloc, za]
  have xb : wb.heap[A + 1]? = some (.cells #[.string ⟨root.toArray⟩, .int .u64 (wt : Int), .int .u64 (f : Int), .int .u64 (l : Int), .int .u64 (n : Int)] 39 (0, 0)) := by rw [hwb, ← za]; exact heap_alloc_new wa _
  have bb : Below A w wb := by rw [hwb]; exact ba.alloc (by omega) _
  obtain ⟨wd, hwd⟩ : ∃ wd, wd = wb.alloc (.cells #[.int .u8 (q : Int), .int .u8 (y : Int), .int .u8 (z : Int)] 54) := ⟨_, rfl⟩
  have zd : wd.heap.size = A + 3 := by rw [hwd, World.size_alloc, zb]
  have xd : wd.heap[A + 2]? = some (.cells #[.int .u8 (q : Int), .int .u8 (y : Int), .int .u8 (z : Int)] 54 (0, 0)) := by rw [hwd, ← zb]; exact heap_alloc_new wb _
  have bd : Below A w wd := by rw [hwd]; exact bb.alloc (by omega) _
  obtain ⟨wr, hwr⟩ : ∃ wr, wr = wd.alloc (.cells #[.int .u64 0, .slice none 0 0, .slice none 0 0] 48) := ⟨_, rfl⟩
  have zr : wr.heap.size = A + 4 := by rw [hwr, World.size_alloc, zd]
  have xr : wr.heap[A + 3]? = some (.cells #[.int .u64 0, .slice none 0 0, .slice none 0 0] 48 (0, 0)) := by rw [hwr, ← zd]; exact heap_alloc_new wd _
  have br : Below A w wr := by rw [hwr]; exact bd.alloc (by omega) _
  obtain ⟨wq, hwq⟩ : ∃ wq, wq = wr.alloc (.cells #[.string ⟨#[]⟩, .int .u64 0, .int .u64 0, .int .u64 0, .int .u64 0] 39) := ⟨_, rfl⟩
  have zq : wq.heap.size = A + 5 := by rw [hwq, World.size_alloc, zr]
  have xq : wq.heap[A + 4]? = some (.cells #[.string ⟨#[]⟩, .int .u64 0, .int .u64 0, .int .u64 0, .int .u64 0] 39 (0, 0)) := by rw [hwq, ← zr]; exact heap_alloc_new wr _
  have bq : Below A w wq := by rw [hwq]; exact br.alloc (by omega) _
  have HS := Lib.hid (show Sp14 w A #[.int .u64 (i : Int), .slice wo 67 kw, .slice po P.length kp] #[.string ⟨root.toArray⟩, .int .u64 (wt : Int), .int .u64 (f : Int), .int .u64 (l : Int), .int .u64 (n : Int)] #[.int .u8 (q : Int), .int .u8 (y : Int), .int .u8 (z : Int)] wq from
    ⟨hA.symm, bq, by omega, by rw [hwq]; refine lit_old _ ?_; rw [hwr]; refine lit_old _ ?_; rw [hwd]; refine lit_old _ ?_; rw [hwb]; exact lit_old _ xa, by rw [hwq]; refine lit_old _ ?_; rw [hwr]; refine lit_old _ ?_; rw [hwd]; exact lit_old _ xb, by rw [hwq]; refine lit_old _ ?_; rw [hwr]; exact lit_old _ xd, by rw [hwq]; exact lit_old _ xr, xq⟩)
  have HWQ := Lib.hid (show wq = ((((w.alloc (.cells #[.int .u64 (i : Int), .slice wo 67 kw, .slice po P.length kp] 48)).alloc (.cells #[.string ⟨root.toArray⟩, .int .u64 (wt : Int), .int .u64 (f : Int), .int .u64 (l : Int), .int .u64 (n : Int)] 39)).alloc (.cells #[.int .u8 (q : Int), .int .u8 (y : Int), .int .u8 (z : Int)] 54)).alloc (.cells #[.int .u64 0, .slice none 0 0, .slice none 0 0] 48)).alloc (.cells #[.string ⟨#[]⟩, .int .u64 0, .int .u64 0, .int .u64 0, .int .u64 0] 39) by rw [hwq, hwr, hwd, hwb, hwa])
  have HAA := Lib.hid hA
  clear hwa za xa ba hwb zb xb bb hwd zd xd bd hwr zr xr br hwq zq xq bq hA
  have HW := Lib.hid hW
  have HP := Lib.hid hP
  have HL := Lib.hid h67
  have HPL := Lib.hid hPl
  have HR := Lib.hid (Rg14.start (L := W) (M := P) HS.out)
  have HB := Lib.hid (And.intro h32 (And.intro hP1 (And.intro hi (And.intro hf (And.intro hl hn)))))
  have HRL := Lib.hid hroot
  have HQ := Lib.hid (And.intro hq (And.intro hy hz))
  clear hW hP h67 h32 hPl hP1 hroot hi hf hl hn hq hy hz
  go_enter Tryz.func23, Tryz.ntmps23
  go_upto_region 1 with fail
  rw [← HWQ.out, ← HAA.out, show A + 1 + 1 + 1 + 1 = A + 4 from rfl, show A + 1 + 1 + 1 = A + 3 from rfl, show A + 1 + 1 = A + 2 from rfl]
  have HC := Lib.hid (show ∀ wz, Sp14 w A #[.int .u64 (i : Int), .slice wo 67 kw, .slice po P.length kp] #[.string ⟨root.toArray⟩, .int .u64 (wt : Int), .int .u64 (f : Int), .int .u64 (l : Int), .int .u64 (n : Int)] #[.int .u8 (q : Int), .int .u8 (y : Int), .int .u8 (z : Int)] wz → (wz.cell? ⟨A, 1, none⟩ = some (.slice wo 67 kw) ∧ wz.cell? ⟨A, 2, none⟩ = some (.slice po P.length kp)) from fun wz h => ⟨(lit_cell h.a 1).trans rfl, (lit_cell h.a 2).trans rfl⟩)
  obtain ⟨c1, c2⟩ := HC.out wq HS.out
  obtain ⟨c3, c4⟩ := HC.out _ (HS.out.next (by0 wq (.cells #[] 9)))
  obtain ⟨c5, c6⟩ := HC.out _ ((HS.out.next (by0 wq (.cells #[] 9))).next (by0 _ (.cells #[] 9)))
  go_cut [8, 9] from 18 (fun s8 s9 wx => ∃ v8 v9, s8 = v8 ∧ s9 = v9 ∧ Hid (Rg14 w A #[.int .u64 (i : Int), .slice wo 67 kw, .slice po P.length kp] #[.string ⟨root.toArray⟩, .int .u64 (wt : Int), .int .u64 (f : Int), .int .u64 (l : Int), .int .u64 (n : Int)] #[.int .u8 (q : Int), .int .u8 (y : Int), .int .u8 (z : Int)] (.row v8) (.row v9) W P wx))
  case first =>
    go_region_law (first
      | (refine step_app14 rfl (.tmp 10) (.tmp 12) rfl rfl rfl HL.out HW.out (by rw [HL.out]; decide) (by first | exact HR.out.al.drew | exact (HR.out.al.swap.al2 (World.size_alloc _ _)).swap.drew | exact (HR.out.swap.al.swap.al2 (World.size_alloc _ _)).drew | exact HR.out | exact HR.out.al) ?_; intro v8 w8 hR8; have HR := Lib.hid hR8; obtain ⟨e1, e2⟩ := HC.out w8 hR8.p; obtain ⟨e3, e4⟩ := HC.out _ (hR8.p.next (by0 w8 (.cells #[] 9))); clear hR8)
      | (refine step_app14 rfl (.tmp 14) (.tmp 16) rfl rfl rfl rfl HP.out (by have := HPL.out; omega) (by first | exact HR.out.swap.al.drew | exact (HR.out.swap.al.swap.al2 (World.size_alloc _ _)).swap.drew | exact (HR.out.al.swap.al2 (World.size_alloc _ _)).drew | exact HR.out.swap | exact HR.out.swap.al) ?_; intro v9 w9 hR9; have HR := Lib.hid hR9.swap; obtain ⟨e1, e2⟩ := HC.out w9 hR9.p; obtain ⟨e3, e4⟩ := HC.out _ (hR9.p.next (by0 w9 (.cells #[] 9))); clear hR9))
    all_goals
      clear HC
      go_wp2
      go_meet
      exact ⟨v8, v9, rfl, rfl, HR⟩
  case rest =>
    obtain ⟨v8, v9, rfl, rfl, HR⟩ := hcut
    clear c1 c2 c3 c4 c5 c6 HC HS
    obtain ⟨g8, c8, rfl, hg8⟩ : ∃ g8 c8, u8 = .slice (some ⟨g8, 0, none⟩) 67 c8 ∧ 67 ≤ c8 := by
      have h1 : TRow (A + 5) W u8 wc := HR.out.u
      rcases h1.2 with ⟨_, h0⟩ | ⟨g, cap, cur, h2, _, _, h3, _⟩
      · rw [HL.out] at h0; cases h0
      · rw [HL.out] at h2 h3; exact ⟨g, cap, h2, h3⟩
    obtain ⟨ao, c9, rfl, hS9, hc9⟩ := trow_stB HR.out.v
    have HS9 := Lib.hid hS9
    clear hS9
    have x0 := (lit_cell HR.out.p.x 0).trans rfl
    have x1 := (lit_cell HR.out.p.x 1).trans rfl
    have x2 := (lit_cell HR.out.p.x 2).trans rfl
    obtain ⟨m, hm⟩ : ∃ m, m = q % 12 := ⟨_, rfl⟩
    have hq := HQ.out.1
    have m1 : (q : Int).tmod 12 = (m : Int) := by rw [Int.tmod_eq_emod_of_nonneg (by omega)]; omega
    have m2 : (q : Int) % 12 = (m : Int) := by omega
    have m3 : IntKind.u8.wrap (m : Int) = (m : Int) := IntWalk.u8_in _ (by omega)
    have hm12 : m < 12 := by omega
    have HM := Lib.hid hm12
    clear hm hq hm12
    go_upto_block 0 with fail
    go_cut [8, 9] from 170 (fun s8 s9 wx => ∃ D : SpD, s8 = .slice D.wo D.W.length D.wc ∧ s9 = .slice D.po D.P.length D.pc ∧ Hid (Sp14 w A #[.int .u64 (D.i : Int), .slice wo 67 kw, .slice po P.length kp] #[.string ⟨D.root.toArray⟩, .int .u64 (wt : Int), .int .u64 (D.f : Int), .int .u64 (D.l : Int), .int .u64 (D.n : Int)] #[.int .u8 (q : Int), .int .u8 (y : Int), .int .u8 (z : Int)] wx ∧ SpOk (A + 5) D wx))
    case first =>
      obtain ⟨hw32, hp1, hi, hf, hl, hn⟩ := HB.out
      have hy := HQ.out.2.1
      have hz := HQ.out.2.2
      have HSW := Lib.hid (show StB (A + 5) (some ⟨g8, 0, none⟩) W wc by
        obtain ⟨ao2, cp2, e, h1, _⟩ := trow_stB HR.out.u
        rw [HL.out] at e
        cases e
        exact h1)
      have hwl : W.length ≤ 1000 := by rw [HL.out]; decide
      have hwb : ∀ x ∈ W, x.length ≤ 1000 := fun x hx => by rw [hw32 x hx]; decide
      have hpl : P.length ≤ 2000 := by have := HPL.out; omega
      have hrl : root.length ≤ 1000 := by rw [HRL.out]; decide
      have HOK := Lib.hid (show SpOk (A + 5) ⟨i, f, l, n, W, P, some ⟨g8, 0, none⟩, ao, c8, c9, root⟩ wc from ⟨HSW.out, HS9.out, hwl, hwb, hc9, hpl, hp1, hrl, hi, hf, hl, hn⟩)
      have a0 := (lit_cell HR.out.p.a 0).trans rfl
      have fa0 := lit_free HR.out.p.a 0
      have b0 := (lit_cell HR.out.p.b 0).trans rfl
      have b2 := (lit_cell HR.out.p.b 2).trans rfl
      have b3 := (lit_cell HR.out.p.b 3).trans rfl
      have b4 := (lit_cell HR.out.p.b 4).trans rfl
      have fb0 := lit_free HR.out.p.b 0
      have fb2 := lit_free HR.out.p.b 2
      have fb3 := lit_free HR.out.p.b 3
      have fb4 := lit_free HR.out.p.b 4
      have zw : IntKind.u64.wrap (z : Int) = (z : Int) := by rw [IntKind.wrap_u64]; omega
      have yw : IntKind.u64.wrap (y : Int) = (y : Int) := by rw [IntKind.wrap_u64]; omega
      have yi : IntKind.i64.wrap (y : Int) = (y : Int) := IntWalk.i64_in _ (by omega)
      have HZ := Lib.hid (And.intro hi (And.intro hf (And.intro hl (And.intro hn (And.intro hy hz)))))
      have HP1 := Lib.hid hp1
      have HPl2 := Lib.hid hpl
      have HW1 := Lib.hid hwb
      have HWL2 := Lib.hid hwl
      have HRL2 := Lib.hid hrl
      have HC9 := Lib.hid hc9
      have HG8 := Lib.hid hg8
      have HW32 := Lib.hid hw32
      clear hi hf hl hn hy hz hp1 hpl hwb hwl hrl hc9 hg8 hw32
      go_upto_if 21 with (fail)
      clear m1 m2 m3 x0
      rcases (show m = 0 ∨ m = 1 ∨ m = 2 ∨ m = 3 ∨ m = 4 ∨ m = 5 ∨ m = 6 ∨ m = 7 ∨ m = 8 ∨ m = 9 ∨ m = 10 ∨ m = 11 by have := HM.out; omega) with rfl | rfl | rfl | rfl | rfl | rfl | rfl | rfl | rfl | rfl | rfl | rfl
      · as_aux_lemma =>
        go_wp2_with (fail)
        go_meet
        exact ⟨⟨i, f, l, n, W, P, some ⟨g8, 0, none⟩, ao, c8, c9, root⟩, by rw [HL.out], rfl, Lib.hid ⟨HR.out.p, HOK.out⟩⟩
      · as_aux_lemma =>
        obtain ⟨i2, hi2⟩ : ∃ i2, i2 = (i + z) % 18446744073709551616 := ⟨_, rfl⟩
        have hw2 : IntKind.u64.wrap ((i : Int) + (z : Int)) = (i2 : Int) := by rw [IntKind.wrap_u64]; omega
        have HI2 := Lib.hid (show i2 < 18446744073709551616 by omega)
        clear hi2
        go_wp2_with (fail)
        go_meet
        have hok := HOK.out.kept ((Kept.refl (fun j => A + 5 ≤ j) wc).setCell A 0 (.int .u64 (i2 : Int)) (fun _ h => by omega))
        exact ⟨⟨i2, f, l, n, W, P, some ⟨g8, 0, none⟩, ao, c8, c9, root⟩, by rw [HL.out], rfl, Lib.hid ⟨HR.out.p.putA (k := 0) (v := .int .u64 (i2 : Int)), ⟨hok.hW, hok.hP, hok.wl, hok.wb, hok.pc, hok.pl, hok.pb, hok.rl, HI2.out, hok.hf, hok.hl, hok.hn⟩⟩⟩
      · as_aux_lemma =>
        obtain ⟨a, ha⟩ : ∃ a, a = y % 67 := ⟨_, rfl⟩
        have HA := Lib.hid (show a < 67 by omega)
        have y1 : (y : Int).tmod 67 = (a : Int) := by rw [Int.tmod_eq_emod_of_nonneg (by omega)]; omega
        have y2 : (y : Int) % 67 = (a : Int) := by omega
        have k0 : (0 : Int) ≤ (a : Int) := by omega
        have k1 : (a : Int) < 67 := by omega
        clear ha
        have hTR : TRow (A + 5) W (.slice (some ⟨g8, 0, none⟩) 67 c8) wc := HR.out.u
        have hat := trow_at hTR
        obtain ⟨la, hla⟩ : ∃ la, la = W[a]'(by rw [HL.out]; exact HA.out) := ⟨_, rfl⟩
        have cl : wc.drew.cell? ⟨g8, a, none⟩ = some (.string ⟨la.toArray⟩) := by rw [hla]; exact hat.2.1 a (by rw [HL.out]; exact HA.out)
        have HT := Lib.hid (fun wz => turned14_any la z z wz (by rw [hla, HW32.out _ (List.getElem_mem _)]; decide) HZ.out.2.2.2.2.2 HZ.out.2.2.2.2.2)
        have HL2 := Lib.hid (show la.length = 32 by rw [hla, HW32.out _ (List.getElem_mem _)])
        have HG := Lib.hid hat.1
        have HRD := Lib.hid HR.out.drew
        have e1 : wc.drew.cell? ⟨A + 2, 1, none⟩ = some (.int .u8 (y : Int)) := x1
        have e2 : wc.drew.cell? ⟨A + 2, 2, none⟩ = some (.int .u8 (z : Int)) := x2
        clear hTR hat hla x1 x2
        have HX := Lib.hid (show ∀ w2 : World, Below wc.drew.heap.size wc.drew w2 → (Rg14 w A #[.int .u64 (i : Int), .slice wo 67 kw, .slice po P.length kp] #[.string ⟨root.toArray⟩, .int .u64 (wt : Int), .int .u64 (f : Int), .int .u64 (l : Int), .int .u64 (n : Int)] #[.int .u8 (q : Int), .int .u8 (y : Int), .int .u8 (z : Int)] (.row (.slice (some ⟨g8, 0, none⟩) 67 c8)) (.row (.slice ao P.length c9)) W P w2 ∧ w2.cell? ⟨g8, a, none⟩ = some (.string ⟨la.toArray⟩) ∧ w2.frozen? ⟨g8, a, none⟩ = false) from fun w2 hb =>
          ⟨HRD.out.next hb, key_keep hb cl, (trow_at (show TRow (A + 5) W (.slice (some ⟨g8, 0, none⟩) 67 c8) w2 from (HRD.out.next hb).u)).2.2.1 a⟩)
        have HK := Lib.hid (show ∀ wz, Rg14 w A #[.int .u64 (i : Int), .slice wo 67 kw, .slice po P.length kp] #[.string ⟨root.toArray⟩, .int .u64 (wt : Int), .int .u64 (f : Int), .int .u64 (l : Int), .int .u64 (n : Int)] #[.int .u8 (q : Int), .int .u8 (y : Int), .int .u8 (z : Int)] (.row (.slice (some ⟨g8, 0, none⟩) 67 c8)) (.row (.slice ao P.length c9)) W P wz → ∀ t : (List UInt8), (wz.cell? ⟨A + 2, 1, none⟩ = some (.int .u8 (y : Int)) ∧ wz.cell? ⟨A + 2, 2, none⟩ = some (.int .u8 (z : Int))) ∧ ((wz.setCell ⟨g8, a, none⟩ (.string ⟨t.toArray⟩)).cell? ⟨A + 2, 1, none⟩ = some (.int .u8 (y : Int)) ∧ (wz.setCell ⟨g8, a, none⟩ (.string ⟨t.toArray⟩)).cell? ⟨A + 2, 2, none⟩ = some (.int .u8 (z : Int))) from fun wz h t =>
          ⟨⟨(lit_cell h.p.x 1).trans rfl, (lit_cell h.p.x 2).trans rfl⟩, ⟨(lit_cell (h.p.cell (k := a) (v := .string ⟨t.toArray⟩) HG.out).x 1).trans rfl, (lit_cell (h.p.cell (k := a) (v := .string ⟨t.toArray⟩) HG.out).x 2).trans rfl⟩⟩)
        go_upto_region 6 with (fail)
        have hS1 := And.intro e1 e2
        clear e1 e2
        refine wp_region_held_drew (S := fun wz => wz.cell? ⟨A + 2, 1, none⟩ = some (.int .u8 (y : Int)) ∧ wz.cell? ⟨A + 2, 2, none⟩ = some (.int .u8 (z : Int))) (by kernel_rfl) hS1 (fun _ => ?_)
        refine wpAnyH_take (i := 0) (oi := ⟨some 32, .move (.tmp 8), _, _, _, none⟩) (v := .slice (some ⟨g8, 0, none⟩) 67 c8) rfl (by kernel_rfl) (by kernel_rfl) (by kernel_rfl) (fun _ _ _ h => h) (Or.inl ⟨by rfl, by (intro w hSw; (try dsimp only at hSw); go_simp)⟩) hS1 ?_
        simp only [Act.put, List.setIfInBounds_toArray, List.set_cons_succ, List.set_cons_zero]
        refine wpAnyH_take (i := 1) (oi := ⟨some 33, .fieldAddr 54 (.tmp 5) 1, _, _, _, none⟩) (v := .pointer (some ⟨A + 2, 1, none⟩)) rfl (by kernel_rfl) (by kernel_rfl) (by kernel_rfl) (fun _ _ _ h => h) (Or.inl ⟨by rfl, by (intro w hSw; (try dsimp only at hSw); go_simp)⟩) hS1 ?_
        simp only [Act.put, List.setIfInBounds_toArray, List.set_cons_succ, List.set_cons_zero]
        refine wpAnyH_take (i := 2) (oi := ⟨some 34, .load 5 (.tmp 33), _, _, _, none⟩) (v := .int .u8 (y : Int)) rfl (by kernel_rfl) (by kernel_rfl) (by kernel_rfl) (fun _ _ _ h => h) (Or.inl ⟨by rfl, by (intro w hSw; (try dsimp only at hSw); go_simp)⟩) hS1 ?_
        simp only [Act.put, List.setIfInBounds_toArray, List.set_cons_succ, List.set_cons_zero]
        refine wpAnyH_take (i := 3) (oi := ⟨some 35, .convert 5 3 (.tmp 34), _, _, _, none⟩) (v := .int .i64 (y : Int)) rfl (by kernel_rfl) (by kernel_rfl) (by kernel_rfl) (fun _ _ _ h => h) (Or.inl ⟨by rfl, by (intro w hSw; (try dsimp only at hSw); go_simp)⟩) hS1 ?_
        simp only [Act.put, List.setIfInBounds_toArray, List.set_cons_succ, List.set_cons_zero]
        refine wpAnyH_take (i := 4) (oi := ⟨some 36, .move (.tmp 8), _, _, _, none⟩) (v := .slice (some ⟨g8, 0, none⟩) 67 c8) rfl (by kernel_rfl) (by kernel_rfl) (by kernel_rfl) (fun _ _ _ h => h) (Or.inl ⟨by rfl, by (intro w hSw; (try dsimp only at hSw); go_simp)⟩) hS1 ?_
        simp only [Act.put, List.setIfInBounds_toArray, List.set_cons_succ, List.set_cons_zero]
        refine wpAnyH_take (i := 5) (oi := ⟨some 37, .call { callee := .builtin .len, args := #[.tmp 36], argTypes := #[41] }, _, _, _, none⟩) (v := .int .i64 67) rfl (by kernel_rfl) (by kernel_rfl) (by kernel_rfl) (fun _ _ _ h => h) (Or.inl ⟨by rfl, by (intro w hSw; (try dsimp only at hSw); go_simp)⟩) hS1 ?_
        simp only [Act.put, List.setIfInBounds_toArray, List.set_cons_succ, List.set_cons_zero]
        refine wpAnyH_take (i := 6) (oi := ⟨some 38, .binOp .rem 3 (.tmp 35) (.tmp 37) 3, _, _, _, none⟩) (v := .int .i64 (a : Int)) rfl (by kernel_rfl) (by kernel_rfl) (by kernel_rfl) (fun _ _ _ h => h) (Or.inl ⟨by rfl, by (intro w hSw; (try dsimp only at hSw); go_simp)⟩) hS1 ?_
        simp only [Act.put, List.setIfInBounds_toArray, List.set_cons_succ, List.set_cons_zero]
        refine wpAnyH_take (i := 7) (oi := ⟨some 39, .move (.tmp 8), _, _, _, none⟩) (v := .slice (some ⟨g8, 0, none⟩) 67 c8) rfl (by kernel_rfl) (by kernel_rfl) (by kernel_rfl) (fun _ _ _ h => h) (Or.inl ⟨by rfl, by (intro w hSw; (try dsimp only at hSw); go_simp)⟩) hS1 ?_
        simp only [Act.put, List.setIfInBounds_toArray, List.set_cons_succ, List.set_cons_zero]
        refine wpAnyH_take (i := 8) (oi := ⟨some 40, .fieldAddr 54 (.tmp 5) 1, _, _, _, none⟩) (v := .pointer (some ⟨A + 2, 1, none⟩)) rfl (by kernel_rfl) (by kernel_rfl) (by kernel_rfl) (fun _ _ _ h => h) (Or.inl ⟨by rfl, by (intro w hSw; (try dsimp only at hSw); go_simp)⟩) hS1 ?_
        simp only [Act.put, List.setIfInBounds_toArray, List.set_cons_succ, List.set_cons_zero]
        refine wpAnyH_take (i := 9) (oi := ⟨some 41, .load 5 (.tmp 40), _, _, _, none⟩) (v := .int .u8 (y : Int)) rfl (by kernel_rfl) (by kernel_rfl) (by kernel_rfl) (fun _ _ _ h => h) (Or.inl ⟨by rfl, by (intro w hSw; (try dsimp only at hSw); go_simp)⟩) hS1 ?_
        simp only [Act.put, List.setIfInBounds_toArray, List.set_cons_succ, List.set_cons_zero]
        refine wpAnyH_take (i := 10) (oi := ⟨some 42, .convert 5 3 (.tmp 41), _, _, _, none⟩) (v := .int .i64 (y : Int)) rfl (by kernel_rfl) (by kernel_rfl) (by kernel_rfl) (fun _ _ _ h => h) (Or.inl ⟨by rfl, by (intro w hSw; (try dsimp only at hSw); go_simp)⟩) hS1 ?_
        simp only [Act.put, List.setIfInBounds_toArray, List.set_cons_succ, List.set_cons_zero]
        refine wpAnyH_take (i := 11) (oi := ⟨some 43, .move (.tmp 8), _, _, _, none⟩) (v := .slice (some ⟨g8, 0, none⟩) 67 c8) rfl (by kernel_rfl) (by kernel_rfl) (by kernel_rfl) (fun _ _ _ h => h) (Or.inl ⟨by rfl, by (intro w hSw; (try dsimp only at hSw); go_simp)⟩) hS1 ?_
        simp only [Act.put, List.setIfInBounds_toArray, List.set_cons_succ, List.set_cons_zero]
        refine wpAnyH_take (i := 12) (oi := ⟨some 44, .call { callee := .builtin .len, args := #[.tmp 43], argTypes := #[41] }, _, _, _, none⟩) (v := .int .i64 67) rfl (by kernel_rfl) (by kernel_rfl) (by kernel_rfl) (fun _ _ _ h => h) (Or.inl ⟨by rfl, by (intro w hSw; (try dsimp only at hSw); go_simp)⟩) hS1 ?_
        simp only [Act.put, List.setIfInBounds_toArray, List.set_cons_succ, List.set_cons_zero]
        refine wpAnyH_take (i := 13) (oi := ⟨some 45, .binOp .rem 3 (.tmp 42) (.tmp 44) 3, _, _, _, none⟩) (v := .int .i64 (a : Int)) rfl (by kernel_rfl) (by kernel_rfl) (by kernel_rfl) (fun _ _ _ h => h) (Or.inl ⟨by rfl, by (intro w hSw; (try dsimp only at hSw); go_simp)⟩) hS1 ?_
        simp only [Act.put, List.setIfInBounds_toArray, List.set_cons_succ, List.set_cons_zero]
        refine wpAnyH_take (i := 14) (oi := ⟨some 46, .indexAddr 41 (.tmp 39) (.tmp 45), _, _, _, none⟩) (v := .pointer (some ⟨g8, a, none⟩)) rfl (by kernel_rfl) (by kernel_rfl) (by kernel_rfl) (fun _ _ _ h => h) (Or.inl ⟨by rfl, by (intro w hSw; (try dsimp only at hSw); go_simp)⟩) hS1 ?_
        simp only [Act.put, List.setIfInBounds_toArray, List.set_cons_succ, List.set_cons_zero]
        refine wpAnyH_take (i := 16) (oi := ⟨some 48, .fieldAddr 54 (.tmp 5) 2, _, _, _, none⟩) (v := .pointer (some ⟨A + 2, 2, none⟩)) rfl (by kernel_rfl) (by kernel_rfl) (by kernel_rfl) (fun _ _ _ h => h) (Or.inl ⟨by rfl, by (intro w hSw; (try dsimp only at hSw); go_simp)⟩) hS1 ?_
        simp only [Act.put, List.setIfInBounds_toArray, List.set_cons_succ, List.set_cons_zero]
        refine wpAnyH_take (i := 17) (oi := ⟨some 49, .load 5 (.tmp 48), _, _, _, none⟩) (v := .int .u8 (z : Int)) rfl (by kernel_rfl) (by kernel_rfl) (by kernel_rfl) (fun _ _ _ h => h) (Or.inl ⟨by rfl, by (intro w hSw; (try dsimp only at hSw); go_simp)⟩) hS1 ?_
        simp only [Act.put, List.setIfInBounds_toArray, List.set_cons_succ, List.set_cons_zero]
        refine wpAnyH_take (i := 18) (oi := ⟨some 50, .fieldAddr 54 (.tmp 5) 2, _, _, _, none⟩) (v := .pointer (some ⟨A + 2, 2, none⟩)) rfl (by kernel_rfl) (by kernel_rfl) (by kernel_rfl) (fun _ _ _ h => h) (Or.inl ⟨by rfl, by (intro w hSw; (try dsimp only at hSw); go_simp)⟩) hS1 ?_
        simp only [Act.put, List.setIfInBounds_toArray, List.set_cons_succ, List.set_cons_zero]
        refine wpAnyH_take (i := 19) (oi := ⟨some 51, .load 5 (.tmp 50), _, _, _, none⟩) (v := .int .u8 (z : Int)) rfl (by kernel_rfl) (by kernel_rfl) (by kernel_rfl) (fun _ _ _ h => h) (Or.inl ⟨by rfl, by (intro w hSw; (try dsimp only at hSw); go_simp)⟩) hS1 ?_
        simp only [Act.put, List.setIfInBounds_toArray, List.set_cons_succ, List.set_cons_zero]
        refine wpAnyH_ready (rs := [15]) (by kernel_rfl) (by simp) (AllReadyH.cons (o := ⟨some 47, .load 9 (.tmp 46), _, _, _, none⟩) rfl (fun K hK => ?_) AllReadyH.nil)
        go_simp
        refine hK.out _ _ hS1 (fun _ => ?_)
        clear hK K
        try simp only [Act.put, List.setIfInBounds_toArray, List.set_cons_succ, List.set_cons_zero]
        refine wpAnyH_ready (rs := [20]) (by kernel_rfl) (by simp) (AllReadyH.cons (o := ⟨some 52, .call { callee := .value (.func 57), args := #[.tmp 47, .tmp 49, .tmp 51], argTypes := #[9, 5, 5] }, _, _, _, none⟩) rfl (fun K hK => ?_) AllReadyH.nil)
        go_simp
        refine (HT.out _).mono ?_
        rintro e w2 ⟨t, rfl, htl, hb⟩
        obtain ⟨hr2, d0, fd0⟩ := HX.out w2 hb
        obtain ⟨hSa, hT⟩ := HK.out w2 hr2 t
        have HR2 := Lib.hid hr2
        have HTL := Lib.hid htl
        clear hr2 htl hb
        refine hK.out _ _ hSa (fun _ => ?_)
        clear hK K
        try simp only [Act.put, List.setIfInBounds_toArray, List.set_cons_succ, List.set_cons_zero]
        refine wpAnyH_take (i := 21) (oi := ⟨some 53, .indexAddr 41 (.tmp 32) (.tmp 38), _, _, _, none⟩) (v := .pointer (some ⟨g8, a, none⟩)) rfl (by kernel_rfl) (by kernel_rfl) (by kernel_rfl) (fun _ _ _ h => h) (Or.inl ⟨by rfl, by (intro w hSw; (try dsimp only at hSw); go_simp)⟩) hSa ?_
        simp only [Act.put, List.setIfInBounds_toArray, List.set_cons_succ, List.set_cons_zero]
        refine wpAnyH_ready (rs := [22]) (by kernel_rfl) (by simp) (AllReadyH.cons (o := ⟨none, .store 9 (.tmp 53) (.tmp 52), _, _, _, none⟩) rfl (fun K hK => ?_) AllReadyH.nil)
        go_simp
        refine hK.out _ _ hT (fun _ => ?_)
        clear hK K
        try simp only [Act.put, List.setIfInBounds_toArray, List.set_cons_succ, List.set_cons_zero]
        refine wpAnyH_done (by kernel_rfl) ?_ _
        clear hS1 hSa hT d0 fd0 cl
        go_wp2_with (fail)
        go_meet
        have hr3 := row_set_n (i := a) (t := t) HL.out (show TRow (A + 5) W (.slice (some ⟨g8, 0, none⟩) 67 c8) w2 from HR2.out.u)
        obtain ⟨ao2, cp2, e, h1, _⟩ := trow_stB hr3
        rw [List.length_set, HL.out] at e
        cases e
        have hv9 : StB (A + 5) ao P (w2.setCell ⟨g8, a, none⟩ (.string ⟨t.toArray⟩)) := by
          obtain ⟨ao3, cp3, e3, h3, _⟩ := trow_stB (World.ownsRow.kept (show TRow (A + 5) P (.slice ao P.length c9) w2 from HR2.out.v) (Kept.to_grown ((Kept.refl (fun j => j ≠ g8) w2).setCell g8 a (.string ⟨t.toArray⟩) (fun _ h => h rfl))) (.inr (HR2.out.d g8 rfl)))
          cases e3
          exact h3
        exact ⟨⟨i, f, l, n, W.set a t, P, some ⟨g8, 0, none⟩, ao, c8, c9, root⟩, by rw [List.length_set, HL.out], rfl, Lib.hid ⟨HR2.out.p.cell HG.out, ⟨h1, hv9, by rw [List.length_set]; exact HWL2.out, fun x hx => by
          rcases List.mem_or_eq_of_mem_set hx with h | h
          · exact HW1.out x h
          · rw [h, HTL.out, HL2.out]; decide, HC9.out, HPl2.out, HP1.out, HRL2.out, HZ.out.1, HZ.out.2.1, HZ.out.2.2.1, HZ.out.2.2.2.1⟩⟩⟩
      · as_aux_lemma =>
        have h66 : (66 : Int) ≤ (c8 : Int) := by have := HG8.out; omega
        go_wp2_with (fail)
        go_meet
        exact ⟨⟨i, f, l, n, W.take 66, P, some ⟨g8, 0, none⟩, ao, c8, c9, root⟩, by simp [HL.out], rfl, Lib.hid ⟨HR.out.p, ⟨HOK.out.hW.take 66, HOK.out.hP, by rw [List.length_take]; exact Nat.le_trans (Nat.min_le_right _ _) HWL2.out, fun x hx => HW1.out x (List.mem_of_mem_take hx), HC9.out, HPl2.out, HP1.out, HRL2.out, HZ.out.1, HZ.out.2.1, HZ.out.2.2.1, HZ.out.2.2.2.1⟩⟩⟩
      · as_aux_lemma =>
        obtain ⟨a, ha⟩ : ∃ a, a = y % 67 := ⟨_, rfl⟩
        have HA := Lib.hid (show a < 67 by omega)
        have y1 : (y : Int).tmod 67 = (a : Int) := by rw [Int.tmod_eq_emod_of_nonneg (by omega)]; omega
        have y2 : (y : Int) % 67 = (a : Int) := by omega
        have k0 : (0 : Int) ≤ (a : Int) := by omega
        have k1 : (a : Int) < 67 := by omega
        clear ha
        have hTR : TRow (A + 5) W (.slice (some ⟨g8, 0, none⟩) 67 c8) wc := HR.out.u
        have hat := trow_at hTR
        obtain ⟨la, hla⟩ : ∃ la, la = W[a]'(by rw [HL.out]; exact HA.out) := ⟨_, rfl⟩
        have cl : wc.drew.cell? ⟨g8, a, none⟩ = some (.string ⟨la.toArray⟩) := by rw [hla]; exact hat.2.1 a (by rw [HL.out]; exact HA.out)
        have HL2 := Lib.hid (show la.length = 32 by rw [hla, HW32.out _ (List.getElem_mem _)])
        have h31 : (31 : Int) ≤ (la.length : Int) := by rw [HL2.out]; decide
        have HG := Lib.hid hat.1
        have fl : wc.drew.frozen? ⟨g8, a, none⟩ = false := hat.2.2.1 a
        have HRD := Lib.hid HR.out.drew
        have HK := Lib.hid (show ∀ wz, Rg14 w A #[.int .u64 (i : Int), .slice wo 67 kw, .slice po P.length kp] #[.string ⟨root.toArray⟩, .int .u64 (wt : Int), .int .u64 (f : Int), .int .u64 (l : Int), .int .u64 (n : Int)] #[.int .u8 (q : Int), .int .u8 (y : Int), .int .u8 (z : Int)] (.row (.slice (some ⟨g8, 0, none⟩) 67 c8)) (.row (.slice ao P.length c9)) W P wz → ∀ t : ByteArray, ((wz.setCell ⟨g8, a, none⟩ (.string t)).cell? ⟨A + 2, 1, none⟩ = some (.int .u8 (y : Int)) ∧ (wz.setCell ⟨g8, a, none⟩ (.string t)).cell? ⟨A + 2, 2, none⟩ = some (.int .u8 (z : Int))) from fun wz h t =>
          ⟨(lit_cell (h.p.cell (k := a) (v := .string t) HG.out).x 1).trans rfl, (lit_cell (h.p.cell (k := a) (v := .string t) HG.out).x 2).trans rfl⟩)
        have hS1 : wc.drew.cell? ⟨A + 2, 1, none⟩ = some (.int .u8 (y : Int)) ∧ wc.drew.cell? ⟨A + 2, 2, none⟩ = some (.int .u8 (z : Int)) := ⟨x1, x2⟩
        have hT := HK.out _ HRD.out
        clear hTR hat hla x1 x2
        go_upto_region 10 with (fail)
        refine wp_region_held_drew (S := fun wz => wz.cell? ⟨A + 2, 1, none⟩ = some (.int .u8 (y : Int)) ∧ wz.cell? ⟨A + 2, 2, none⟩ = some (.int .u8 (z : Int))) (by kernel_rfl) hS1 (fun _ => ?_)
        refine wpAnyH_take (i := 0) (oi := ⟨some 63, .move (.tmp 8), _, _, _, none⟩) (v := .slice (some ⟨g8, 0, none⟩) 67 c8) rfl (by kernel_rfl) (by kernel_rfl) (by kernel_rfl) (fun _ _ _ h => h) (Or.inl ⟨by rfl, by (intro w hSw; (try dsimp only at hSw); go_simp)⟩) hS1 ?_
        simp only [Act.put, List.setIfInBounds_toArray, List.set_cons_succ, List.set_cons_zero]
        refine wpAnyH_take (i := 1) (oi := ⟨some 64, .fieldAddr 54 (.tmp 5) 1, _, _, _, none⟩) (v := .pointer (some ⟨A + 2, 1, none⟩)) rfl (by kernel_rfl) (by kernel_rfl) (by kernel_rfl) (fun _ _ _ h => h) (Or.inl ⟨by rfl, by (intro w hSw; (try dsimp only at hSw); go_simp)⟩) hS1 ?_
        simp only [Act.put, List.setIfInBounds_toArray, List.set_cons_succ, List.set_cons_zero]
        refine wpAnyH_take (i := 2) (oi := ⟨some 65, .load 5 (.tmp 64), _, _, _, none⟩) (v := .int .u8 (y : Int)) rfl (by kernel_rfl) (by kernel_rfl) (by kernel_rfl) (fun _ _ _ h => h) (Or.inl ⟨by rfl, by (intro w hSw; (try dsimp only at hSw); go_simp)⟩) hS1 ?_
        simp only [Act.put, List.setIfInBounds_toArray, List.set_cons_succ, List.set_cons_zero]
        refine wpAnyH_take (i := 3) (oi := ⟨some 66, .convert 5 3 (.tmp 65), _, _, _, none⟩) (v := .int .i64 (y : Int)) rfl (by kernel_rfl) (by kernel_rfl) (by kernel_rfl) (fun _ _ _ h => h) (Or.inl ⟨by rfl, by (intro w hSw; (try dsimp only at hSw); go_simp)⟩) hS1 ?_
        simp only [Act.put, List.setIfInBounds_toArray, List.set_cons_succ, List.set_cons_zero]
        refine wpAnyH_take (i := 4) (oi := ⟨some 67, .move (.tmp 8), _, _, _, none⟩) (v := .slice (some ⟨g8, 0, none⟩) 67 c8) rfl (by kernel_rfl) (by kernel_rfl) (by kernel_rfl) (fun _ _ _ h => h) (Or.inl ⟨by rfl, by (intro w hSw; (try dsimp only at hSw); go_simp)⟩) hS1 ?_
        simp only [Act.put, List.setIfInBounds_toArray, List.set_cons_succ, List.set_cons_zero]
        refine wpAnyH_take (i := 5) (oi := ⟨some 68, .call { callee := .builtin .len, args := #[.tmp 67], argTypes := #[41] }, _, _, _, none⟩) (v := .int .i64 67) rfl (by kernel_rfl) (by kernel_rfl) (by kernel_rfl) (fun _ _ _ h => h) (Or.inl ⟨by rfl, by (intro w hSw; (try dsimp only at hSw); go_simp)⟩) hS1 ?_
        simp only [Act.put, List.setIfInBounds_toArray, List.set_cons_succ, List.set_cons_zero]
        refine wpAnyH_take (i := 6) (oi := ⟨some 69, .binOp .rem 3 (.tmp 66) (.tmp 68) 3, _, _, _, none⟩) (v := .int .i64 (a : Int)) rfl (by kernel_rfl) (by kernel_rfl) (by kernel_rfl) (fun _ _ _ h => h) (Or.inl ⟨by rfl, by (intro w hSw; (try dsimp only at hSw); go_simp)⟩) hS1 ?_
        simp only [Act.put, List.setIfInBounds_toArray, List.set_cons_succ, List.set_cons_zero]
        refine wpAnyH_take (i := 7) (oi := ⟨some 70, .move (.tmp 8), _, _, _, none⟩) (v := .slice (some ⟨g8, 0, none⟩) 67 c8) rfl (by kernel_rfl) (by kernel_rfl) (by kernel_rfl) (fun _ _ _ h => h) (Or.inl ⟨by rfl, by (intro w hSw; (try dsimp only at hSw); go_simp)⟩) hS1 ?_
        simp only [Act.put, List.setIfInBounds_toArray, List.set_cons_succ, List.set_cons_zero]
        refine wpAnyH_take (i := 8) (oi := ⟨some 71, .fieldAddr 54 (.tmp 5) 1, _, _, _, none⟩) (v := .pointer (some ⟨A + 2, 1, none⟩)) rfl (by kernel_rfl) (by kernel_rfl) (by kernel_rfl) (fun _ _ _ h => h) (Or.inl ⟨by rfl, by (intro w hSw; (try dsimp only at hSw); go_simp)⟩) hS1 ?_
        simp only [Act.put, List.setIfInBounds_toArray, List.set_cons_succ, List.set_cons_zero]
        refine wpAnyH_take (i := 9) (oi := ⟨some 72, .load 5 (.tmp 71), _, _, _, none⟩) (v := .int .u8 (y : Int)) rfl (by kernel_rfl) (by kernel_rfl) (by kernel_rfl) (fun _ _ _ h => h) (Or.inl ⟨by rfl, by (intro w hSw; (try dsimp only at hSw); go_simp)⟩) hS1 ?_
        simp only [Act.put, List.setIfInBounds_toArray, List.set_cons_succ, List.set_cons_zero]
        refine wpAnyH_take (i := 10) (oi := ⟨some 73, .convert 5 3 (.tmp 72), _, _, _, none⟩) (v := .int .i64 (y : Int)) rfl (by kernel_rfl) (by kernel_rfl) (by kernel_rfl) (fun _ _ _ h => h) (Or.inl ⟨by rfl, by (intro w hSw; (try dsimp only at hSw); go_simp)⟩) hS1 ?_
        simp only [Act.put, List.setIfInBounds_toArray, List.set_cons_succ, List.set_cons_zero]
        refine wpAnyH_take (i := 11) (oi := ⟨some 74, .move (.tmp 8), _, _, _, none⟩) (v := .slice (some ⟨g8, 0, none⟩) 67 c8) rfl (by kernel_rfl) (by kernel_rfl) (by kernel_rfl) (fun _ _ _ h => h) (Or.inl ⟨by rfl, by (intro w hSw; (try dsimp only at hSw); go_simp)⟩) hS1 ?_
        simp only [Act.put, List.setIfInBounds_toArray, List.set_cons_succ, List.set_cons_zero]
        refine wpAnyH_take (i := 12) (oi := ⟨some 75, .call { callee := .builtin .len, args := #[.tmp 74], argTypes := #[41] }, _, _, _, none⟩) (v := .int .i64 67) rfl (by kernel_rfl) (by kernel_rfl) (by kernel_rfl) (fun _ _ _ h => h) (Or.inl ⟨by rfl, by (intro w hSw; (try dsimp only at hSw); go_simp)⟩) hS1 ?_
        simp only [Act.put, List.setIfInBounds_toArray, List.set_cons_succ, List.set_cons_zero]
        refine wpAnyH_take (i := 13) (oi := ⟨some 76, .binOp .rem 3 (.tmp 73) (.tmp 75) 3, _, _, _, none⟩) (v := .int .i64 (a : Int)) rfl (by kernel_rfl) (by kernel_rfl) (by kernel_rfl) (fun _ _ _ h => h) (Or.inl ⟨by rfl, by (intro w hSw; (try dsimp only at hSw); go_simp)⟩) hS1 ?_
        simp only [Act.put, List.setIfInBounds_toArray, List.set_cons_succ, List.set_cons_zero]
        refine wpAnyH_take (i := 14) (oi := ⟨some 77, .indexAddr 41 (.tmp 70) (.tmp 76), _, _, _, none⟩) (v := .pointer (some ⟨g8, a, none⟩)) rfl (by kernel_rfl) (by kernel_rfl) (by kernel_rfl) (fun _ _ _ h => h) (Or.inl ⟨by rfl, by (intro w hSw; (try dsimp only at hSw); go_simp)⟩) hS1 ?_
        simp only [Act.put, List.setIfInBounds_toArray, List.set_cons_succ, List.set_cons_zero]
        refine wpAnyH_ready (rs := [15]) (by kernel_rfl) (by simp) (AllReadyH.cons (o := ⟨some 78, .load 9 (.tmp 77), _, _, _, none⟩) rfl (fun K hK => ?_) AllReadyH.nil)
        go_simp
        refine hK.out _ _ hS1 (fun _ => ?_)
        clear hK K
        try simp only [Act.put, List.setIfInBounds_toArray, List.set_cons_succ, List.set_cons_zero]
        refine wpAnyH_ready (rs := [16]) (by kernel_rfl) (by simp) (AllReadyH.cons (o := ⟨some 79, .slice 9 (.tmp 78) none (some (.const (.int .i64 31))) none, _, _, _, none⟩) rfl (fun K hK => ?_) AllReadyH.nil)
        go_simp
        refine hK.out _ _ hS1 (fun _ => ?_)
        clear hK K
        try simp only [Act.put, List.setIfInBounds_toArray, List.set_cons_succ, List.set_cons_zero]
        refine wpAnyH_take (i := 17) (oi := ⟨some 80, .indexAddr 41 (.tmp 63) (.tmp 69), _, _, _, none⟩) (v := .pointer (some ⟨g8, a, none⟩)) rfl (by kernel_rfl) (by kernel_rfl) (by kernel_rfl) (fun _ _ _ h => h) (Or.inl ⟨by rfl, by (intro w hSw; (try dsimp only at hSw); go_simp)⟩) hS1 ?_
        simp only [Act.put, List.setIfInBounds_toArray, List.set_cons_succ, List.set_cons_zero]
        refine wpAnyH_ready (rs := [18]) (by kernel_rfl) (by simp) (AllReadyH.cons (o := ⟨none, .store 9 (.tmp 80) (.tmp 79), _, _, _, none⟩) rfl (fun K hK => ?_) AllReadyH.nil)
        go_simp
        refine hK.out _ _ (hT _) (fun _ => ?_)
        clear hK K
        try simp only [Act.put, List.setIfInBounds_toArray, List.set_cons_succ, List.set_cons_zero]
        refine wpAnyH_done (by kernel_rfl) ?_ _
        clear hS1 hT cl fl h31
        go_wp2_with (fail)
        go_meet
        rw [show ({ data := la.toArray } : ByteArray).extract 0 31 = ⟨(la.take 31).toArray⟩ by simpa using extract_list la 0 31]
        have HTL := Lib.hid (show (la.take 31).length ≤ 1000 by rw [List.length_take, HL2.out]; decide)
        generalize la.take 31 = t at *
        have hr3 := row_set_n (i := a) (t := t) HL.out (show TRow (A + 5) W (.slice (some ⟨g8, 0, none⟩) 67 c8) wc.drew from HRD.out.u)
        obtain ⟨ao2, cp2, e, h1, _⟩ := trow_stB hr3
        rw [List.length_set, HL.out] at e
        cases e
        have hv9 : StB (A + 5) ao P (wc.drew.setCell ⟨g8, a, none⟩ (.string ⟨t.toArray⟩)) := by
          obtain ⟨ao3, cp3, e3, h3, _⟩ := trow_stB (World.ownsRow.kept (show TRow (A + 5) P (.slice ao P.length c9) wc.drew from HRD.out.v) (Kept.to_grown ((Kept.refl (fun j => j ≠ g8) wc.drew).setCell g8 a (.string ⟨t.toArray⟩) (fun _ h => h rfl))) (.inr (HRD.out.d g8 rfl)))
          cases e3
          exact h3
        exact ⟨⟨i, f, l, n, W.set a t, P, some ⟨g8, 0, none⟩, ao, c8, c9, root⟩, by rw [List.length_set, HL.out], rfl, Lib.hid ⟨HRD.out.p.cell HG.out, ⟨h1, hv9, by rw [List.length_set]; exact HWL2.out, fun x hx => by
          rcases List.mem_or_eq_of_mem_set hx with h | h
          · exact HW1.out x h
          · rw [h]; exact HTL.out, HC9.out, HPl2.out, HP1.out, HRL2.out, HZ.out.1, HZ.out.2.1, HZ.out.2.2.1, HZ.out.2.2.2.1⟩⟩⟩
      · as_aux_lemma =>
        have hn9 : (P.length : Int) ≤ 2000 := by have := HPl2.out; omega
        obtain ⟨t, ht⟩ : ∃ t, t = txtF z 32 := ⟨_, rfl⟩
        have HTX := Lib.hid (show Calls Tryz.prog 9 #[.int .u8 (z : Int), .int .i64 32] wc fun e w' => e = .returned (.string ⟨t.toArray⟩) ∧ Below wc.heap.size wc w' by rw [ht]; exact text14_any z 32 wc HZ.out.2.2.2.2.2 (by decide))
        have HTL := Lib.hid (show t.length = 32 by rw [ht, txtF_len])
        clear ht
        go_wp2_with (first
          | (go_at_call 9; with_reducible refine HTX.out.mono ?_; rintro e w2 ⟨rfl, hb⟩; have HR2 := Lib.hid (HR.out.next hb); clear hb)
          | (at_builtin; refine append_txt rfl (.tmp 83) (.tmp 87) rfl rfl rfl (show TRow (A + 5) P (.slice ao P.length c9) w2 from HR2.out.v) (by have := HPl2.out; omega) (by have := HR2.out.p.m; omega) ?_; intro g5 c5 w5 ho5 hg5 _; have HO5 := Lib.hid ho5; have HG5 := Lib.hid hg5; clear ho5 hg5))
        go_meet
        have hsp := HR2.out.p.grown2 HG5.out (fun b e => (RS14.lt HR2.out.v e.symm).1)
        have hw5 := trow_beside (show TRow (A + 5) W (.slice (some ⟨g8, 0, none⟩) 67 c8) w2 from HR2.out.u) (fun b hb => HR2.out.swap.d b hb) HG5.out
        obtain ⟨ao2, cp2, e2, h2, _⟩ := trow_stB hw5
        rw [HL.out] at e2
        cases e2
        have ho6 : TRow (A + 5) (P ++ [t]) (.slice (some ⟨g5, 0, none⟩) (P ++ [t]).length c5) w5 := by rw [List.length_append]; exact HO5.out
        obtain ⟨ao3, cp3, e3, h3, h4⟩ := trow_stB ho6
        cases e3
        exact ⟨⟨i, f, l, n, W, P ++ [t], some ⟨g8, 0, none⟩, some ⟨g5, 0, none⟩, c8, c5, root⟩, by rw [HL.out], by rw [List.length_append]; rfl, Lib.hid ⟨hsp, ⟨h2, h3, HWL2.out, HW1.out, h4, by rw [List.length_append]; have := HPL.out; show P.length + 1 ≤ 2000; omega, fun x hx => by
          rcases List.mem_append.1 hx with h | h
          · exact HP1.out x h
          · simp at h
            rw [h, HTL.out]; decide, HRL2.out, HZ.out.1, HZ.out.2.1, HZ.out.2.2.1, HZ.out.2.2.2.1⟩⟩⟩
      · as_aux_lemma =>
        by_cases hp0 : P.length = 0
        · have g0 : ¬ (0 : Int) < (P.length : Int) := by omega
          clear hp0
          go_wp2_with (fail)
          go_meet
          exact ⟨⟨i, f, l, n, W, P, some ⟨g8, 0, none⟩, ao, c8, c9, root⟩, by rw [HL.out], rfl, Lib.hid ⟨HR.out.p, HOK.out⟩⟩
        · obtain ⟨k, hk⟩ : ∃ k, P.length = k + 1 := ⟨P.length - 1, by omega⟩
          have HK := Lib.hid hk
          have g0 : (0 : Int) < (P.length : Int) := by omega
          have hkc : (k : Int) ≤ (c9 : Int) := by have := HC9.out; omega
          have hk2 : (P.length : Int) - 1 = (k : Int) := by omega
          have hk0 : (0 : Int) ≤ (k : Int) := by omega
          have hkb : (k : Int) ≤ 2000 := by have := HPl2.out; omega
          clear hp0 hk
          go_wp2_with (fail)
          go_meet
          exact ⟨⟨i, f, l, n, W, P.take k, some ⟨g8, 0, none⟩, ao, c8, c9, root⟩, by rw [HL.out], by rw [List.length_take, HK.out, Nat.min_eq_left (Nat.le_succ k)], Lib.hid ⟨HR.out.p, ⟨HOK.out.hW, HOK.out.hP.take k, HWL2.out, HW1.out, by rw [List.length_take]; exact Nat.le_trans (Nat.min_le_right _ _) HC9.out, by rw [List.length_take]; exact Nat.le_trans (Nat.min_le_right _ _) HPl2.out, fun x hx => HP1.out x (List.mem_of_mem_take hx), HRL2.out, HZ.out.1, HZ.out.2.1, HZ.out.2.2.1, HZ.out.2.2.2.1⟩⟩⟩
      · as_aux_lemma =>
        by_cases hp0 : P.length = 0
        · have g0 : ¬ (0 : Int) < (P.length : Int) := by omega
          clear hp0
          go_wp2_with (fail)
          go_meet
          exact ⟨⟨i, f, l, n, W, P, some ⟨g8, 0, none⟩, ao, c8, c9, root⟩, by rw [HL.out], rfl, Lib.hid ⟨HR.out.p, HOK.out⟩⟩
        · obtain ⟨g9, rfl⟩ : ∃ g9, ao = some ⟨g9, 0, none⟩ := by
            have h1 : TRow (A + 5) P (.slice ao P.length c9) wc := HR.out.v
            rcases h1.2 with ⟨_, h0⟩ | ⟨g, cap, cur, e0, _⟩
            · exact absurd h0 hp0
            · cases e0
              exact ⟨g, rfl⟩
          have g0 : (0 : Int) < (P.length : Int) := by omega
          have g1 : ¬ (P.length : Int) = 0 := by omega
          have g3 : ¬ P = [] := fun h => hp0 (by rw [h]; rfl)
          have g2 : (P.length : Int) ≤ 2000 := by have := HPl2.out; omega
          obtain ⟨a, ha⟩ : ∃ a, a = y % P.length := ⟨_, rfl⟩
          have HA := Lib.hid (show a < P.length by rw [ha]; exact Nat.mod_lt _ (by omega))
          have y2 : (y : Int) % (P.length : Int) = (a : Int) := by rw [ha]; exact (Int.natCast_emod y P.length).symm
          have y1 : (y : Int).tmod (P.length : Int) = (a : Int) := by rw [Int.tmod_eq_emod_of_nonneg (by omega)]; exact y2
          have k0 : (0 : Int) ≤ (a : Int) := by omega
          have k1 : (a : Int) < (P.length : Int) := by have := HA.out; omega
          clear ha hp0
          have hTR : TRow (A + 5) P (.slice (some ⟨g9, 0, none⟩) P.length c9) wc := HR.out.v
          have hat := trow_at hTR
          obtain ⟨la, hla⟩ : ∃ la, la = P[a]'HA.out := ⟨_, rfl⟩
          have cl : wc.drew.cell? ⟨g9, a, none⟩ = some (.string ⟨la.toArray⟩) := by rw [hla]; exact hat.2.1 a HA.out
          have HL2 := Lib.hid (show la.length ≤ 1000 by rw [hla]; exact HP1.out _ (List.getElem_mem _))
          have HT := Lib.hid (fun wz => turned14_any la z z wz (by have := HL2.out; omega) HZ.out.2.2.2.2.2 HZ.out.2.2.2.2.2)
          have HG := Lib.hid hat.1
          have HRD := Lib.hid HR.out.drew
          have hS1 : wc.drew.cell? ⟨A + 2, 1, none⟩ = some (.int .u8 (y : Int)) ∧ wc.drew.cell? ⟨A + 2, 2, none⟩ = some (.int .u8 (z : Int)) := ⟨x1, x2⟩
          clear hTR hat hla x1 x2
          have HX := Lib.hid (show ∀ w2 : World, Below wc.drew.heap.size wc.drew w2 → (Rg14 w A #[.int .u64 (i : Int), .slice wo 67 kw, .slice po P.length kp] #[.string ⟨root.toArray⟩, .int .u64 (wt : Int), .int .u64 (f : Int), .int .u64 (l : Int), .int .u64 (n : Int)] #[.int .u8 (q : Int), .int .u8 (y : Int), .int .u8 (z : Int)] (.row (.slice (some ⟨g8, 0, none⟩) 67 c8)) (.row (.slice (some ⟨g9, 0, none⟩) P.length c9)) W P w2 ∧ w2.cell? ⟨g9, a, none⟩ = some (.string ⟨la.toArray⟩) ∧ w2.frozen? ⟨g9, a, none⟩ = false) from fun w2 hb =>
            ⟨HRD.out.next hb, key_keep hb cl, (trow_at (show TRow (A + 5) P (.slice (some ⟨g9, 0, none⟩) P.length c9) w2 from (HRD.out.next hb).v)).2.2.1 a⟩)
          have HK := Lib.hid (show ∀ wz, Rg14 w A #[.int .u64 (i : Int), .slice wo 67 kw, .slice po P.length kp] #[.string ⟨root.toArray⟩, .int .u64 (wt : Int), .int .u64 (f : Int), .int .u64 (l : Int), .int .u64 (n : Int)] #[.int .u8 (q : Int), .int .u8 (y : Int), .int .u8 (z : Int)] (.row (.slice (some ⟨g8, 0, none⟩) 67 c8)) (.row (.slice (some ⟨g9, 0, none⟩) P.length c9)) W P wz → ∀ t : (List UInt8), (wz.cell? ⟨A + 2, 1, none⟩ = some (.int .u8 (y : Int)) ∧ wz.cell? ⟨A + 2, 2, none⟩ = some (.int .u8 (z : Int))) ∧ ((wz.setCell ⟨g9, a, none⟩ (.string ⟨t.toArray⟩)).cell? ⟨A + 2, 1, none⟩ = some (.int .u8 (y : Int)) ∧ (wz.setCell ⟨g9, a, none⟩ (.string ⟨t.toArray⟩)).cell? ⟨A + 2, 2, none⟩ = some (.int .u8 (z : Int))) from fun wz h t =>
            ⟨⟨(lit_cell h.p.x 1).trans rfl, (lit_cell h.p.x 2).trans rfl⟩, ⟨(lit_cell (h.p.cell (k := a) (v := .string ⟨t.toArray⟩) HG.out).x 1).trans rfl, (lit_cell (h.p.cell (k := a) (v := .string ⟨t.toArray⟩) HG.out).x 2).trans rfl⟩⟩)
          go_upto_region 18 with (fail)
          refine wp_region_held_drew (S := fun wz => wz.cell? ⟨A + 2, 1, none⟩ = some (.int .u8 (y : Int)) ∧ wz.cell? ⟨A + 2, 2, none⟩ = some (.int .u8 (z : Int))) (by kernel_rfl) hS1 (fun _ => ?_)
          refine wpAnyH_take (i := 0) (oi := ⟨some 104, .move (.tmp 9), _, _, _, none⟩) (v := .slice (some ⟨g9, 0, none⟩) P.length c9) rfl (by kernel_rfl) (by kernel_rfl) (by kernel_rfl) (fun _ _ _ h => h) (Or.inl ⟨by rfl, by (intro w hSw; (try dsimp only at hSw); go_simp)⟩) hS1 ?_
          simp only [Act.put, List.setIfInBounds_toArray, List.set_cons_succ, List.set_cons_zero]
          refine wpAnyH_take (i := 1) (oi := ⟨some 105, .fieldAddr 54 (.tmp 5) 1, _, _, _, none⟩) (v := .pointer (some ⟨A + 2, 1, none⟩)) rfl (by kernel_rfl) (by kernel_rfl) (by kernel_rfl) (fun _ _ _ h => h) (Or.inl ⟨by rfl, by (intro w hSw; (try dsimp only at hSw); go_simp)⟩) hS1 ?_
          simp only [Act.put, List.setIfInBounds_toArray, List.set_cons_succ, List.set_cons_zero]
          refine wpAnyH_take (i := 2) (oi := ⟨some 106, .load 5 (.tmp 105), _, _, _, none⟩) (v := .int .u8 (y : Int)) rfl (by kernel_rfl) (by kernel_rfl) (by kernel_rfl) (fun _ _ _ h => h) (Or.inl ⟨by rfl, by (intro w hSw; (try dsimp only at hSw); go_simp)⟩) hS1 ?_
          simp only [Act.put, List.setIfInBounds_toArray, List.set_cons_succ, List.set_cons_zero]
          refine wpAnyH_take (i := 3) (oi := ⟨some 107, .convert 5 3 (.tmp 106), _, _, _, none⟩) (v := .int .i64 (y : Int)) rfl (by kernel_rfl) (by kernel_rfl) (by kernel_rfl) (fun _ _ _ h => h) (Or.inl ⟨by rfl, by (intro w hSw; (try dsimp only at hSw); go_simp)⟩) hS1 ?_
          simp only [Act.put, List.setIfInBounds_toArray, List.set_cons_succ, List.set_cons_zero]
          refine wpAnyH_take (i := 4) (oi := ⟨some 108, .move (.tmp 9), _, _, _, none⟩) (v := .slice (some ⟨g9, 0, none⟩) P.length c9) rfl (by kernel_rfl) (by kernel_rfl) (by kernel_rfl) (fun _ _ _ h => h) (Or.inl ⟨by rfl, by (intro w hSw; (try dsimp only at hSw); go_simp)⟩) hS1 ?_
          simp only [Act.put, List.setIfInBounds_toArray, List.set_cons_succ, List.set_cons_zero]
          refine wpAnyH_take (i := 5) (oi := ⟨some 109, .call { callee := .builtin .len, args := #[.tmp 108], argTypes := #[41] }, _, _, _, none⟩) (v := .int .i64 (P.length : Int)) rfl (by kernel_rfl) (by kernel_rfl) (by kernel_rfl) (fun _ _ _ h => h) (Or.inl ⟨by rfl, by (intro w hSw; (try dsimp only at hSw); go_simp)⟩) hS1 ?_
          simp only [Act.put, List.setIfInBounds_toArray, List.set_cons_succ, List.set_cons_zero]
          refine wpAnyH_take (i := 6) (oi := ⟨some 110, .binOp .rem 3 (.tmp 107) (.tmp 109) 3, _, _, _, none⟩) (v := .int .i64 (a : Int)) rfl (by kernel_rfl) (by kernel_rfl) (by kernel_rfl) (fun _ _ _ h => h) (Or.inl ⟨by rfl, by (intro w hSw; (try dsimp only at hSw); go_simp)⟩) hS1 ?_
          simp only [Act.put, List.setIfInBounds_toArray, List.set_cons_succ, List.set_cons_zero]
          refine wpAnyH_take (i := 7) (oi := ⟨some 111, .move (.tmp 9), _, _, _, none⟩) (v := .slice (some ⟨g9, 0, none⟩) P.length c9) rfl (by kernel_rfl) (by kernel_rfl) (by kernel_rfl) (fun _ _ _ h => h) (Or.inl ⟨by rfl, by (intro w hSw; (try dsimp only at hSw); go_simp)⟩) hS1 ?_
          simp only [Act.put, List.setIfInBounds_toArray, List.set_cons_succ, List.set_cons_zero]
          refine wpAnyH_take (i := 8) (oi := ⟨some 112, .fieldAddr 54 (.tmp 5) 1, _, _, _, none⟩) (v := .pointer (some ⟨A + 2, 1, none⟩)) rfl (by kernel_rfl) (by kernel_rfl) (by kernel_rfl) (fun _ _ _ h => h) (Or.inl ⟨by rfl, by (intro w hSw; (try dsimp only at hSw); go_simp)⟩) hS1 ?_
          simp only [Act.put, List.setIfInBounds_toArray, List.set_cons_succ, List.set_cons_zero]
          refine wpAnyH_take (i := 9) (oi := ⟨some 113, .load 5 (.tmp 112), _, _, _, none⟩) (v := .int .u8 (y : Int)) rfl (by kernel_rfl) (by kernel_rfl) (by kernel_rfl) (fun _ _ _ h => h) (Or.inl ⟨by rfl, by (intro w hSw; (try dsimp only at hSw); go_simp)⟩) hS1 ?_
          simp only [Act.put, List.setIfInBounds_toArray, List.set_cons_succ, List.set_cons_zero]
          refine wpAnyH_take (i := 10) (oi := ⟨some 114, .convert 5 3 (.tmp 113), _, _, _, none⟩) (v := .int .i64 (y : Int)) rfl (by kernel_rfl) (by kernel_rfl) (by kernel_rfl) (fun _ _ _ h => h) (Or.inl ⟨by rfl, by (intro w hSw; (try dsimp only at hSw); go_simp)⟩) hS1 ?_
          simp only [Act.put, List.setIfInBounds_toArray, List.set_cons_succ, List.set_cons_zero]
          refine wpAnyH_take (i := 11) (oi := ⟨some 115, .move (.tmp 9), _, _, _, none⟩) (v := .slice (some ⟨g9, 0, none⟩) P.length c9) rfl (by kernel_rfl) (by kernel_rfl) (by kernel_rfl) (fun _ _ _ h => h) (Or.inl ⟨by rfl, by (intro w hSw; (try dsimp only at hSw); go_simp)⟩) hS1 ?_
          simp only [Act.put, List.setIfInBounds_toArray, List.set_cons_succ, List.set_cons_zero]
          refine wpAnyH_take (i := 12) (oi := ⟨some 116, .call { callee := .builtin .len, args := #[.tmp 115], argTypes := #[41] }, _, _, _, none⟩) (v := .int .i64 (P.length : Int)) rfl (by kernel_rfl) (by kernel_rfl) (by kernel_rfl) (fun _ _ _ h => h) (Or.inl ⟨by rfl, by (intro w hSw; (try dsimp only at hSw); go_simp)⟩) hS1 ?_
          simp only [Act.put, List.setIfInBounds_toArray, List.set_cons_succ, List.set_cons_zero]
          refine wpAnyH_take (i := 13) (oi := ⟨some 117, .binOp .rem 3 (.tmp 114) (.tmp 116) 3, _, _, _, none⟩) (v := .int .i64 (a : Int)) rfl (by kernel_rfl) (by kernel_rfl) (by kernel_rfl) (fun _ _ _ h => h) (Or.inl ⟨by rfl, by (intro w hSw; (try dsimp only at hSw); go_simp)⟩) hS1 ?_
          simp only [Act.put, List.setIfInBounds_toArray, List.set_cons_succ, List.set_cons_zero]
          refine wpAnyH_take (i := 14) (oi := ⟨some 118, .indexAddr 41 (.tmp 111) (.tmp 117), _, _, _, none⟩) (v := .pointer (some ⟨g9, a, none⟩)) rfl (by kernel_rfl) (by kernel_rfl) (by kernel_rfl) (fun _ _ _ h => h) (Or.inl ⟨by rfl, by (intro w hSw; (try dsimp only at hSw); go_simp)⟩) hS1 ?_
          simp only [Act.put, List.setIfInBounds_toArray, List.set_cons_succ, List.set_cons_zero]
          refine wpAnyH_take (i := 16) (oi := ⟨some 120, .fieldAddr 54 (.tmp 5) 2, _, _, _, none⟩) (v := .pointer (some ⟨A + 2, 2, none⟩)) rfl (by kernel_rfl) (by kernel_rfl) (by kernel_rfl) (fun _ _ _ h => h) (Or.inl ⟨by rfl, by (intro w hSw; (try dsimp only at hSw); go_simp)⟩) hS1 ?_
          simp only [Act.put, List.setIfInBounds_toArray, List.set_cons_succ, List.set_cons_zero]
          refine wpAnyH_take (i := 17) (oi := ⟨some 121, .load 5 (.tmp 120), _, _, _, none⟩) (v := .int .u8 (z : Int)) rfl (by kernel_rfl) (by kernel_rfl) (by kernel_rfl) (fun _ _ _ h => h) (Or.inl ⟨by rfl, by (intro w hSw; (try dsimp only at hSw); go_simp)⟩) hS1 ?_
          simp only [Act.put, List.setIfInBounds_toArray, List.set_cons_succ, List.set_cons_zero]
          refine wpAnyH_take (i := 18) (oi := ⟨some 122, .fieldAddr 54 (.tmp 5) 2, _, _, _, none⟩) (v := .pointer (some ⟨A + 2, 2, none⟩)) rfl (by kernel_rfl) (by kernel_rfl) (by kernel_rfl) (fun _ _ _ h => h) (Or.inl ⟨by rfl, by (intro w hSw; (try dsimp only at hSw); go_simp)⟩) hS1 ?_
          simp only [Act.put, List.setIfInBounds_toArray, List.set_cons_succ, List.set_cons_zero]
          refine wpAnyH_take (i := 19) (oi := ⟨some 123, .load 5 (.tmp 122), _, _, _, none⟩) (v := .int .u8 (z : Int)) rfl (by kernel_rfl) (by kernel_rfl) (by kernel_rfl) (fun _ _ _ h => h) (Or.inl ⟨by rfl, by (intro w hSw; (try dsimp only at hSw); go_simp)⟩) hS1 ?_
          simp only [Act.put, List.setIfInBounds_toArray, List.set_cons_succ, List.set_cons_zero]
          refine wpAnyH_ready (rs := [15]) (by kernel_rfl) (by simp) (AllReadyH.cons (o := ⟨some 119, .load 9 (.tmp 118), _, _, _, none⟩) rfl (fun K hK => ?_) AllReadyH.nil)
          go_simp
          refine hK.out _ _ hS1 (fun _ => ?_)
          clear hK K
          try simp only [Act.put, List.setIfInBounds_toArray, List.set_cons_succ, List.set_cons_zero]
          refine wpAnyH_ready (rs := [20]) (by kernel_rfl) (by simp) (AllReadyH.cons (o := ⟨some 124, .call { callee := .value (.func 57), args := #[.tmp 119, .tmp 121, .tmp 123], argTypes := #[9, 5, 5] }, _, _, _, none⟩) rfl (fun K hK => ?_) AllReadyH.nil)
          go_simp
          refine (HT.out _).mono ?_
          rintro e w2 ⟨t, rfl, htl, hb⟩
          obtain ⟨hr2, d0, fd0⟩ := HX.out w2 hb
          obtain ⟨hSa, hT⟩ := HK.out w2 hr2 t
          have HR2 := Lib.hid hr2
          have HTL := Lib.hid htl
          clear hr2 htl hb
          refine hK.out _ _ hSa (fun _ => ?_)
          clear hK K
          try simp only [Act.put, List.setIfInBounds_toArray, List.set_cons_succ, List.set_cons_zero]
          refine wpAnyH_take (i := 21) (oi := ⟨some 125, .indexAddr 41 (.tmp 104) (.tmp 110), _, _, _, none⟩) (v := .pointer (some ⟨g9, a, none⟩)) rfl (by kernel_rfl) (by kernel_rfl) (by kernel_rfl) (fun _ _ _ h => h) (Or.inl ⟨by rfl, by (intro w hSw; (try dsimp only at hSw); go_simp)⟩) hSa ?_
          simp only [Act.put, List.setIfInBounds_toArray, List.set_cons_succ, List.set_cons_zero]
          refine wpAnyH_ready (rs := [22]) (by kernel_rfl) (by simp) (AllReadyH.cons (o := ⟨none, .store 9 (.tmp 125) (.tmp 124), _, _, _, none⟩) rfl (fun K hK => ?_) AllReadyH.nil)
          go_simp
          refine hK.out _ _ hT (fun _ => ?_)
          clear hK K
          try simp only [Act.put, List.setIfInBounds_toArray, List.set_cons_succ, List.set_cons_zero]
          refine wpAnyH_done (by kernel_rfl) ?_ _
          clear hS1 hSa hT d0 fd0 cl
          go_wp2_with (fail)
          go_meet
          have hr3 := row_set_n (i := a) (t := t) rfl (show TRow (A + 5) P (.slice (some ⟨g9, 0, none⟩) P.length c9) w2 from HR2.out.v)
          have hr4 : TRow (A + 5) (P.set a t) (.slice (some ⟨g9, 0, none⟩) (P.set a t).length c9) (w2.setCell ⟨g9, a, none⟩ (.string ⟨t.toArray⟩)) := by rw [List.length_set]; exact hr3
          obtain ⟨ao2, cp2, e, h1, h5⟩ := trow_stB hr4
          cases e
          have hv8 : StB (A + 5) (some ⟨g8, 0, none⟩) W (w2.setCell ⟨g9, a, none⟩ (.string ⟨t.toArray⟩)) := by
            obtain ⟨ao3, cp3, e3, h3, _⟩ := trow_stB (World.ownsRow.kept (show TRow (A + 5) W (.slice (some ⟨g8, 0, none⟩) 67 c8) w2 from HR2.out.u) (Kept.to_grown ((Kept.refl (fun j => j ≠ g9) w2).setCell g9 a (.string ⟨t.toArray⟩) (fun _ h => h rfl))) (.inr (HR2.out.swap.d g9 rfl)))
            rw [HL.out] at e3
            cases e3
            exact h3
          exact ⟨⟨i, f, l, n, W, P.set a t, some ⟨g8, 0, none⟩, some ⟨g9, 0, none⟩, c8, c9, root⟩, by rw [HL.out], by rw [List.length_set], Lib.hid ⟨HR2.out.p.cell HG.out, ⟨hv8, h1, HWL2.out, HW1.out, h5, by rw [List.length_set]; exact HPl2.out, fun x hx => by
            rcases List.mem_or_eq_of_mem_set hx with h | h
            · exact HP1.out x h
            · rw [h, HTL.out]; exact HL2.out, HRL2.out, HZ.out.1, HZ.out.2.1, HZ.out.2.2.1, HZ.out.2.2.2.1⟩⟩⟩
      · as_aux_lemma =>
        have HT := Lib.hid (turned14_any root y z wc (by have := HRL2.out; omega) HZ.out.2.2.2.2.1 HZ.out.2.2.2.2.2)
        go_wp2_with (go_at_call 57; with_reducible refine HT.out.mono ?_; rintro e w2 ⟨t, rfl, htl, hb⟩; have HTL := Lib.hid htl; have HB2 := Lib.hid hb; have HP2 := Lib.hid (HR.out.p.next hb); have d0 := (lit_cell HP2.out.b 0).trans rfl; have fd0 := lit_free HP2.out.b 0; clear htl hb)
        go_meet
        have hok := HOK.out.kept ((Kept.of_below (S := fun j => A + 5 ≤ j ∧ j < wc.heap.size) HB2.out (fun j h => h.2)).less (T := fun j => A + 5 ≤ j) (fun j h1 h2 => ⟨h2, h1⟩))
        have hok := hok.kept ((Kept.refl (fun j => A + 5 ≤ j) w2).setCell (A + 1) 0 (.string ⟨t.toArray⟩) (fun _ h => by omega))
        exact ⟨⟨i, f, l, n, W, P, some ⟨g8, 0, none⟩, ao, c8, c9, t⟩, by rw [HL.out], rfl, Lib.hid ⟨HP2.out.putB (k := 0) (v := .string ⟨t.toArray⟩), ⟨hok.hW, hok.hP, hok.wl, hok.wb, hok.pc, hok.pl, hok.pb, by show t.length ≤ 1000; rw [HTL.out]; exact HRL2.out, hok.hi, hok.hf, hok.hl, hok.hn⟩⟩⟩
      · as_aux_lemma =>
        obtain ⟨k, hk⟩ : ∃ k, k = y % 33 := ⟨_, rfl⟩
        have y1 : (y : Int).tmod 33 = (k : Int) := by rw [Int.tmod_eq_emod_of_nonneg (by omega)]; omega
        have y2 : (y : Int) % 33 = (k : Int) := by omega
        have k0 : (0 : Int) ≤ (k : Int) := by omega
        have k1 : (k : Int) ≤ 32 := by omega
        have k2 : (k : Int) ≤ (root.length : Int) := by rw [HRL.out]; omega
        have k3 : k ≤ root.length := by rw [HRL.out]; omega
        clear hk
        go_wp2_with (fail)
        go_meet
        rw [show ({ data := root.toArray } : ByteArray).extract 0 k = ⟨(root.take k).toArray⟩ by simpa using extract_list root 0 k]
        have hok := HOK.out.kept ((Kept.refl (fun j => A + 5 ≤ j) wc).setCell (A + 1) 0 (.string ⟨(root.take k).toArray⟩) (fun _ h => by omega))
        exact ⟨⟨i, f, l, n, W, P, some ⟨g8, 0, none⟩, ao, c8, c9, root.take k⟩, by rw [HL.out], rfl, Lib.hid ⟨HR.out.p.putB (k := 0) (v := .string ⟨(root.take k).toArray⟩), ⟨hok.hW, hok.hP, hok.wl, hok.wb, hok.pc, hok.pl, hok.pb, by show (root.take k).length ≤ 1000; rw [List.length_take]; exact Nat.le_trans (Nat.min_le_right _ _) HRL2.out, hok.hi, hok.hf, hok.hl, hok.hn⟩⟩⟩
      · as_aux_lemma =>
        obtain ⟨f2, hf2⟩ : ∃ f2, f2 = (f + z) % 18446744073709551616 := ⟨_, rfl⟩
        have hw2 : IntKind.u64.wrap ((f : Int) + (z : Int)) = (f2 : Int) := by rw [IntKind.wrap_u64]; omega
        obtain ⟨k, hk⟩ : ∃ k, k = y % 3 := ⟨_, rfl⟩
        have y1 : (y : Int).tmod 3 = (k : Int) := by rw [Int.tmod_eq_emod_of_nonneg (by omega)]; omega
        have y2 : (y : Int) % 3 = (k : Int) := by omega
        have k1 : IntKind.u8.wrap (k : Int) = (k : Int) := IntWalk.u8_in _ (by omega)
        have k2 : IntKind.u64.wrap (k : Int) = (k : Int) := by rw [IntKind.wrap_u64]; omega
        obtain ⟨l2, hl2⟩ : ∃ l2, l2 = (l * k) % 18446744073709551616 := ⟨_, rfl⟩
        have hw3 : IntKind.u64.wrap ((l : Int) * (k : Int)) = (l2 : Int) := by rw [IntKind.wrap_u64, ← Int.natCast_mul]; omega
        have HF2 := Lib.hid (show f2 < 18446744073709551616 ∧ l2 < 18446744073709551616 by omega)
        clear hf2 hk hl2
        go_wp2_with (fail)
        go_meet
        have hok := HOK.out.kept (((Kept.refl (fun j => A + 5 ≤ j) wc).setCell (A + 1) 2 (.int .u64 (f2 : Int)) (fun _ h => by omega)).setCell (A + 1) 3 (.int .u64 (l2 : Int)) (fun _ h => by omega))
        exact ⟨⟨i, f2, l2, n, W, P, some ⟨g8, 0, none⟩, ao, c8, c9, root⟩, by rw [HL.out], rfl, Lib.hid ⟨(HR.out.p.putB (k := 2) (v := .int .u64 (f2 : Int))).putB (k := 3) (v := .int .u64 (l2 : Int)), ⟨hok.hW, hok.hP, hok.wl, hok.wb, hok.pc, hok.pl, hok.pb, hok.rl, hok.hi, HF2.out.1, HF2.out.2, hok.hn⟩⟩⟩
      · as_aux_lemma =>
        obtain ⟨k, hk⟩ : ∃ k, k = y % 70 := ⟨_, rfl⟩
        have y1 : (y : Int).tmod 70 = (k : Int) := by rw [Int.tmod_eq_emod_of_nonneg (by omega)]; omega
        have y2 : (y : Int) % 70 = (k : Int) := by omega
        have k2 : IntKind.u64.wrap (k : Int) = (k : Int) := by rw [IntKind.wrap_u64]; omega
        have HK := Lib.hid (show k < 18446744073709551616 by omega)
        clear hk
        go_wp2_with (fail)
        go_meet
        have hok := HOK.out.kept ((Kept.refl (fun j => A + 5 ≤ j) wc).setCell (A + 1) 4 (.int .u64 (k : Int)) (fun _ h => by omega))
        exact ⟨⟨i, f, l, k, W, P, some ⟨g8, 0, none⟩, ao, c8, c9, root⟩, by rw [HL.out], rfl, Lib.hid ⟨HR.out.p.putB (k := 4) (v := .int .u64 (k : Int)), ⟨hok.hW, hok.hP, hok.wl, hok.wb, hok.pc, hok.pl, hok.pb, hok.rl, hok.hi, hok.hf, hok.hl, HK.out⟩⟩⟩
    case rest =>
      clear x0 x1 x2 hg8 hc9 m1 m2 m3
      obtain ⟨⟨i', f', l', n', W', P', wo', po', kw', kp', root'⟩, rfl, rfl, HD⟩ := hcut
      have hS := HD.out.1
      have a0 := (lit_cell hS.a 0).trans rfl
      have a1 := (lit_cell hS.a 1).trans rfl
      have a2 := (lit_cell hS.a 2).trans rfl
      have f1 := lit_free hS.a 1
      have f2 := lit_free hS.a 2
      clear hS
      go_upto_region 30 with fail
      clear a0 a1 a2 f1 f2
      have HS2 := Lib.hid ((HD.out.1.putA (k := 1) (v := .slice wo' W'.length kw')).putA (k := 2) (v := .slice po' P'.length kp'))
      have HK2 := Lib.hid (HD.out.2.kept (((Kept.refl (fun j => A + 5 ≤ j) wc).setCell A 1 (.slice wo' W'.length kw') (fun _ h => by omega)).setCell A 2 (.slice po' P'.length kp') (fun _ h => by omega)))
      generalize (wc.setCell ⟨A, 1, none⟩ (.slice wo' W'.length kw')).setCell ⟨A, 2, none⟩ (.slice po' P'.length kp') = wT at *
      have HD := Lib.hid HS2.out.o
      have a0 := (lit_cell HS2.out.a 0).trans rfl
      have a1 := (lit_cell HS2.out.a 1).trans rfl
      have a2 := (lit_cell HS2.out.a 2).trans rfl
      have b0 := (lit_cell HS2.out.b 0).trans rfl
      have b1 := (lit_cell HS2.out.b 1).trans rfl
      have b2 := (lit_cell HS2.out.b 2).trans rfl
      have b3 := (lit_cell HS2.out.b 3).trans rfl
      have b4 := (lit_cell HS2.out.b 4).trans rfl
      have r0 := (lit_cell HS2.out.r 0).trans rfl
      have r1 := (lit_cell HS2.out.r 1).trans rfl
      have r2 := (lit_cell HS2.out.r 2).trans rfl
      have g0 := lit_free HS2.out.r 0
      have g1 := lit_free HS2.out.r 1
      have g2 := lit_free HS2.out.r 2
      have q0 := (lit_cell HS2.out.q 0).trans rfl
      have q1 := (lit_cell HS2.out.q 1).trans rfl
      have q2 := (lit_cell HS2.out.q 2).trans rfl
      have q3 := (lit_cell HS2.out.q 3).trans rfl
      have q4 := (lit_cell HS2.out.q 4).trans rfl
      have t0 := lit_free HS2.out.q 0
      have t1 := lit_free HS2.out.q 1
      have t2 := lit_free HS2.out.q 2
      have t3 := lit_free HS2.out.q 3
      have t4 := lit_free HS2.out.q 4
      have H34 := Lib.hid ((end34 (a := .int .u64 (i' : Int)) (b := .slice wo' W'.length kw') (c := .slice po' P'.length kp') (s0 := .string ⟨root'.toArray⟩) (s1 := .int .u64 (wt : Int)) (s2 := .int .u64 (f' : Int)) (s3 := .int .u64 (l' : Int)) (s4 := .int .u64 (n' : Int)) HS2.out HK2.out).drew)
      have H43 := Lib.hid ((end43 (a := .int .u64 (i' : Int)) (b := .slice wo' W'.length kw') (c := .slice po' P'.length kp') (s0 := .string ⟨root'.toArray⟩) (s1 := .int .u64 (wt : Int)) (s2 := .int .u64 (f' : Int)) (s3 := .int .u64 (l' : Int)) (s4 := .int .u64 (n' : Int)) HS2.out HK2.out).drew)
      go_cut [] from 174 (fun wx => End34 w A ⟨i', f', l', n', W', P', wo', po', kw', kp', root'⟩ (.int .u64 (i' : Int)) (.slice wo' W'.length kw') (.slice po' P'.length kp') (.string ⟨root'.toArray⟩) (.int .u64 (wt : Int)) (.int .u64 (f' : Int)) (.int .u64 (l' : Int)) (.int .u64 (n' : Int)) wx)
      case first =>
        go_region_with (fail)
        all_goals
          clear a0 a1 a2 b0 b1 b2 b3 b4 r0 r1 r2 g0 g1 g2 q0 q1 q2 q3 q4 t0 t1 t2 t3 t4
          go_wp2_with (fail)
          go_meet
          first
            | with_reducible exact H34.out
            | with_reducible exact H43.out
      case rest =>
        obtain ⟨v0, v1, v2, v3, v4, v5, v6, v7, hk, hb⟩ := hcut
        have HO := Lib.hid (SpO.from (wt := wt) (w := w) (w' := wc) (by rw [← HAA.out]; exact hk) (by rw [← HAA.out]; exact hb))
        clear hk hb a0 a1 a2 b0 b1 b2 b3 b4 r0 r1 r2 g0 g1 g2 q0 q1 q2 q3 q4 t0 t1 t2 t3 t4
        refine (by assumption : ∀ (a : Act) (w_1 : World), Code.wp Tryz.prog Code.ret (bodyPost Tryz.prog Tryz.f23 (SpO wt w)) a w_1 → _) _ _ ?_
        refine wp_ret ?_
        exact bodyPost_ret (v := .tuple #[.agg #[.int .u64 (i' : Int), .slice wo' W'.length kw', .slice po' P'.length kp'], .agg #[.string ⟨root'.toArray⟩, .int .u64 (wt : Int), .int .u64 (f' : Int), .int .u64 (l' : Int), .int .u64 (n' : Int)]]) (by simp [results, Tryz.results23, go_sem, v0, v1, v2, v3, v4, v5, v6, v7]) rfl HO.out
end Go.Proofs.YtmnklonoelpidaaGreatDoor
