/- The program's ladder: Sign. -/
import Derived.Test.YtmnklonoelpidaaGreatDoorJ40
import Derived.Test.YtmnklonoelpidaaGreatDoorJ36
import Derived.Laws.EntriesVeiled
import Derived.Deep.RegionHeld3
namespace Go.Proofs.YtmnklonoelpidaaGreatDoor
open Go.RowKit

/-- the ladder, the round, the digest, what is answered and what is made in their boxes, and what is asked of them -/
structure Sw14 (w0 : World) (A : Nat) (p : Option Addr) (r : Nat) (d : (List UInt8)) (cs : Array Value) (wz : World) : Prop where
  sz : w0.heap.size = A
  o : Below A w0 wz
  a : wz.heap[A]? = some (.cells #[.pointer p] 28 (0, 0))
  b : wz.heap[A + 1]? = some (.cells #[.int .u64 (r : Int)] 22 (0, 0))
  d : wz.heap[A + 2]? = some (.cells #[.string ⟨d.toArray⟩] 9 (0, 0))
  r : wz.heap[A + 3]? = some (.cells #[.int .u64 0, .slice none 0 0, .slice none 0 0] 48 (0, 0))
  s : wz.heap[A + 4]? = some (.cells cs 48 (0, 0))
  x : wz.heap[A + 5]? = some (.cells #[.func (.func 48) #[] #[.pointer (some ⟨A, 0, none⟩)], .func (.func 49) #[] #[.pointer (some ⟨A, 0, none⟩), .pointer (some ⟨A + 1, 0, none⟩), .pointer (some ⟨A + 4, 0, none⟩)], .func (.func 51) #[] #[.pointer (some ⟨A, 0, none⟩), .pointer (some ⟨A + 4, 0, none⟩), .pointer (some ⟨A + 2, 0, none⟩)], .func (.func 53) #[] #[.pointer (some ⟨A, 0, none⟩), .pointer (some ⟨A + 4, 0, none⟩)]] 74 (0, 0))
theorem Sw14.next {w0 : World} {A : Nat} {p : Option Addr} {r : Nat} {d : (List UInt8)} {cs : Array Value} {wz wa : World} (h : Sw14 w0 A p r d cs wz) (hb : Below wz.heap.size wz wa) : Sw14 w0 A p r d cs wa :=
  ⟨h.sz, h.o.trans (hb.mono (by have := h.o.size; have := h.sz; omega)), (hb.block _ (lit_lt h.a)).trans h.a, (hb.block _ (lit_lt h.b)).trans h.b, (hb.block _ (lit_lt h.d)).trans h.d, (hb.block _ (lit_lt h.r)).trans h.r, (hb.block _ (lit_lt h.s)).trans h.s, (hb.block _ (lit_lt h.x)).trans h.x⟩
theorem Sw14.kept {w0 : World} {A : Nat} {p : Option Addr} {r : Nat} {d : (List UInt8)} {cs : Array Value} {wz : World} (h : Sw14 w0 A p r d cs wz) (k : Nat) (v : Value) : Sw14 w0 A p r d (cs.setIfInBounds k v) (wz.setCell ⟨A + 4, k, none⟩ v) := by
  have hk : Kept (fun j => j ≠ A + 4) wz (wz.setCell ⟨A + 4, k, none⟩ v) := (Kept.refl _ wz).setCell (A + 4) k _ (fun _ h => h rfl)
  exact ⟨h.sz, h.o.setCell (p := ⟨A + 4, k, none⟩) (show A ≤ A + 4 by omega) _, (hk.block _ (lit_lt h.a) (by omega)).trans h.a, (hk.block _ (lit_lt h.b) (by omega)).trans h.b, (hk.block _ (lit_lt h.d) (by omega)).trans h.d, (hk.block _ (lit_lt h.r) (by omega)).trans h.r, lit_set (k := k) v h.s, (hk.block _ (lit_lt h.x) (by omega)).trans h.x⟩
/-- what is kept beside a store into the signature -/
theorem off14 (wz : World) (A k : Nat) (v : Value) : Kept (fun j => j ≠ A + 4) wz (wz.setCell ⟨A + 4, k, none⟩ v) := (Kept.refl _ wz).setCell (A + 4) k _ (fun _ h => h rfl)
theorem sign1_any {w0 : World} {A b : Nat} {s : (List UInt8)} {f l n r : Nat} {d : (List UInt8)} {cs : Array Value} {wz : World} (h : Sw14 w0 A (some ⟨b, 0, none⟩) r d cs wz) (hp : PLad b s f l n wz) : Calls Tryz.prog 48 #[.pointer (some ⟨A, 0, none⟩)] wz fun e w' => e = .returned (.int .i64 0) ∧ wz = w' := by
  have ca := (lit_cell h.a 0).trans rfl
  have HN := Lib.hid (lnone_any b s f l n wz hp)
  have HU := Lib.hid (fun wy => show Calls Tryz.prog 32 #[.bool true, .int .i64 1] wy fun x w' => x = .returned (.int .i64 0) ∧ wy = w' from unless_any true 1 wy)
  clear h hp
  go_enter Tryz.func48, Tryz.ntmps48
  go_wp2_with (first
    | (go_at_call 42; with_reducible refine HN.out.mono ?_; rintro e w1 ⟨rfl, rfl⟩)
    | (go_at_call 32; with_reducible refine (HU.out _).mono ?_; rintro e w3 ⟨rfl, rfl⟩))
  go_ret
  exact ⟨rfl, rfl⟩
theorem sign1_nil {w0 : World} {A : Nat} {r : Nat} {d : (List UInt8)} {cs : Array Value} {wz : World} (h : Sw14 w0 A none r d cs wz) : Calls Tryz.prog 48 #[.pointer (some ⟨A, 0, none⟩)] wz fun e w' => e = .returned (.int .i64 1) ∧ wz = w' := by
  have ca := (lit_cell h.a 0).trans rfl
  have HN := Lib.hid (lnone_nil wz)
  have HU := Lib.hid (fun wy => show Calls Tryz.prog 32 #[.bool false, .int .i64 1] wy fun x w' => x = .returned (.int .i64 1) ∧ wy = w' from unless_any false 1 wy)
  clear h
  go_enter Tryz.func48, Tryz.ntmps48
  go_wp2_with (first
    | (go_at_call 42; with_reducible refine HN.out.mono ?_; rintro e w1 ⟨rfl, rfl⟩)
    | (go_at_call 32; with_reducible refine (HU.out _).mono ?_; rintro e w3 ⟨rfl, rfl⟩))
  go_ret
  exact ⟨rfl, rfl⟩
set_option maxRecDepth 100000 in
set_option maxHeartbeats 4000000 in
theorem sign2_any {w0 : World} {A b : Nat} {s : (List UInt8)} {f l n r : Nat} {d : (List UInt8)} {v1 v2 : Value} {wz : World} (h : Sw14 w0 A (some ⟨b, 0, none⟩) r d #[.int .u64 0, v1, v2] wz) (hp : PLad b s f l n wz) (hl : 0 < l) (hr : r < 18446744073709551616) : Calls Tryz.prog 49 #[.pointer (some ⟨A, 0, none⟩), .pointer (some ⟨A + 1, 0, none⟩), .pointer (some ⟨A + 4, 0, none⟩)] wz fun e w' => e = .returned (.int .i64 (unlE (keyF f l n r).2 16 : Nat)) ∧ Sw14 w0 A (some ⟨b, 0, none⟩) r d #[.int .u64 ((keyF f l n r).1 : Nat), v1, v2] w' ∧ PLad b s f l n w' := by
  have HKE := Lib.hid (fun wy => pkeyErr_any f l n r wy hl hr)
  generalize (keyF f l n r).1 = k at *
  generalize (keyF f l n r).2 = t at *
  have HOF := Lib.hid (show ∀ wy, (Sw14 w0 A (some ⟨b, 0, none⟩) r d #[.int .u64 0, v1, v2] wy ∧ PLad b s f l n wy) → (wy.cell? ⟨A, 0, none⟩ = some (.pointer (some ⟨b, 0, none⟩)) ∧ wy.cell? ⟨A + 1, 0, none⟩ = some (.int .u64 (r : Int)) ∧ wy.cell? ⟨b, 0, none⟩ = some (.int .u64 (f : Int)) ∧ wy.cell? ⟨b, 1, none⟩ = some (.int .u64 (l : Int)) ∧ wy.cell? ⟨b, 2, none⟩ = some (.int .u64 (n : Int)) ∧ Sw14 w0 A (some ⟨b, 0, none⟩) r d #[.int .u64 0, v1, v2] wy ∧ PLad b s f l n wy) from fun wy h => by
    obtain ⟨h1, h2⟩ := h
    obtain ⟨t, g0, g1, g2, _, _, _⟩ := h2.cells
    exact ⟨(lit_cell h1.a 0).trans rfl, (lit_cell h1.b 0).trans rfl, g0, g1, g2, h1, h2⟩)
  have hS1 := HOF.out _ ⟨h.next (Below.refl _ _).drew, hp.next (Below.refl _ _).drew⟩
  have HFI := Lib.hid (show ∀ wy, Sw14 w0 A (some ⟨b, 0, none⟩) r d #[.int .u64 0, v1, v2] wy → PLad b s f l n wy → Sw14 w0 A (some ⟨b, 0, none⟩) r d #[.int .u64 (k : Int), v1, v2] (wy.setCell ⟨A + 4, 0, none⟩ (.int .u64 (k : Int))) ∧ PLad b s f l n (wy.setCell ⟨A + 4, 0, none⟩ (.int .u64 (k : Int))) from fun wy h1 h2 => ⟨h1.kept 0 (.int .u64 (k : Int)), h2.off h1.s (by decide) (by decide) (by decide) (off14 wy A 0 _)⟩)
  clear h hp hl hr
  go_enter Tryz.func49, Tryz.ntmps49
  go_upto_region 1 with fail
  go_region_with (first
    | (go_at_call 50; with_reducible refine (HKE.out _).mono ?_; rintro e wa ⟨rfl, hba⟩; have hSa := HOF.out wa ⟨hS1.2.2.2.2.2.1.next hba, hS1.2.2.2.2.2.2.next hba⟩; have r0 := (lit_cell hSa.2.2.2.2.2.1.s 0).trans rfl; have f0 := lit_free hSa.2.2.2.2.2.1.s 0; have HSA := Lib.hid hSa))
  all_goals
    have HF := Lib.hid (HFI.out wa HSA.out.2.2.2.2.2.1 HSA.out.2.2.2.2.2.2)
    clear hSa r0 f0 HSA
    go_wp2
    go_ret
    exact ⟨rfl, HF.out⟩
set_option maxRecDepth 100000 in
set_option maxHeartbeats 4000000 in
theorem sign3_any (C : WotsC) {w0 : World} {A b : Nat} {s : (List UInt8)} {f l n r : Nat} {d : (List UInt8)} {k : Nat} {v2 : Value} {wz : World} (h : Sw14 w0 A (some ⟨b, 0, none⟩) r d #[.int .u64 (k : Int), .slice none 0 0, v2] wz) (hv : ∀ t, v2 ≠ .string t) (hp : PLad b s f l n wz) (hg : Glob wz) (hs : s.length ≤ 1000) (hk : k < 18446744073709551616) (hd : d.length ≤ 1000) : Calls Tryz.prog 51 #[.pointer (some ⟨A, 0, none⟩), .pointer (some ⟨A + 4, 0, none⟩), .pointer (some ⟨A + 2, 0, none⟩)] wz fun e w' => ∃ wo wc, e = .returned (.int .i64 ((signC s k d).2 : Nat)) ∧ Sw14 w0 A (some ⟨b, 0, none⟩) r d #[.int .u64 (k : Int), .slice wo (signC s k d).1.length wc, v2] w' ∧ PLad b s f l n w' ∧ Strs wo (signC s k d).1 w' := by
  have HSG := Lib.hid (fun wy (hb : Below wz.heap.size wz wy) => C.s s k d wy (hg.below hg.size hb) hs hk hd)
  have HV := Lib.hid hv
  generalize (signC s k d).1 = W at *
  generalize (signC s k d).2 = x at *
  have HOF := Lib.hid (show ∀ wy, (Below wz.heap.size wz wy ∧ Sw14 w0 A (some ⟨b, 0, none⟩) r d #[.int .u64 (k : Int), .slice none 0 0, v2] wy ∧ PLad b s f l n wy) → (wy.cell? ⟨A, 0, none⟩ = some (.pointer (some ⟨b, 0, none⟩)) ∧ wy.cell? ⟨A + 2, 0, none⟩ = some (.string ⟨d.toArray⟩) ∧ wy.cell? ⟨A + 4, 0, none⟩ = some (.int .u64 (k : Int)) ∧ wy.cell? ⟨b, 4, none⟩ = some (.string ⟨s.toArray⟩) ∧ Below wz.heap.size wz wy ∧ Sw14 w0 A (some ⟨b, 0, none⟩) r d #[.int .u64 (k : Int), .slice none 0 0, v2] wy ∧ PLad b s f l n wy) from fun wy h => by
    obtain ⟨h0, h1, h2⟩ := h
    obtain ⟨t, _, _, _, _, g4, _⟩ := h2.cells
    exact ⟨(lit_cell h1.a 0).trans rfl, (lit_cell h1.d 0).trans rfl, (lit_cell h1.s 0).trans rfl, g4, h0, h1, h2⟩)
  have hS1 := HOF.out _ ⟨(Below.refl _ _).drew, h.next (Below.refl _ _).drew, hp.next (Below.refl _ _).drew⟩
  have HFI := Lib.hid (show ∀ wy wo wc, Sw14 w0 A (some ⟨b, 0, none⟩) r d #[.int .u64 (k : Int), .slice none 0 0, v2] wy → PLad b s f l n wy → Strs wo W wy → Sw14 w0 A (some ⟨b, 0, none⟩) r d #[.int .u64 (k : Int), .slice wo W.length wc, v2] (wy.setCell ⟨A + 4, 1, none⟩ (.slice wo W.length wc)) ∧ PLad b s f l n (wy.setCell ⟨A + 4, 1, none⟩ (.slice wo W.length wc)) ∧ Strs wo W (wy.setCell ⟨A + 4, 1, none⟩ (.slice wo W.length wc)) from fun wy wo wc h1 h2 h3 => ⟨h1.kept 1 (.slice wo W.length wc), h2.off h1.s (by decide) (by decide) (by decide) (off14 wy A 1 _), strs_off h3 h1.s (sig_cells _ _ _ (fun t h => by cases h) HV.out) (off14 wy A 1 _)⟩)
  have HSG2 := Lib.hid (fun wy (h : wy.cell? ⟨A, 0, none⟩ = some (.pointer (some ⟨b, 0, none⟩)) ∧ wy.cell? ⟨A + 2, 0, none⟩ = some (.string ⟨d.toArray⟩) ∧ wy.cell? ⟨A + 4, 0, none⟩ = some (.int .u64 (k : Int)) ∧ wy.cell? ⟨b, 4, none⟩ = some (.string ⟨s.toArray⟩) ∧ Below wz.heap.size wz wy ∧ Sw14 w0 A (some ⟨b, 0, none⟩) r d #[.int .u64 (k : Int), .slice none 0 0, v2] wy ∧ PLad b s f l n wy) => HSG.out wy h.2.2.2.2.1)
  clear h hp hg hs hk hd hv HSG
  go_enter Tryz.func51, Tryz.ntmps51
  go_upto_region 1 with fail
  go_region_with (first
    | (go_at_call 52; with_reducible refine (HSG2.out _ (by with_reducible assumption)).mono ?_; rintro e wa ⟨wo, wc, rfl, hwa, _, hba⟩; have hSa := HOF.out wa ⟨below_next hS1.2.2.2.2.1 hba, hS1.2.2.2.2.2.1.next hba, hS1.2.2.2.2.2.2.next hba⟩; have r0 := (lit_cell hSa.2.2.2.2.2.1.s 1).trans rfl; have f0 := lit_free hSa.2.2.2.2.2.1.s 1; have HSA := Lib.hid (HFI.out wa wo wc hSa.2.2.2.2.2.1 hSa.2.2.2.2.2.2 hwa); clear hwa))
  all_goals
    clear hSa r0 f0
    go_wp2
    go_ret
    exact ⟨wo, wc, rfl, HSA.out⟩
set_option maxRecDepth 100000 in
set_option maxHeartbeats 4000000 in
theorem sign4_any {w0 : World} {A b : Nat} {s : (List UInt8)} {f l n r : Nat} {d : (List UInt8)} {k wl wc : Nat} {wo : Option Addr} {W : List (List UInt8)} {wz : World} (h : Sw14 w0 A (some ⟨b, 0, none⟩) r d #[.int .u64 (k : Int), .slice wo wl wc, .slice none 0 0] wz) (hp : PLad b s f l n wz) (hw : Strs wo W wz) (hk : k < n) : Calls Tryz.prog 53 #[.pointer (some ⟨A, 0, none⟩), .pointer (some ⟨A + 4, 0, none⟩)] wz fun e w' => ∃ po pc, e = .returned (.int .i64 0) ∧ Sw14 w0 A (some ⟨b, 0, none⟩) r d #[.int .u64 (k : Int), .slice wo wl wc, .slice po (proofD (rungsL s n) [k]).length pc] w' ∧ PLad b s f l n w' ∧ Strs wo W w' ∧ Strs po (proofD (rungsL s n) [k]) w' ∧ (proofD (rungsL s n) [k]).length ≤ pc := by
  obtain ⟨t, _, _, _, h3, _, ht⟩ := hp.cells
  have HPA := Lib.hid (fun wy (hb : Below wz.heap.size wz wy) => gpath_any (rungsL s n) t k wy (ht.below hb) (by rw [rungsL_len]; exact hk))
  generalize proofD (rungsL s n) [k] = Q at *
  have HOF := Lib.hid (show ∀ wy, Below wz.heap.size wz wy → (wy.cell? ⟨A, 0, none⟩ = some (.pointer (some ⟨b, 0, none⟩)) ∧ wy.cell? ⟨A + 4, 0, none⟩ = some (.int .u64 (k : Int)) ∧ wy.cell? ⟨b, 3, none⟩ = some (.pointer (some ⟨t, 0, none⟩)) ∧ Below wz.heap.size wz wy) from fun wy hb => ⟨(lit_cell (h.next hb).a 0).trans rfl, (lit_cell (h.next hb).s 0).trans rfl, key_keep hb h3, hb⟩)
  have hS1 := HOF.out _ (Below.refl _ _).drew
  have HFI := Lib.hid (show ∀ wy po pc, Below wz.heap.size wz wy → Strs po Q wy → Q.length ≤ pc → Sw14 w0 A (some ⟨b, 0, none⟩) r d #[.int .u64 (k : Int), .slice wo wl wc, .slice po Q.length pc] (wy.setCell ⟨A + 4, 2, none⟩ (.slice po Q.length pc)) ∧ PLad b s f l n (wy.setCell ⟨A + 4, 2, none⟩ (.slice po Q.length pc)) ∧ Strs wo W (wy.setCell ⟨A + 4, 2, none⟩ (.slice po Q.length pc)) ∧ Strs po Q (wy.setCell ⟨A + 4, 2, none⟩ (.slice po Q.length pc)) ∧ Q.length ≤ pc from fun wy po pc hb h1 h2 =>
    ⟨(h.next hb).kept 2 (.slice po Q.length pc), (hp.next hb).off (h.next hb).s (by decide) (by decide) (by decide) (off14 wy A 2 _), strs_off (hw.below (Nat.le_refl _) hb) (h.next hb).s (sig_cells _ _ _ (fun t h => by cases h) (fun t h => by cases h)) (off14 wy A 2 _), strs_off h1 (h.next hb).s (sig_cells _ _ _ (fun t h => by cases h) (fun t h => by cases h)) (off14 wy A 2 _), h2⟩)
  have HPA2 := Lib.hid (fun wy (h : wy.cell? ⟨A, 0, none⟩ = some (.pointer (some ⟨b, 0, none⟩)) ∧ wy.cell? ⟨A + 4, 0, none⟩ = some (.int .u64 (k : Int)) ∧ wy.cell? ⟨b, 3, none⟩ = some (.pointer (some ⟨t, 0, none⟩)) ∧ Below wz.heap.size wz wy) => HPA.out wy h.2.2.2)
  have HSW := Lib.hid h
  clear h hp hw hk h3 ht HPA
  go_enter Tryz.func53, Tryz.ntmps53
  go_upto_region 1 with fail
  go_region_with (first
    | (go_at_call 54; with_reducible refine (HPA2.out _ (by with_reducible assumption)).mono ?_; rintro e wa ⟨po, pc, rfl, hpa, hpl, hba⟩; have hSa := HOF.out wa (below_next hS1.2.2.2 hba); have hSS := HSW.out.next hSa.2.2.2; have r0 := (lit_cell hSS.s 2).trans rfl; have f0 := lit_free hSS.s 2; have HSA := Lib.hid (HFI.out wa po pc hSa.2.2.2 hpa hpl); clear hSS hpa hpl))
  all_goals
    clear hSa r0 f0
    go_wp2
    go_ret
    exact ⟨po, pc, rfl, HSA.out⟩
end Go.Proofs.YtmnklonoelpidaaGreatDoor
