/- Layer 14's document: Verify. -/
import Derived.Test.YtmnklonoelpidaaGreatDoorJ35
import Derived.Test.YtmnklonoelpidaaGreatDoorJ34
import Derived.Test.YtmnklonoelpidaaGreatDoorJ33
import Derived.Deep.RegionHeld3
namespace Go.Proofs.YtmnklonoelpidaaGreatDoor
open Go.RowKit

/-- the boxes of what came in -/
structure Vb (w0 : World) (cs ds : Array Value) (wz : World) : Prop where
  o : Below w0.heap.size w0 wz
  x : wz.heap[w0.heap.size]? = some (.cells cs 39 (0, 0))
  y : wz.heap[w0.heap.size + 1]? = some (.cells ds 48 (0, 0))
theorem Vb.next {w0 wz wa : World} {cs ds : Array Value} (h : Vb w0 cs ds wz) (hb : Below wz.heap.size wz wa) : Vb w0 cs ds wa := ⟨h.o.trans (hb.mono h.o.size), (hb.block _ (lit_lt h.x)).trans h.x, (hb.block _ (lit_lt h.y)).trans h.y⟩
theorem Vb.start (w : World) (cs ds : Array Value) : Vb w cs ds ((w.alloc (.cells cs 39)).alloc (.cells ds 48)) := by
  have h := heap_alloc_new (w.alloc (.cells cs 39)) (.cells ds 48)
  rw [World.size_alloc] at h
  exact ⟨below_next (by0 w _) (by0 _ _), lit_old _ (heap_alloc_new w _), h⟩
theorem numOne {wz : World} {X k : Nat} (h : wz.cell? ⟨X, 0, none⟩ = some (.int .u64 (k : Int))) : Nums (some ⟨X, 0, none⟩) [k] wz := .inr ⟨X, 0, rfl, World.block_lt_of_cell? wz _ h, fun i hi => by
  have hi0 : i = 0 := by simp at hi; omega
  subst hi0
  exact h⟩
theorem strOne {wz : World} {X : Nat} {t : (List UInt8)} (h : wz.cell? ⟨X, 0, none⟩ = some (.string ⟨t.toArray⟩)) : Strs (some ⟨X, 0, none⟩) [t] wz := .inr ⟨X, 0, rfl, World.block_lt_of_cell? wz _ h, fun i hi => by
  have hi0 : i = 0 := by simp at hi; omega
  subst hi0
  exact h⟩
theorem recC_len (W : List (List UInt8)) (d : (List UInt8)) : (recC W d).1.length ≤ 32 := by
  by_cases h : d.length = 32
  · by_cases hs : isSig W = true
    · rw [recC_yes h hs]
      show (recF W d).length ≤ 32
      rw [recF]
      exact hashL_len _ _
    · rw [recC_sig h (by simpa using hs)]; exact Nat.zero_le _
  · rw [recC_arg h]; exact Nat.zero_le _
theorem rver_arg (root : (List UInt8)) (wt f l n r : Nat) (d : (List UInt8)) (i : Nat) (wo po : Option Addr) (wl wc pl pc : Nat) (w : World) (h : d.length ≠ 32 ∨ root.length ≠ 32 ∨ l = 0 ∨ n < 1 ∨ 64 < n) : Calls Tryz.prog 25 #[.agg #[.string ⟨root.toArray⟩, .int .u64 (wt : Int), .int .u64 (f : Int), .int .u64 (l : Int), .int .u64 (n : Int)], .int .u64 (r : Int), .string ⟨d.toArray⟩, .agg #[.int .u64 (i : Int), .slice wo wl wc, .slice po pl pc]] w fun e w' => e = .returned (.int .i64 2) ∧ Below w.heap.size w w' := by
  have hV := Vb.start w #[.string ⟨root.toArray⟩, .int .u64 (wt : Int), .int .u64 (f : Int), .int .u64 (l : Int), .int .u64 (n : Int)] #[.int .u64 (i : Int), .slice wo wl wc, .slice po pl pc]
  have HO := Lib.hid hV.o
  have c0 := (lit_cell hV.x 0).trans rfl
  have c3 := (lit_cell hV.x 3).trans rfl
  have c4 := (lit_cell hV.x 4).trans rfl
  clear hV
  by_cases hd : d.length = 32
  · have e1 : (d.length : Int) = 32 := by omega
    by_cases hr : root.length = 32
    · have e2 : (root.length : Int) = 32 := by omega
      by_cases hl : l = 0
      · have e3 : (l : Int) = 0 := by omega
        clear h hd hr hl
        rw [e3] at HO
        go_enter Tryz.func25, Tryz.ntmps25
        go_wp2
        exact bodyPost_ret (v := .int .i64 2) (by simp [results, Tryz.results25, go_sem]) rfl ⟨rfl, HO.out⟩
      · have e3 : ¬ (l : Int) = 0 := by omega
        by_cases hn : n < 1
        · have e4 : (n : Int) < 1 := by omega
          clear h hd hr hl hn
          go_enter Tryz.func25, Tryz.ntmps25
          go_wp2
          exact bodyPost_ret (v := .int .i64 2) (by simp [results, Tryz.results25, go_sem]) rfl ⟨rfl, HO.out⟩
        · have e4 : ¬ (n : Int) < 1 := by omega
          have e5 : (64 : Int) < (n : Int) := by omega
          clear h hd hr hl hn
          go_enter Tryz.func25, Tryz.ntmps25
          go_wp2
          exact bodyPost_ret (v := .int .i64 2) (by simp [results, Tryz.results25, go_sem]) rfl ⟨rfl, HO.out⟩
    · have e2 : ¬ (root.length : Int) = 32 := by omega
      clear h hd hr
      go_enter Tryz.func25, Tryz.ntmps25
      go_wp2
      exact bodyPost_ret (v := .int .i64 2) (by simp [results, Tryz.results25, go_sem]) rfl ⟨rfl, HO.out⟩
  · have e1 : ¬ (d.length : Int) = 32 := by omega
    clear h hd
    go_enter Tryz.func25, Tryz.ntmps25
    go_wp2
    exact bodyPost_ret (v := .int .i64 2) (by simp [results, Tryz.results25, go_sem]) rfl ⟨rfl, HO.out⟩
set_option maxRecDepth 100000 in
set_option maxHeartbeats 8000000 in
theorem rver_rest (root : (List UInt8)) (wt f l n r : Nat) (d : (List UInt8)) (i : Nat) (W P : List (List UInt8)) (wo po : Option Addr) (wcp pc : Nat) (w : World) (hd : d.length = 32) (hrt : root.length = 32) (hl : 0 < l) (hn : 1 ≤ n) (hn2 : n ≤ 64) (hr : r < 18446744073709551616) (hW : Strs wo W w) (hP : Strs po P w) (hpc : P.length ≤ pc) (hPb : (recC W d).2 = 0 → P.length ≤ 100000 ∧ ∀ x ∈ P, x.length ≤ 1000000000) : Calls Tryz.prog 25 #[.agg #[.string ⟨root.toArray⟩, .int .u64 (wt : Int), .int .u64 (f : Int), .int .u64 (l : Int), .int .u64 (n : Int)], .int .u64 (r : Int), .string ⟨d.toArray⟩, .agg #[.int .u64 (i : Int), .slice wo W.length wcp, .slice po P.length pc]] w fun e w' => e = .returned (.int .i64 (verV root f l n r d i W P : Nat)) ∧ Below w.heap.size w w' := by
  have HV := Lib.hid (Vb.start w #[.string ⟨root.toArray⟩, .int .u64 (wt : Int), .int .u64 (f : Int), .int .u64 (l : Int), .int .u64 (n : Int)] #[.int .u64 (i : Int), .slice wo W.length wcp, .slice po P.length pc])
  have e1 : (d.length : Int) = 32 := by omega
  have e2 : (root.length : Int) = 32 := by omega
  have e3 : ¬ (l : Int) = 0 := by omega
  have e4 : ¬ (n : Int) < 1 := by omega
  have e5 : ¬ (64 : Int) < (n : Int) := by omega
  have hver : verV root f l n r d i W P = if (keyF f l n r).2 = false then 16 else if i ≠ (keyF f l n r).1 ∨ (recC W d).2 ≠ 0 then 10 else if (rootV n [(keyF f l n r).1] [numL (keyF f l n r).1 ++ (recC W d).1] P).2 ≠ 0 ∨ (rootV n [(keyF f l n r).1] [numL (keyF f l n r).1 ++ (recC W d).1] P).1 ≠ root then 10 else 0 := if_neg (by omega)
  rw [hver]
  clear hver
  have HK := Lib.hid (fun wz => key_calls f l n r wz hl hr)
  have HRC := Lib.hid (fun wz (hb : Below w.heap.size w wz) => rrecover_any W wo wcp d wz (hW.below (Nat.le_refl _) hb))
  have hrc32 := recC_len W d
  by_cases hk : (keyF f l n r).2 = true
  · rw [if_neg (by rw [hk]; decide)]
    have hkl := keyF_lt (show keyF f l n r = ((keyF f l n r).1, true) by rw [← hk])
    rw [hk] at HK
    generalize (keyF f l n r).1 = k at *
    have hk64 : k < 64 := by omega
    by_cases hi : i = k
    · subst hi
      by_cases hre : (recC W d).2 = 0
      · rw [if_neg (by omega)]
        obtain ⟨hpl, hpb⟩ := hPb hre
        rw [hre] at HRC
        clear hre hPb
        generalize (recC W d).1 = pub at *
        have HRU := Lib.hid (fun wz => rung_calls i pub wz (by omega) (by omega))
        have HRT := Lib.hid (fun (X Y : Nat) wz (hb : Below w.heap.size w wz) (hx : wz.cell? ⟨X, 0, none⟩ = some (.int .u64 (i : Int))) (hy : wz.cell? ⟨Y, 0, none⟩ = some (.string ⟨(numL i ++ pub).toArray⟩)) => show Calls Tryz.prog 64 #[.int .i64 (n : Int), .slice (some ⟨X, 0, none⟩) 1 1, .slice (some ⟨Y, 0, none⟩) 1 1, .slice po P.length pc] wz fun e w' => e = .returned (.tuple #[.string ⟨(rootV n [i] [numL i ++ pub] P).1.toArray⟩, .int .i64 (rootV n [i] [numL i ++ pub] P).2]) ∧ Below wz.heap.size wz w' from
          iroot_any (n : Int) [i] [numL i ++ pub] P (some ⟨X, 0, none⟩) (some ⟨Y, 0, none⟩) po 1 1 pc wz (numOne hx) (strOne hy) (hP.below (Nat.le_refl _) hb) (by simp) (by simp) hpc hpl (fun i hi => by
            have hi0 : i = 0 := by simp at hi; omega
            subst hi0
            show (numL i ++ pub).length ≤ _
            rw [List.length_append, numL_length]; omega) (fun i hi => hpb _ (List.getElem_mem hi)))
        generalize (rootV n [i] [numL i ++ pub] P).1 = rt at *
        generalize (rootV n [i] [numL i ++ pub] P).2 = re at *
        generalize numL i ++ pub = rg at *
        have hn64 : (n : Int) ≤ 64 := by omega
        have hwm : IntKind.i64.wrap (n : Int) = (n : Int) := IntWalk.i64_in _ (by omega)
        clear hd hrt hl hn hn2 hr hW hP hpc hkl hpl hpb hrc32 hk
        go_enter Tryz.func25, Tryz.ntmps25
        have c0 := (lit_cell HV.out.x 0).trans rfl
        have c2 := (lit_cell HV.out.x 2).trans rfl
        have c3 := (lit_cell HV.out.x 3).trans rfl
        have c4 := (lit_cell HV.out.x 4).trans rfl
        go_upto_region 3 with fail
        generalize (w.alloc (.cells #[.string ⟨root.toArray⟩, .int .u64 (wt : Int), .int .u64 (f : Int), .int .u64 (l : Int), .int .u64 (n : Int)] 39)).alloc (.cells #[.int .u64 (i : Int), .slice wo W.length wcp, .slice po P.length pc] 48) = w1 at *
        go_upto_region 6 with (go_at_call 47; with_reducible refine (HK.out _).mono ?_; rintro e w2 ⟨rfl, hw2⟩; have hw2 := hw2.symm; subst hw2)
        clear c0 c2 c3 c4
        have d1 := (lit_cell HV.out.y 1).trans rfl
        go_upto_region 7 with (go_at_call 63; with_reducible refine (HRC.out _ HV.out.o).mono ?_; rintro e w3 ⟨rfl, hb3⟩; have HV3 := Lib.hid (HV.out.next hb3); clear hb3)
        clear d1
        have d0 := (lit_cell HV3.out.y 0).trans rfl
        go_upto_region 9 with fail
        clear d0
        go_cut [12, 13] from 66 (fun s12 s13 wx => s12 = .int .i64 re ∧ s13 = .string ⟨rt.toArray⟩ ∧ Hid (Vb w #[.string ⟨root.toArray⟩, .int .u64 (wt : Int), .int .u64 (f : Int), .int .u64 (l : Int), .int .u64 (n : Int)] #[.int .u64 (i : Int), .slice wo W.length wcp, .slice po P.length pc] wx))
        case first =>
          have HOF := Lib.hid (show ∀ wz, Vb w #[.string ⟨root.toArray⟩, .int .u64 (wt : Int), .int .u64 (f : Int), .int .u64 (l : Int), .int .u64 (n : Int)] #[.int .u64 (i : Int), .slice wo W.length wcp, .slice po P.length pc] wz → (wz.cell? ⟨w.heap.size, 4, none⟩ = some (.int .u64 (n : Int)) ∧ wz.cell? ⟨w.heap.size + 1, 2, none⟩ = some (.slice po P.length pc) ∧ Vb w #[.string ⟨root.toArray⟩, .int .u64 (wt : Int), .int .u64 (f : Int), .int .u64 (l : Int), .int .u64 (n : Int)] #[.int .u64 (i : Int), .slice wo W.length wcp, .slice po P.length pc] wz) from fun wz h => ⟨(lit_cell h.x 4).trans rfl, (lit_cell h.y 2).trans rfl, h⟩)
          have HGET := Lib.hid (show ∀ wz, (wz.cell? ⟨w.heap.size, 4, none⟩ = some (.int .u64 (n : Int)) ∧ wz.cell? ⟨w.heap.size + 1, 2, none⟩ = some (.slice po P.length pc) ∧ Vb w #[.string ⟨root.toArray⟩, .int .u64 (wt : Int), .int .u64 (f : Int), .int .u64 (l : Int), .int .u64 (n : Int)] #[.int .u64 (i : Int), .slice wo W.length wcp, .slice po P.length pc] wz) → Vb w #[.string ⟨root.toArray⟩, .int .u64 (wt : Int), .int .u64 (f : Int), .int .u64 (l : Int), .int .u64 (n : Int)] #[.int .u64 (i : Int), .slice wo W.length wcp, .slice po P.length pc] wz from fun wz h => h.2.2)
          have HRU2 := Lib.hid (fun wz (hv : Vb w #[.string ⟨root.toArray⟩, .int .u64 (wt : Int), .int .u64 (f : Int), .int .u64 (l : Int), .int .u64 (n : Int)] #[.int .u64 (i : Int), .slice wo W.length wcp, .slice po P.length pc] wz) => (HRU.out wz).mono fun e w' (h : e = .returned (.string ⟨rg.toArray⟩) ∧ Below wz.heap.size wz w') => (show e = .returned (.string ⟨rg.toArray⟩) ∧ Below wz.heap.size wz w' ∧ Vb w #[.string ⟨root.toArray⟩, .int .u64 (wt : Int), .int .u64 (f : Int), .int .u64 (l : Int), .int .u64 (n : Int)] #[.int .u64 (i : Int), .slice wo W.length wcp, .slice po P.length pc] w' from ⟨h.1, h.2, hv.next h.2⟩))
          have HRT2 := Lib.hid (fun (X Y : Nat) wz (hv : Vb w #[.string ⟨root.toArray⟩, .int .u64 (wt : Int), .int .u64 (f : Int), .int .u64 (l : Int), .int .u64 (n : Int)] #[.int .u64 (i : Int), .slice wo W.length wcp, .slice po P.length pc] wz) (hx : wz.cell? ⟨X, 0, none⟩ = some (.int .u64 (i : Int))) (hy : wz.cell? ⟨Y, 0, none⟩ = some (.string ⟨rg.toArray⟩)) => (HRT.out X Y wz hv.o hx hy).mono fun e w' (h : e = .returned (.tuple #[.string ⟨rt.toArray⟩, .int .i64 re]) ∧ Below wz.heap.size wz w') => (show e = .returned (.tuple #[.string ⟨rt.toArray⟩, .int .i64 re]) ∧ Vb w #[.string ⟨root.toArray⟩, .int .u64 (wt : Int), .int .u64 (f : Int), .int .u64 (l : Int), .int .u64 (n : Int)] #[.int .u64 (i : Int), .slice wo W.length wcp, .slice po P.length pc] w' from ⟨h.1, hv.next h.2⟩))
          have hS1 := HOF.out _ (HV3.out.next (Below.refl _ _).drew)
          have HAL := Lib.hid (show ∀ (wz : World) (o : Obj), (wz.cell? ⟨w.heap.size, 4, none⟩ = some (.int .u64 (n : Int)) ∧ wz.cell? ⟨w.heap.size + 1, 2, none⟩ = some (.slice po P.length pc) ∧ Vb w #[.string ⟨root.toArray⟩, .int .u64 (wt : Int), .int .u64 (f : Int), .int .u64 (l : Int), .int .u64 (n : Int)] #[.int .u64 (i : Int), .slice wo W.length wcp, .slice po P.length pc] wz) → ((wz.alloc o).cell? ⟨w.heap.size, 4, none⟩ = some (.int .u64 (n : Int)) ∧ (wz.alloc o).cell? ⟨w.heap.size + 1, 2, none⟩ = some (.slice po P.length pc) ∧ Vb w #[.string ⟨root.toArray⟩, .int .u64 (wt : Int), .int .u64 (f : Int), .int .u64 (l : Int), .int .u64 (n : Int)] #[.int .u64 (i : Int), .slice wo W.length wcp, .slice po P.length pc] (wz.alloc o)) from fun wz o h => HOF.out _ (h.2.2.next (by0 wz o)))
          have a1 : ∀ o, ((w3.alloc o).drew.cell? ⟨w.heap.size, 4, none⟩ = some (.int .u64 (n : Int)) ∧ (w3.alloc o).drew.cell? ⟨w.heap.size + 1, 2, none⟩ = some (.slice po P.length pc) ∧ Vb w #[.string ⟨root.toArray⟩, .int .u64 (wt : Int), .int .u64 (f : Int), .int .u64 (l : Int), .int .u64 (n : Int)] #[.int .u64 (i : Int), .slice wo W.length wcp, .slice po P.length pc] (w3.alloc o).drew) := fun o => HOF.out _ ((HV3.out.next (by0 w3 o)).next (Below.refl _ _).drew)
          go_region_held3 (fun wz => (wz.cell? ⟨w.heap.size, 4, none⟩ = some (.int .u64 (n : Int)) ∧ wz.cell? ⟨w.heap.size + 1, 2, none⟩ = some (.slice po P.length pc) ∧ Vb w #[.string ⟨root.toArray⟩, .int .u64 (wt : Int), .int .u64 (f : Int), .int .u64 (l : Int), .int .u64 (n : Int)] #[.int .u64 (i : Int), .slice wo W.length wcp, .slice po P.length pc] wz))
            (first | (with_reducible assumption) | (with_reducible exact a1 _) | (with_reducible exact b1 _) | (with_reducible exact HAL.out _ _ (b1 _)))
            (first
              | (go_at_call 39; with_reducible refine (HRU2.out _ ?_).mono ?_; (focus (first | (with_reducible assumption) | (exact HGET.out _ (by with_reducible assumption)) | (with_reducible exact HGET.out _ (a1 _)) | (with_reducible exact HGET.out _ (b1 _)) | (with_reducible exact HGET.out _ (HAL.out _ _ (b1 _))))); rintro e wa ⟨rfl, hba, hva⟩; have hSa := HOF.out _ hva; have b1 := fun o => HAL.out wa o hSa; (first | (have kA : wa.cell? ⟨w3.heap.size, 0, none⟩ = some (.int .u64 (i : Int)) := key_keep hba ((cell_drew1 _ _).trans (cell_new1 w3 _ _))) | (have kA : True := trivial)))
              | (go_at_call 64; with_reducible refine (HRT2.out _ _ _ ?_ ?_ ?_).mono ?_; (focus (first | (with_reducible assumption) | (exact HGET.out _ (by with_reducible assumption)) | (with_reducible exact HGET.out _ (a1 _)) | (with_reducible exact HGET.out _ (b1 _)) | (with_reducible exact HGET.out _ (HAL.out _ _ (b1 _))))); (focus (first | (exact key_keep (by0 _ _) kA) | (exact cell_old1 _ _ _ _) | (exact cell_new2 _ _ _ _) | (exact cell_new1 _ _ _))); (focus (first | (exact cell_new1 _ _ _) | (exact cell_new2 _ _ _ _) | (exact cell_old1 _ _ _ _))); rintro e wb ⟨rfl, hvb⟩; have hSb := HOF.out _ hvb))
          all_goals
            have HF := Lib.hid hSb.2.2
            go_wp2
            go_meet
            exact ⟨rfl, rfl, HF⟩
        case rest =>
          obtain ⟨rfl, rfl, HVC⟩ := hcut
          have r0 := (lit_cell HVC.out.x 0).trans rfl
          clear HRC HRU HRT HK
          by_cases h1 : re = 0
          · by_cases h2 : rt = root
            · have h3 : (rt == root) = true := by simpa using h2
              subst h1
              go_wp2
              all_goals exact bodyPost_ret (v := .int .i64 0) (by simp [results, Tryz.results25, go_sem]) rfl ⟨by simp, HVC.out.o⟩
            · have h3 : (rt == root) = false := by simpa using h2
              have H2 := Lib.hid h2
              clear h2
              subst h1
              go_wp2
              all_goals exact bodyPost_ret (v := .int .i64 10) (by simp [results, Tryz.results25, go_sem]) rfl ⟨by simp, HVC.out.o⟩
          · go_wp2
            exact bodyPost_ret (v := .int .i64 10) (by simp [results, Tryz.results25, go_sem]) rfl ⟨by simp, HVC.out.o⟩
      · obtain ⟨e2, he2⟩ : ∃ e2, (recC W d).2 = e2 := ⟨_, rfl⟩
        rw [he2] at HRC
        have he0 : ¬ (e2 : Int) = 0 := by omega
        have HE := Lib.hid (show (if i ≠ i ∨ (recC W d).2 ≠ 0 then 10 else if (rootV n [i] [numL i ++ (recC W d).1] P).2 ≠ 0 ∨ (rootV n [i] [numL i ++ (recC W d).1] P).1 ≠ root then 10 else 0) = 10 from if_pos (.inr hre))
        rw [HE.out]
        generalize (recC W d).1 = pub at *
        clear HE hre he2 hPb hd hrt hl hn hn2 hr hW hP hpc hkl hrc32 hk
        go_enter Tryz.func25, Tryz.ntmps25
        have c0 := (lit_cell HV.out.x 0).trans rfl
        have c2 := (lit_cell HV.out.x 2).trans rfl
        have c3 := (lit_cell HV.out.x 3).trans rfl
        have c4 := (lit_cell HV.out.x 4).trans rfl
        go_upto_region 3 with fail
        generalize (w.alloc (.cells #[.string ⟨root.toArray⟩, .int .u64 (wt : Int), .int .u64 (f : Int), .int .u64 (l : Int), .int .u64 (n : Int)] 39)).alloc (.cells #[.int .u64 (i : Int), .slice wo W.length wcp, .slice po P.length pc] 48) = w1 at *
        go_upto_region 6 with (go_at_call 47; with_reducible refine (HK.out _).mono ?_; rintro e w2 ⟨rfl, hw2⟩; have hw2 := hw2.symm; subst hw2)
        clear c0 c2 c3 c4
        have d1 := (lit_cell HV.out.y 1).trans rfl
        go_upto_region 7 with (go_at_call 63; with_reducible refine (HRC.out _ HV.out.o).mono ?_; rintro e w3 ⟨rfl, hb3⟩; have HV3 := Lib.hid (HV.out.next hb3); clear hb3)
        clear d1
        have d0 := (lit_cell HV3.out.y 0).trans rfl
        go_wp2
        exact bodyPost_ret (v := .int .i64 10) (by simp [results, Tryz.results25, go_sem]) rfl ⟨rfl, HV3.out.o⟩
    · have hii : ¬ (i : Int) = (k : Int) := by omega
      have HE := Lib.hid (show (if i ≠ k ∨ (recC W d).2 ≠ 0 then 10 else if (rootV n [k] [numL k ++ (recC W d).1] P).2 ≠ 0 ∨ (rootV n [k] [numL k ++ (recC W d).1] P).1 ≠ root then 10 else 0) = 10 from if_pos (.inl hi))
      rw [HE.out]
      generalize (recC W d).1 = pub at *
      generalize (recC W d).2 = e2 at *
      clear HE hi hPb hd hrt hl hn hn2 hr hW hP hpc hkl hrc32 hk
      go_enter Tryz.func25, Tryz.ntmps25
      have c0 := (lit_cell HV.out.x 0).trans rfl
      have c2 := (lit_cell HV.out.x 2).trans rfl
      have c3 := (lit_cell HV.out.x 3).trans rfl
      have c4 := (lit_cell HV.out.x 4).trans rfl
      go_upto_region 3 with fail
      generalize (w.alloc (.cells #[.string ⟨root.toArray⟩, .int .u64 (wt : Int), .int .u64 (f : Int), .int .u64 (l : Int), .int .u64 (n : Int)] 39)).alloc (.cells #[.int .u64 (i : Int), .slice wo W.length wcp, .slice po P.length pc] 48) = w1 at *
      go_upto_region 6 with (go_at_call 47; with_reducible refine (HK.out _).mono ?_; rintro e w2 ⟨rfl, hw2⟩; have hw2 := hw2.symm; subst hw2)
      clear c0 c2 c3 c4
      have d1 := (lit_cell HV.out.y 1).trans rfl
      go_upto_region 7 with (go_at_call 63; with_reducible refine (HRC.out _ HV.out.o).mono ?_; rintro e w3 ⟨rfl, hb3⟩; have HV3 := Lib.hid (HV.out.next hb3); clear hb3)
      clear d1
      have d0 := (lit_cell HV3.out.y 0).trans rfl
      go_wp2
      exact bodyPost_ret (v := .int .i64 10) (by simp [results, Tryz.results25, go_sem]) rfl ⟨rfl, HV3.out.o⟩
  · have hk2 : (keyF f l n r).2 = false := by simpa using hk
    rw [if_pos hk2]
    rw [hk2] at HK
    generalize (keyF f l n r).1 = k at *
    clear hk hk2 hPb hd hrt hl hn hn2 hr hW hP hpc hrc32 HRC
    go_enter Tryz.func25, Tryz.ntmps25
    have c0 := (lit_cell HV.out.x 0).trans rfl
    have c2 := (lit_cell HV.out.x 2).trans rfl
    have c3 := (lit_cell HV.out.x 3).trans rfl
    have c4 := (lit_cell HV.out.x 4).trans rfl
    go_upto_region 3 with fail
    generalize (w.alloc (.cells #[.string ⟨root.toArray⟩, .int .u64 (wt : Int), .int .u64 (f : Int), .int .u64 (l : Int), .int .u64 (n : Int)] 39)).alloc (.cells #[.int .u64 (i : Int), .slice wo W.length wcp, .slice po P.length pc] 48) = w1 at *
    go_wp2_with (go_at_call 47; with_reducible refine (HK.out _).mono ?_; rintro e w2 ⟨rfl, hw2⟩; have hw2 := hw2.symm; subst hw2)
    exact bodyPost_ret (v := .int .i64 16) (by simp [results, Tryz.results25, go_sem]) rfl ⟨rfl, HV.out.o⟩
theorem rverify_any (root : (List UInt8)) (wt f l n r : Nat) (d : (List UInt8)) (i : Nat) (W P : List (List UInt8)) (wo po : Option Addr) (wc pc : Nat) (w : World) (hr : r < 18446744073709551616) (hW : Strs wo W w) (hP : Strs po P w) (hpc : P.length ≤ pc) (hPb : (recC W d).2 = 0 → P.length ≤ 100000 ∧ ∀ x ∈ P, x.length ≤ 1000000000) : Calls Tryz.prog 25 #[.agg #[.string ⟨root.toArray⟩, .int .u64 (wt : Int), .int .u64 (f : Int), .int .u64 (l : Int), .int .u64 (n : Int)], .int .u64 (r : Int), .string ⟨d.toArray⟩, .agg #[.int .u64 (i : Int), .slice wo W.length wc, .slice po P.length pc]] w fun e w' => e = .returned (.int .i64 (verV root f l n r d i W P : Nat)) ∧ Below w.heap.size w w' := by
  by_cases h : d.length ≠ 32 ∨ root.length ≠ 32 ∨ l = 0 ∨ n < 1 ∨ 64 < n
  · rw [ver_arg h]
    exact rver_arg root wt f l n r d i wo po W.length wc P.length pc w h
  · exact rver_rest root wt f l n r d i W P wo po wc pc w (by omega) (by omega) (by omega) (by omega) (by omega) hr hW hP hpc hPb
end Go.Proofs.YtmnklonoelpidaaGreatDoor
