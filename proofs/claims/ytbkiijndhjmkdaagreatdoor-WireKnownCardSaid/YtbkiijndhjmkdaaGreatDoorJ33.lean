/- list[Reveal]$3: Reveals that are read. -/
import Derived.Test.YtbkiijndhjmkdaaGreatDoorJ32
namespace Go.Proofs.YtbkiijndhjmkdaaGreatDoor
open Go.RowKit

/-- Reveals in a row, and their own lists -/
def RelR (B rb : Nat) (l : List RevR) (xs : List Value) (w : World) : Prop := ∃ ys : List RevE, l = ys.map (·.r) ∧ xs = ys.flatMap revQ ∧ ∀ y ∈ ys, OwnS B rb rb y.wa y.wc y.r.slot.sig.wots w ∧ OwnS B rb rb y.pa y.pc y.r.slot.sig.path w
theorem RelR.only {B rb : Nat} {l : List RevR} {xs : List Value} {w w' : World} (h : RelR B rb l xs w) (ho : Only rb w w') : RelR B rb l xs w' := by
  obtain ⟨ys, h1, h2, h3⟩ := h
  exact ⟨ys, h1, h2, fun y hy => ⟨(h3 y hy).1.next (Duo.only ho), (h3 y hy).2.next (Duo.only ho)⟩⟩
theorem OwnS.carry {B B' rb cp : Nat} {ao : Option Addr} {L : List (List UInt8)} {w w' : World} (h : OwnS B' rb rb ao cp L w) (hB : B ≤ B') (hs : w.heap.size ≤ w'.heap.size) (hk : ∀ k, B' ≤ k → k < w.heap.size → k ≠ rb → (∃ s, w.cell? ⟨k, 0, none⟩ = some (.string s)) → w'.heap[k]? = w.heap[k]?) : OwnS B rb rb ao cp L w' := by
  rcases h with h | ⟨b, h0, h1, h2, h3, h4, h5, h6⟩
  · exact .inl h
  · have hl : 0 < L.length := List.length_pos_iff.2 h0
    have hb := hk b h2 h5 h3 ⟨_, h6 0 hl⟩
    exact .inr ⟨b, h0, h1, by omega, h3, h4, by omega, fun i hi => (World.cell?_of_block (a := ⟨b, i, none⟩) hb).trans (h6 i hi)⟩
theorem RelR.step {B rb t o N : Nat} {T : TypeId} {l : List RevR} {xs : List Value} {v v6 : Value} {w8 w4 w6 : World} {obj : Obj} {y : RevE} (h : RelR B rb l xs w8) (he : Emp l v) (hOW : w8.ownsRow N T 11 v l.length xs) (ho4 : Only rb w8 w4) (hB : t < B ∧ B ≤ w8.heap.size ∧ rb < N) (h1 : OwnS w8.heap.size rb rb y.wa y.wc y.r.slot.sig.wots w4) (h2 : OwnS w8.heap.size rb rb y.pa y.pc y.r.slot.sig.path w4) (hg : (w4.alloc obj).grownBy w6 v.ownBlock) : RelR B rb (l ++ [y.r]) (xs ++ revQ y) (w6.setCell ⟨t, o, none⟩ v6) := by
  have hlt := hOW.lt
  obtain ⟨ys, rfl, rfl, hys⟩ := h
  have hs6 : w4.heap.size ≤ (w6.setCell ⟨t, o, none⟩ v6).heap.size := by have := hg.size; rw [World.size_alloc] at this; simp [World.setCell]; omega
  have keep : ∀ k, B ≤ k → k < w4.heap.size → some k ≠ v.ownBlock → (w6.setCell ⟨t, o, none⟩ v6).heap[k]? = w4.heap[k]? := fun k hk hk4 hne => (lit_far v6 (by omega)).trans ((hg.block k (by rw [World.size_alloc]; omega) hne).trans (heap_alloc_old _ _ hk4))
  have old : ∀ k, (∃ s, w4.cell? ⟨k, 0, none⟩ = some (.string s)) → some k ≠ v.ownBlock := by
    rintro k ⟨s, hs⟩ hk
    obtain ⟨hn, ⟨rfl, _⟩ | ⟨g, cap, cur, rfl, hb, hg0, hc1, hc2, hc3, hc4⟩⟩ := hOW
    · cases hk
    · cases hk
      cases ys with
      | nil => have := he rfl; cases this
      | cons z zs =>
        rw [World.cell?_of_block (a := ⟨g, 0, none⟩) (ho4.block g (lit_lt hg0) (by omega)), lit_cell hg0] at hs
        have e : (cur.toList.take (((z :: zs).map (·.r)).length * 11))[0]? = some (.string s) := by
          rw [List.getElem?_take_of_lt (by simp), Array.getElem?_toList]; exact hs
        rw [hc4, List.flatMap_cons] at e
        cases e
  refine ⟨ys ++ [y], by simp, by simp, fun z hz => ?_⟩
  rcases List.mem_append.1 hz with hz | hz
  · obtain ⟨k1, k2⟩ := hys z hz
    exact ⟨(k1.next (Duo.only ho4)).carry (Nat.le_refl _) hs6 fun k hk hk4 _ hst => keep k hk hk4 (old k hst), (k2.next (Duo.only ho4)).carry (Nat.le_refl _) hs6 fun k hk hk4 _ hst => keep k hk hk4 (old k hst)⟩
  · obtain rfl := List.mem_singleton.1 hz
    have new : ∀ k, w8.heap.size ≤ k → some k ≠ v.ownBlock := fun k hk e => by have := (hlt k e.symm).2; omega
    exact ⟨h1.carry hB.2.1 hs6 fun k hk hk4 _ _ => keep k (by omega) hk4 (new k hk), h2.carry hB.2.1 hs6 fun k hk hk4 _ _ => keep k (by omega) hk4 (new k hk)⟩
theorem rev_new (w : World) (y : RevE) (T : TypeId) : ∀ (j : Nat) (u : Value), (revQ y)[j]? = some u → (w.alloc (.cells (revQ y).toArray T)).cell? ((⟨w.heap.size, 0, none⟩ : Addr).add j) = some u := by
  intro j u hj
  rw [Addr.add_mid, Nat.zero_add, lit_cell (heap_alloc_new w _), List.getElem?_toArray]
  exact hj
theorem rev_one (y : RevE) : ∀ u ∈ revQ y, u.oneCell' = true := by
  intro u hu
  simp only [revQ, List.mem_cons, List.not_mem_nil, or_false] at hu
  rcases hu with rfl | rfl | rfl | rfl | rfl | rfl | rfl | rfl | rfl | rfl | rfl <;> rfl
theorem infoRev : ∃ i0, Tryz.prog.info? 93 = some i0 ∧ i0.zero = some (.agg #[.int .u64 0, .int .u64 0, .bool false, .int .u64 0, .slice none 0 0, .slice none 0 0, .string ⟨#[]⟩, .int .u64 0, .int .u64 0, .int .u64 0, .int .u64 0]) ∧ i0.size = 11 ∧ i0.bytes = 128 := info_parts (by kernel_rfl)

set_option maxRecDepth 100000 in
set_option maxHeartbeats 4000000 in
theorem listR3_any (ka km kr t o rb F most : Nat) (C : Array Value) (T : TypeId) (cs0 : Array Value) (g : (List UInt8) → Nat → Res RevR) (S : (List UInt8)) (a : Nat) (w : World) (hent : Ent F) (hR : RdS rb S a w) (hka : Cap ka t o w) (hkm : w.cell? ⟨km, 0, none⟩ = some (.int .i64 (most : Int))) (hkr : w.cell? ⟨kr, 0, none⟩ = some (.func (.func F) #[] C))
    (ht : w.heap[t]? = some (.cells cs0 T (0, 0))) (ho : cs0[o]? = some (.slice none 0 0)) (hne : ka ≠ rb ∧ ka ≠ t ∧ kr ≠ rb ∧ kr ≠ t ∧ km ≠ rb ∧ t ≠ rb) (hG : 4 ≤ rb ∧ 4 ≤ t) (hm : most ≤ 10240) (B : Nat) (hB : t < B ∧ B ≤ w.heap.size + 1)
    (hE : ∀ a w1, Duo rb t w w1 → RdS rb S a w1 → Calls Tryz.prog F (#[.agg #[.pointer (some ⟨rb, 0, none⟩)]] ++ C) w1 (ERdR rb S a w1 (g (S.drop a) a))) :
    Calls Tryz.prog 202 #[.agg #[.pointer (some ⟨rb, 0, none⟩)], .pointer (some ⟨km, 0, none⟩), .pointer (some ⟨ka, 0, none⟩), .pointer (some ⟨kr, 0, none⟩)] w (LRd 93 11 (RelR B rb) rb t o S a T cs0 w (lraw most g (S.drop a) a)) := by
  have hka0 : ka < w.heap.size := World.block_lt_of_cell? w _ hka
  have hkm0 : km < w.heap.size := World.block_lt_of_cell? w _ hkm
  have hkr0 : kr < w.heap.size := World.block_lt_of_cell? w _ hkr
  have ht0 : t < w.heap.size := lit_lt ht
  have hrb0 := hR.lt
  have h1 := hR.next (by0 w (.cells #[.pointer (some ⟨rb, 0, none⟩)] 158))
  obtain ⟨P, hP⟩ : ∃ P, takeP (S.drop a) 10240 3 = P := ⟨_, rfl⟩
  obtain ⟨hT, hfit, haP⟩ := took4 S a 3 hR.a P hP
  have h0 := reader_c.list rb S a 10240 _ h1.r h1.g h1.s h1.a
  rw [hP] at h0
  have HM := Lib.hid h0
  have HB1 := Lib.hid (by0 w (.cells #[.pointer (some ⟨rb, 0, none⟩)] 158))
  have HN := Lib.hid (heap_alloc_new w (.cells #[.pointer (some ⟨rb, 0, none⟩)] 158))
  have hkm1 := (World.cell?_alloc_lt w (.cells #[.pointer (some ⟨rb, 0, none⟩)] 158) ⟨km, 0, none⟩ hkm0).trans hkm
  have HAP : Hid (Apart ka kr t rb w.heap.size) := Lib.hid ⟨⟨hne.1, hne.2.1⟩, ⟨hne.2.2.1, hne.2.2.2.1⟩, by omega, hne.2.2.2.2.2⟩
  have HL1 : Hid (LAt ka kr t o rb w.heap.size F C (w.alloc (.cells #[.pointer (some ⟨rb, 0, none⟩)] 158))) := Lib.hid ⟨(World.cell?_alloc_lt w _ ⟨ka, 0, none⟩ hka0).trans hka, (World.cell?_alloc_lt w _ ⟨kr, 0, none⟩ hkr0).trans hkr, (lit_cell HN.out 0).trans rfl, by simp; omega⟩
  have HT1 : Hid ((w.alloc (.cells #[.pointer (some ⟨rb, 0, none⟩)] 158)).heap[t]? = some (.cells cs0 T (0, 0))) := Lib.hid (lit_old _ ht)
  have HS1 := Lib.hid h1
  have HLO0 : Hid (ka < w.heap.size ∧ kr < w.heap.size ∧ t < w.heap.size ∧ rb < w.heap.size) := Lib.hid ⟨hka0, hkr0, ht0, hrb0⟩
  have HKM : Hid (km ≠ rb) := Lib.hid hne.2.2.2.2.1
  have HKML : Hid (km < w.heap.size + 1) := Lib.hid (by omega)
  have HCS : Hid (cs0 = cs0.setIfInBounds o (.slice none 0 0)) := Lib.hid (by
    apply Array.ext_getElem?
    intro j
    rw [Array.getElem?_setIfInBounds]
    split
    · rename_i h; subst h
      rw [ho, if_pos (Array.getElem?_eq_some_iff.1 ho).1]
    · rfl)
  have HLT : Hid (o < cs0.size) := Lib.hid (Array.getElem?_eq_some_iff.1 ho).1
  have HENT := Lib.hid hent
  have HE := Lib.hid hE
  have HGL := Lib.hid hG
  have HBB := Lib.hid hB
  clear hB
  have HPM := Lib.hid haP
  have hnl := hfit.n16 (by decide)
  have hal := hR.a
  have HSL := Lib.hid hR.s
  obtain ⟨N, hN⟩ : ∃ N, w.heap.size = N := ⟨_, rfl⟩
  obtain ⟨wA, hwA⟩ : ∃ wA, w.alloc (.cells #[.pointer (some ⟨rb, 0, none⟩)] 158) = wA := ⟨_, rfl⟩
  have HSA : Hid (wA.heap.size = N + 1) := Lib.hid (by rw [← hwA, World.size_alloc, hN])
  rw [hwA] at HM HB1 HN HL1 HT1 HS1 hkm1
  rw [hN] at HN HAP HL1 HKML HLO0
  have HLO : Hid (ka < N ∧ kr < N ∧ t < N ∧ rb < N) := HLO0
  clear HLO0
  have HNN := Lib.hid hN
  have HWA := Lib.hid hwA
  rw [lraw, hT]
  have n0 := (lit_cell HN.out 0).trans rfl
  clear h1 h0 hP hT hfit haP hR hka hkm hkr ht ho hne hE hG hka0 hkm0 hkr0 ht0 hrb0 hN hwA hent
  by_cases hc : P.c = 0
  · rw [if_pos hc]
    simp only
    obtain ⟨n, hn0⟩ : ∃ n, P.n = n := ⟨_, rfl⟩
    obtain ⟨k0, hk0⟩ : ∃ k0, P.m = k0 := ⟨_, rfl⟩
    rw [hn0, hk0, hc] at HM
    rw [hn0] at hnl
    rw [hk0] at HPM
    rw [hn0, hk0, List.drop_drop]
    have n1 : (n : Int) < 65536 := by omega
    have m1 : (most : Int) ≤ 10240 := by omega
    clear hn0 hk0 hc
    by_cases hmn : most < n
    · rw [if_pos hmn]
      have hle : decide (n ≤ most) = false := decide_eq_false (by omega)
      go_enter Tryz.func202, Tryz.ntmps202
      go_upto_region 1 with fail
      rw [HWA.out, HNN.out]
      go_wp2_with (first | (go_at_call 196; refine HM.out.mono ?_; rintro e w2 ⟨v, rfl, hv, hr2, ho2⟩; obtain rfl := hv.nil rfl; have km2 := (World.cell?_of_block (a := ⟨km, 0, none⟩) (ho2.block km (by have := HKML.out; have := HSA.out; omega) HKM.out)).trans hkm1) | (go_at_call 145; refine (sureI_ok _ w2).mono ?_; rintro e w2 ⟨rfl, rfl⟩) | (go_at_call 151; refine (must_no 3 w2).mono ?_; rintro e w3 ⟨⟨f, hf, rfl, hf0, hf1⟩, hb3⟩))
      exact ⟨rfl, by decide, ⟨f, by have := HB1.out.size; have := ho2.size; omega, rfl, hf0, hf1⟩, ((Duo.below HB1.out).trans (Duo.only ho2)).trans (Duo.below hb3), [], .slice none 0 0, [], ((hb3.block t (by have := HL1.out.l; have := ho2.size; omega)).trans ((ho2.block t HL1.out.l.2.2.2 HAP.out.t).trans HT1.out)).trans (by rw [← HCS.out]), World.ownsRow_nil _ _ _ _, ⟨[], rfl, rfl, fun _ h => by cases h⟩, fun _ => rfl⟩
    · rw [if_neg hmn]
      have hle : decide (n ≤ most) = true := decide_eq_true (by omega)
      obtain ⟨M, hM⟩ : ∃ M, app [] k0 (manyG g n (S.drop (a + k0)) (a + k0)) = M := ⟨_, rfl⟩
      rw [hM]
      have HMM := Lib.hid hM
      have HNM : Hid (n ≤ 10240) := Lib.hid (by omega)
      clear hM
      obtain ⟨i0, hi, hz, hs, hby⟩ := infoRev
      go_enter Tryz.func202, Tryz.ntmps202
      go_upto_region 1 with fail
      rw [HWA.out, HNN.out]
      go_upto_region 4 with (first | (go_at_call 196; refine HM.out.mono ?_; rintro e w2 ⟨v, rfl, hv, hr2, ho2⟩; obtain rfl := hv.nil rfl; have km2 := (World.cell?_of_block (a := ⟨km, 0, none⟩) (ho2.block km (by have := HKML.out; have := HSA.out; omega) HKM.out)).trans hkm1; have HO2 := Lib.hid ho2; have HR2 := Lib.hid hr2; clear ho2 hr2) | (go_at_call 145; refine (sureI_ok _ w2).mono ?_; rintro e w2 ⟨rfl, rfl⟩) | (go_at_call 151; refine (must_yes 3 w2).mono ?_; rintro e w2 ⟨rfl, rfl⟩))
      have HD2 : Hid (Duo rb t w w2) := Lib.hid ((Duo.below HB1.out).trans (Duo.only HO2.out))
      have HST2 : Hid (LSt 93 11 (RelR B rb) ka kr t o rb N F C (N + 1) T cs0 S (a + k0) [] w w2) := Lib.hid ⟨HL1.out.only HO2.out HAP.out, ⟨.slice none 0 0, [], ((HO2.out.block t HL1.out.l.2.2.2 HAP.out.t).trans HT1.out).trans (by rw [← HCS.out]), World.ownsRow_nil _ _ _ _, ⟨[], rfl, rfl, fun _ h => by cases h⟩, fun _ => rfl⟩, ⟨HR2.out, HS1.out.g.duo (Duo.only (x := t) HO2.out) HGL.out.1 HGL.out.2, HSL.out, HPM.out⟩, HD2.out, by have := HO2.out.size; have := HSA.out; omega⟩
      clear n0 km2 hkm1 hnl hal HS1 HT1 HL1 HR2
      go_loopw [17] (fun iv wr => ∃ i m : Nat, ∃ l : List RevR, ∃ d : Nat, i + m = n ∧ iv = .int .i64 (i : Int) ∧ Hid (l.length = i ∧ LSt 93 11 (RelR B rb) ka kr t o rb N F C (N + 1) T cs0 S (a + d) l w wr) ∧ Hid (M = app l d (manyG g m (S.drop (a + d)) (a + d)))) (fun iv _ => (n : Int).toNat - (intOf iv).toNat)
      case atStart => exact ⟨0, n, [], k0, by omega, rfl, Lib.hid ⟨rfl, HST2.out⟩, Lib.hid HMM.out.symm⟩
      case round =>
        obtain ⟨i, m, l, d, him, rfl, HST, HEQ⟩ := hrel
        by_cases hm0 : m = 0
        · subst hm0
          obtain rfl : i = n := by omega
          have hl : ¬ (i : Int) < (i : Int) := by omega
          have HE2 : Hid (M = .ok (l, d)) := Lib.hid (by rw [HEQ.out]; simp [manyG, app])
          go_wp2
          refine bodyPost_end (results_none rfl _ _ _) rfl ?_
          rw [HE2.out]
          obtain ⟨v, xs, hv1, hv2, hv3⟩ := HST.out.2.h
          exact ⟨rfl, ⟨v, xs, hv1, by rw [HNN.out]; exact hv2, hv3⟩, HST.out.2.s.r, HST.out.2.s.a, HST.out.2.d⟩
        · obtain ⟨m', rfl⟩ : ∃ m', m = m' + 1 := ⟨m - 1, by omega⟩
          have hl : (i : Int) < (n : Int) := by omega
          have j0 : (0 : Int) ≤ (i : Int) := by omega
          have hi10 : (i : Int) < 10240 := by have := HNM.out; omega
          have hEQ2 := HEQ.out
          rw [manyG_step] at hEQ2
          go_upto_region 5 with fail
          have hH8 : LAt ka kr t o rb N F C wr.drew := HST.out.2.la.below (Below.refl _ _).drew
          have HD8 : Hid (Duo rb t w wr.drew) := Lib.hid (HST.out.2.d.trans (Duo.below (Below.refl _ _).drew))
          have HR8 := Lib.hid (HST.out.2.s.next (Below.refl _ _).drew)
          obtain ⟨v, xs, hv1, hv2, hv3⟩ := HST.out.2.h
          have HREL : Hid (RelR B rb l xs wr.drew) := Lib.hid (hv3.1.only (Only.of_below (Below.refl _ _).drew))
          have HEMP := Lib.hid hv3.2
          have HB0 : Hid (wr.drew.heap[t]? = some (.cells (cs0.setIfInBounds o v) T (0, 0))) := Lib.hid hv1
          have HOW : Hid (wr.drew.ownsRow (N + 1) 93 11 v l.length xs) := Lib.hid hv2
          have HLL : Hid (l.length < 10240) := Lib.hid (by have := HST.out.1; have := HNM.out; omega)
          have HBS : Hid (N + 1 ≤ wr.heap.size) := Lib.hid HST.out.2.b
          have HSZ8 : Hid (wr.drew.heap.size = wr.heap.size) := Lib.hid rfl
          have HLI := Lib.hid HST.out.1
          have HEL := Lib.hid (HE.out (a + d) wr.drew HD8.out HR8.out)
          refine wp_region_held_drew (S := fun w' => LAt ka kr t o rb N F C w') (by kernel_rfl) hH8 (fun hH => ?_)
          generalize wr.drew = w8 at *
          clear hv1 hv2 hv3 hH8 hm0
          cases hg : g (S.drop (a + d)) (a + d) with
          | error f =>
            obtain ⟨c, b⟩ := f
            rw [hg] at hEQ2 HEL
            have HBAD : Hid (∀ w4 f, w8.heap.size ≤ f → w4.cell? ⟨f, 0, none⟩ = some (.int .i64 (c : Int)) → w4.cell? ⟨f, 1, none⟩ = some (.int .i64 (b : Int)) → Only rb w8 w4 → c ≠ 0 → LRd 93 11 (RelR B rb) rb t o S a T cs0 w M (upF f) w4) := Lib.hid fun w4 f hf hf0 hf1 ho4 hc => by
              rw [hEQ2]
              exact ⟨hc, ⟨f, Nat.le_trans HD8.out.size hf, rfl, hf0, hf1⟩, HD8.out.trans (Duo.only ho4), l, v, xs, (ho4.block t hH.l.2.2.2 HAP.out.t).trans HB0.out, by rw [HNN.out]; exact own_only HOW.out ho4 (by have := HLO.out; omega), (HREL.out.only ho4), HEMP.out⟩
            clear hg hEQ2
            refine wpAnyH_take (i := 0) (oi := ⟨some 19, .load 198 (.tmp 2), _, _, _, none⟩) (v := .pointer (some ⟨t, o, none⟩)) rfl (by kernel_rfl) (by kernel_rfl) (by kernel_rfl) (fun _ _ _ h => h) (Or.inl ⟨by rfl, fun w hS => by have c0 := hS.a; go_simp⟩) hH ?_
            try simp only [Act.put, List.setIfInBounds_toArray, List.set_cons_succ, List.set_cons_zero]
            refine wpAnyH_take (i := 1) (oi := ⟨some 20, .load 198 (.tmp 2), _, _, _, none⟩) (v := .pointer (some ⟨t, o, none⟩)) rfl (by kernel_rfl) (by kernel_rfl) (by kernel_rfl) (fun _ _ _ h => h) (Or.inl ⟨by rfl, fun w hS => by have c0 := hS.a; go_simp⟩) hH ?_
            try simp only [Act.put, List.setIfInBounds_toArray, List.set_cons_succ, List.set_cons_zero]
            refine wpAnyH_take (i := 2) (oi := ⟨some 21, .nilCheck (.tmp 20), _, _, _, none⟩) (v := .pointer (some ⟨t, o, none⟩)) rfl (by kernel_rfl) (by kernel_rfl) (by kernel_rfl) (fun _ _ _ h => h) (Or.inl ⟨by rfl, fun _ _ => rfl⟩) hH ?_
            try simp only [Act.put, List.setIfInBounds_toArray, List.set_cons_succ, List.set_cons_zero]
            refine wpAnyH_take (i := 4) (oi := ⟨some 23, .load 260 (.tmp 3), _, _, _, none⟩) (v := .func (.func F) #[] C) rfl (by kernel_rfl) (by kernel_rfl) (by kernel_rfl) (fun _ _ _ h => h) (Or.inl ⟨by rfl, fun w hS => by have c0 := hS.r; go_simp⟩) hH ?_
            try simp only [Act.put, List.setIfInBounds_toArray, List.set_cons_succ, List.set_cons_zero]
            refine wpAnyH_take (i := 5) (oi := ⟨some 24, .load 158 (.tmp 4), _, _, _, none⟩) (v := .agg #[.pointer (some ⟨rb, 0, none⟩)]) rfl (by kernel_rfl) (by kernel_rfl) (by kernel_rfl) (fun _ _ _ h => h) (Or.inl ⟨by rfl, fun w hS => by have c0 := hS.n; go_simp⟩) hH ?_
            try simp only [Act.put, List.setIfInBounds_toArray, List.set_cons_succ, List.set_cons_zero]
            refine wpAnyH_ready (rs := [3, 6]) (by kernel_rfl) (by simp) (AllReadyH.cons (o := ⟨some 22, .load 57 (.tmp 21), _, _, _, none⟩) rfl (fun K hK => ?_) (AllReadyH.cons (o := ⟨some 25, .call ⟨.value (.tmp 23), #[.tmp 24], #[158]⟩, _, _, _, none⟩) rfl (fun K hK => ?_) AllReadyH.nil))
            · skip
              have c3 := (lit_cell HB0.out o).trans (Array.getElem?_setIfInBounds_self_of_lt HLT.out)
              go_simp
              refine hK.out _ _ hH (fun _ => ?_)
              clear hK K c3
              try simp only [Act.put, List.setIfInBounds_toArray, List.set_cons_succ, List.set_cons_zero]
              refine wpAnyH_ready (rs := [6]) (by kernel_rfl) (by simp) (AllReadyH.cons (o := ⟨some 25, .call ⟨.value (.tmp 23), #[.tmp 24], #[158]⟩, _, _, _, none⟩) rfl (fun K hK => ?_) AllReadyH.nil)
              have HK := Lib.hid hK
              clear hK
              have hent := HENT.out
              simp only [Ent] at hent
              go_simp
              refine HEL.out.mono ?_
              rintro e w4 ⟨hc4, ⟨f, hf, rfl, hf0, hf1⟩, ho4⟩
              exact ⟨rfl, HBAD.out _ f hf hf0 hf1 ho4 hc4⟩
            · skip
              have HK := Lib.hid hK
              clear hK
              have hent := HENT.out
              simp only [Ent] at hent
              go_simp
              refine HEL.out.mono ?_
              rintro e w4 ⟨hc4, ⟨f, hf, rfl, hf0, hf1⟩, ho4⟩
              exact ⟨rfl, HBAD.out _ f hf hf0 hf1 ho4 hc4⟩
          | ok q =>
            obtain ⟨x, k⟩ := q
            rw [hg] at hEQ2 HEL
            simp only at hEQ2
            have HE2 : Hid (M = app (l ++ [x]) (d + k) (manyG g m' (S.drop (a + (d + k))) (a + (d + k)))) := Lib.hid (by rw [hEQ2, List.drop_drop, show a + (d + k) = a + d + k by omega])
            have HOWN : Hid (∀ w4, Only rb w8 w4 → ∀ o', (w4.alloc o').ownsRow (N + 1) 93 11 v l.length xs) := Lib.hid fun w4 ho4 o' => (own_only HOW.out ho4 (by have := HLO.out; omega)).alloc o'
            have HBS8 : Hid (N + 1 ≤ w8.heap.size) := Lib.hid (by have := HBS.out; have := HSZ8.out; omega)
            clear hg hEQ2
            refine wpAnyH_take (i := 0) (oi := ⟨some 19, .load 198 (.tmp 2), _, _, _, none⟩) (v := .pointer (some ⟨t, o, none⟩)) rfl (by kernel_rfl) (by kernel_rfl) (by kernel_rfl) (fun _ _ _ h => h) (Or.inl ⟨by rfl, fun w hS => by have c0 := hS.a; go_simp⟩) hH ?_
            try simp only [Act.put, List.setIfInBounds_toArray, List.set_cons_succ, List.set_cons_zero]
            refine wpAnyH_take (i := 1) (oi := ⟨some 20, .load 198 (.tmp 2), _, _, _, none⟩) (v := .pointer (some ⟨t, o, none⟩)) rfl (by kernel_rfl) (by kernel_rfl) (by kernel_rfl) (fun _ _ _ h => h) (Or.inl ⟨by rfl, fun w hS => by have c0 := hS.a; go_simp⟩) hH ?_
            try simp only [Act.put, List.setIfInBounds_toArray, List.set_cons_succ, List.set_cons_zero]
            refine wpAnyH_take (i := 2) (oi := ⟨some 21, .nilCheck (.tmp 20), _, _, _, none⟩) (v := .pointer (some ⟨t, o, none⟩)) rfl (by kernel_rfl) (by kernel_rfl) (by kernel_rfl) (fun _ _ _ h => h) (Or.inl ⟨by rfl, fun _ _ => rfl⟩) hH ?_
            try simp only [Act.put, List.setIfInBounds_toArray, List.set_cons_succ, List.set_cons_zero]
            refine wpAnyH_take (i := 4) (oi := ⟨some 23, .load 260 (.tmp 3), _, _, _, none⟩) (v := .func (.func F) #[] C) rfl (by kernel_rfl) (by kernel_rfl) (by kernel_rfl) (fun _ _ _ h => h) (Or.inl ⟨by rfl, fun w hS => by have c0 := hS.r; go_simp⟩) hH ?_
            try simp only [Act.put, List.setIfInBounds_toArray, List.set_cons_succ, List.set_cons_zero]
            refine wpAnyH_take (i := 5) (oi := ⟨some 24, .load 158 (.tmp 4), _, _, _, none⟩) (v := .agg #[.pointer (some ⟨rb, 0, none⟩)]) rfl (by kernel_rfl) (by kernel_rfl) (by kernel_rfl) (fun _ _ _ h => h) (Or.inl ⟨by rfl, fun w hS => by have c0 := hS.n; go_simp⟩) hH ?_
            try simp only [Act.put, List.setIfInBounds_toArray, List.set_cons_succ, List.set_cons_zero]
            refine wpAnyH_ready (rs := [3, 6]) (by kernel_rfl) (by simp) (AllReadyH.cons (o := ⟨some 22, .load 57 (.tmp 21), _, _, _, none⟩) rfl (fun K hK => ?_) (AllReadyH.cons (o := ⟨some 25, .call ⟨.value (.tmp 23), #[.tmp 24], #[158]⟩, _, _, _, none⟩) rfl (fun K hK => ?_) AllReadyH.nil))
            · skip
              have c3 := (lit_cell HB0.out o).trans (Array.getElem?_setIfInBounds_self_of_lt HLT.out)
              go_simp
              refine hK.out _ _ hH (fun _ => ?_)
              clear hK K c3
              try simp only [Act.put, List.setIfInBounds_toArray, List.set_cons_succ, List.set_cons_zero]
              refine wpAnyH_ready (rs := [6]) (by kernel_rfl) (by simp) (AllReadyH.cons (o := ⟨some 25, .call ⟨.value (.tmp 23), #[.tmp 24], #[158]⟩, _, _, _, none⟩) rfl (fun K hK => ?_) AllReadyH.nil)
              have HK := Lib.hid hK
              clear hK
              have hent := HENT.out
              simp only [Ent] at hent
              go_simp
              refine HEL.out.mono ?_
              rintro e w4 ⟨⟨y, rfl, rfl, ho1, ho2⟩, hr4, ha4, ho4⟩; have HO1 := Lib.hid ho1; have HO2 := Lib.hid ho2; clear ho1 ho2
              have HL4 := Lib.hid (hH.only ho4 HAP.out)
              have HB4 := Lib.hid ((ho4.block t hH.l.2.2.2 HAP.out.t).trans HB0.out)
              refine HK.out.out _ _ HL4.out (fun _ => ?_)
              clear HK K
              try simp only [Act.put, List.setIfInBounds_toArray, List.set_cons_succ, List.set_cons_zero]
              refine wpAnyH_ready (rs := [7]) (by kernel_rfl) (by simp) (AllReadyH.cons (o := ⟨some 26, .buildSlice 57 1 #[(0, .tmp 25)], _, _, _, none⟩) rfl (fun K hK => ?_) AllReadyH.nil)
              have HL5 := Lib.hid (HL4.out.below (by0 w4 (.cells #[.int .u64 (y.r.pos : Int), .int .u64 (y.r.slot.l : Int), .bool y.r.slot.signed, .int .u64 (y.r.slot.sig.index : Int), .slice y.wa y.r.slot.sig.wots.length y.wc, .slice y.pa y.r.slot.sig.path.length y.pc, .string ⟨y.r.part.root.toArray⟩, .int .u64 (y.r.part.weight : Int), .int .u64 (y.r.part.first : Int), .int .u64 (y.r.part.life : Int), .int .u64 (y.r.part.keys : Int)] 93)))
              have HB5 := Lib.hid (lit_old (w := w4) (.cells #[.int .u64 (y.r.pos : Int), .int .u64 (y.r.slot.l : Int), .bool y.r.slot.signed, .int .u64 (y.r.slot.sig.index : Int), .slice y.wa y.r.slot.sig.wots.length y.wc, .slice y.pa y.r.slot.sig.path.length y.pc, .string ⟨y.r.part.root.toArray⟩, .int .u64 (y.r.part.weight : Int), .int .u64 (y.r.part.first : Int), .int .u64 (y.r.part.life : Int), .int .u64 (y.r.part.keys : Int)] 93) HB4.out)
              go_simp
              refine hK.out _ _ HL5.out (fun _ => ?_)
              clear hK K
              try simp only [Act.put, List.setIfInBounds_toArray, List.set_cons_succ, List.set_cons_zero]
              refine wpAnyH_ready (rs := [8]) (by kernel_rfl) (by simp) (AllReadyH.cons (o := ⟨some 27, .call ⟨.builtin .append, #[.tmp 22, .tmp 26], #[57, 57]⟩, _, _, _, none⟩) rfl (fun K hK => ?_) AllReadyH.nil)
              refine step_append_at rfl (.tmp 22) (.tmp 26) 57 rfl (N + 1) 93 i0 (.agg #[.int .u64 0, .int .u64 0, .bool false, .int .u64 0, .slice none 0 0, .slice none 0 0, .string ⟨#[]⟩, .int .u64 0, .int .u64 0, .int .u64 0, .int .u64 0]) 11 128 Tryz.underlying57 hi hz hs hby rfl (by decide) v l.length xs rfl (HOWN.out w4 ho4 _) ⟨w4.heap.size, 0, none⟩ 1 1 [.int .u64 (y.r.pos : Int), .int .u64 (y.r.slot.l : Int), .bool y.r.slot.signed, .int .u64 (y.r.slot.sig.index : Int), .slice y.wa y.r.slot.sig.wots.length y.wc, .slice y.pa y.r.slot.sig.path.length y.pc, .string ⟨y.r.part.root.toArray⟩, .int .u64 (y.r.part.weight : Int), .int .u64 (y.r.part.first : Int), .int .u64 (y.r.part.life : Int), .int .u64 (y.r.part.keys : Int)] rfl rfl (rev_new w4 y _) (rev_one y) (by have := HLL.out; unfold maxLen; omega) (by have := HLL.out; omega) (by have := HBS.out; have := ho4.size; have := HSZ8.out; rw [World.size_alloc]; omega) ?_
              intro v6 w6 hown6 hg6
              have HT6 := Lib.hid (lst_tail (Rel := (RelR B rb)) (x := y.r) hH HB0.out HD8.out HOW.out HAP.out HLO.out HNN.out HBS8.out ho4 hr4 ha4 HR8.out HGL.out hown6 hg6 (HREL.out.step HEMP.out HOW.out ho4 (by have := HBB.out; have := HNN.out; have := HBS8.out; have := HLO.out; omega) HO1.out HO2.out hg6))
              refine hK.out _ _ HT6.out.1 (fun _ => ?_)
              clear hK K
              try simp only [Act.put, List.setIfInBounds_toArray, List.set_cons_succ, List.set_cons_zero]
              refine wpAnyH_ready (rs := [9]) (by kernel_rfl) (by simp) (AllReadyH.cons (o := ⟨some 28, .nilCheck (.tmp 19), _, _, _, none⟩) rfl (fun K hK => ?_) AllReadyH.nil)
              go_simp
              refine hK.out _ _ HT6.out.1 (fun _ => ?_)
              clear hK K
              try simp only [Act.put, List.setIfInBounds_toArray, List.set_cons_succ, List.set_cons_zero]
              have q0 := lit_free HT6.out.2.1 o
              have q1 := (lit_cell HT6.out.2.1 o).trans (Array.getElem?_setIfInBounds_self_of_lt HLT.out)
              obtain ⟨ao6, ln6, cp6, rfl⟩ := own_slice hown6
              refine wpAnyH_ready (rs := [10]) (by kernel_rfl) (by simp) (AllReadyH.cons (o := ⟨none, .store 57 (.tmp 28) (.tmp 27), _, _, _, none⟩) rfl (fun K hK => ?_) AllReadyH.nil)
              go_simp
              refine hK.out _ _ (HT6.out.1.set _ HAP.out) (fun _ => ?_)
              clear hK K
              try simp only [Act.put, List.setIfInBounds_toArray, List.set_cons_succ, List.set_cons_zero]
              refine wpAnyH_done (by kernel_rfl) ?_ _
              have HST6 := Lib.hid HT6.out.2.2
              generalize w6.setCell ⟨t, o, none⟩ (.slice ao6 ln6 cp6) = w7 at *
              clear q0 q1 HT6 hown6 hg6
              go_wp2
              exact ⟨⟨i + 1, m', l ++ [y.r], d + k, by omega, by go_num, Lib.hid ⟨by rw [List.length_append, HLI.out]; rfl, HST6.out⟩, HE2⟩, by simp [intOf] <;> omega⟩
            · skip
              have HK := Lib.hid hK
              clear hK
              have hent := HENT.out
              simp only [Ent] at hent
              go_simp
              refine HEL.out.mono ?_
              rintro e w4 ⟨⟨y, rfl, rfl, ho1, ho2⟩, hr4, ha4, ho4⟩; have HO1 := Lib.hid ho1; have HO2 := Lib.hid ho2; clear ho1 ho2
              have HL4 := Lib.hid (hH.only ho4 HAP.out)
              have HB4 := Lib.hid ((ho4.block t hH.l.2.2.2 HAP.out.t).trans HB0.out)
              refine HK.out.out _ _ HL4.out (fun _ => ?_)
              clear HK K
              try simp only [Act.put, List.setIfInBounds_toArray, List.set_cons_succ, List.set_cons_zero]
              refine wpAnyH_ready (rs := [3, 7]) (by kernel_rfl) (by simp) (AllReadyH.cons (o := ⟨some 22, .load 57 (.tmp 21), _, _, _, none⟩) rfl (fun K hK => ?_) (AllReadyH.cons (o := ⟨some 26, .buildSlice 57 1 #[(0, .tmp 25)], _, _, _, none⟩) rfl (fun K hK => ?_) AllReadyH.nil))
              · skip
                have c3 := (lit_cell HB4.out o).trans (Array.getElem?_setIfInBounds_self_of_lt HLT.out)
                go_simp
                refine hK.out _ _ HL4.out (fun _ => ?_)
                clear hK K c3
                try simp only [Act.put, List.setIfInBounds_toArray, List.set_cons_succ, List.set_cons_zero]
                refine wpAnyH_ready (rs := [7]) (by kernel_rfl) (by simp) (AllReadyH.cons (o := ⟨some 26, .buildSlice 57 1 #[(0, .tmp 25)], _, _, _, none⟩) rfl (fun K hK => ?_) AllReadyH.nil)
                have HL5 := Lib.hid (HL4.out.below (by0 w4 (.cells #[.int .u64 (y.r.pos : Int), .int .u64 (y.r.slot.l : Int), .bool y.r.slot.signed, .int .u64 (y.r.slot.sig.index : Int), .slice y.wa y.r.slot.sig.wots.length y.wc, .slice y.pa y.r.slot.sig.path.length y.pc, .string ⟨y.r.part.root.toArray⟩, .int .u64 (y.r.part.weight : Int), .int .u64 (y.r.part.first : Int), .int .u64 (y.r.part.life : Int), .int .u64 (y.r.part.keys : Int)] 93)))
                have HB5 := Lib.hid (lit_old (w := w4) (.cells #[.int .u64 (y.r.pos : Int), .int .u64 (y.r.slot.l : Int), .bool y.r.slot.signed, .int .u64 (y.r.slot.sig.index : Int), .slice y.wa y.r.slot.sig.wots.length y.wc, .slice y.pa y.r.slot.sig.path.length y.pc, .string ⟨y.r.part.root.toArray⟩, .int .u64 (y.r.part.weight : Int), .int .u64 (y.r.part.first : Int), .int .u64 (y.r.part.life : Int), .int .u64 (y.r.part.keys : Int)] 93) HB4.out)
                go_simp
                refine hK.out _ _ HL5.out (fun _ => ?_)
                clear hK K
                try simp only [Act.put, List.setIfInBounds_toArray, List.set_cons_succ, List.set_cons_zero]
                refine wpAnyH_ready (rs := [8]) (by kernel_rfl) (by simp) (AllReadyH.cons (o := ⟨some 27, .call ⟨.builtin .append, #[.tmp 22, .tmp 26], #[57, 57]⟩, _, _, _, none⟩) rfl (fun K hK => ?_) AllReadyH.nil)
                refine step_append_at rfl (.tmp 22) (.tmp 26) 57 rfl (N + 1) 93 i0 (.agg #[.int .u64 0, .int .u64 0, .bool false, .int .u64 0, .slice none 0 0, .slice none 0 0, .string ⟨#[]⟩, .int .u64 0, .int .u64 0, .int .u64 0, .int .u64 0]) 11 128 Tryz.underlying57 hi hz hs hby rfl (by decide) v l.length xs rfl (HOWN.out w4 ho4 _) ⟨w4.heap.size, 0, none⟩ 1 1 [.int .u64 (y.r.pos : Int), .int .u64 (y.r.slot.l : Int), .bool y.r.slot.signed, .int .u64 (y.r.slot.sig.index : Int), .slice y.wa y.r.slot.sig.wots.length y.wc, .slice y.pa y.r.slot.sig.path.length y.pc, .string ⟨y.r.part.root.toArray⟩, .int .u64 (y.r.part.weight : Int), .int .u64 (y.r.part.first : Int), .int .u64 (y.r.part.life : Int), .int .u64 (y.r.part.keys : Int)] rfl rfl (rev_new w4 y _) (rev_one y) (by have := HLL.out; unfold maxLen; omega) (by have := HLL.out; omega) (by have := HBS.out; have := ho4.size; have := HSZ8.out; rw [World.size_alloc]; omega) ?_
                intro v6 w6 hown6 hg6
                have HT6 := Lib.hid (lst_tail (Rel := (RelR B rb)) (x := y.r) hH HB0.out HD8.out HOW.out HAP.out HLO.out HNN.out HBS8.out ho4 hr4 ha4 HR8.out HGL.out hown6 hg6 (HREL.out.step HEMP.out HOW.out ho4 (by have := HBB.out; have := HNN.out; have := HBS8.out; have := HLO.out; omega) HO1.out HO2.out hg6))
                refine hK.out _ _ HT6.out.1 (fun _ => ?_)
                clear hK K
                try simp only [Act.put, List.setIfInBounds_toArray, List.set_cons_succ, List.set_cons_zero]
                refine wpAnyH_ready (rs := [9]) (by kernel_rfl) (by simp) (AllReadyH.cons (o := ⟨some 28, .nilCheck (.tmp 19), _, _, _, none⟩) rfl (fun K hK => ?_) AllReadyH.nil)
                go_simp
                refine hK.out _ _ HT6.out.1 (fun _ => ?_)
                clear hK K
                try simp only [Act.put, List.setIfInBounds_toArray, List.set_cons_succ, List.set_cons_zero]
                have q0 := lit_free HT6.out.2.1 o
                have q1 := (lit_cell HT6.out.2.1 o).trans (Array.getElem?_setIfInBounds_self_of_lt HLT.out)
                obtain ⟨ao6, ln6, cp6, rfl⟩ := own_slice hown6
                refine wpAnyH_ready (rs := [10]) (by kernel_rfl) (by simp) (AllReadyH.cons (o := ⟨none, .store 57 (.tmp 28) (.tmp 27), _, _, _, none⟩) rfl (fun K hK => ?_) AllReadyH.nil)
                go_simp
                refine hK.out _ _ (HT6.out.1.set _ HAP.out) (fun _ => ?_)
                clear hK K
                try simp only [Act.put, List.setIfInBounds_toArray, List.set_cons_succ, List.set_cons_zero]
                refine wpAnyH_done (by kernel_rfl) ?_ _
                have HST6 := Lib.hid HT6.out.2.2
                generalize w6.setCell ⟨t, o, none⟩ (.slice ao6 ln6 cp6) = w7 at *
                clear q0 q1 HT6 hown6 hg6
                go_wp2
                exact ⟨⟨i + 1, m', l ++ [y.r], d + k, by omega, by go_num, Lib.hid ⟨by rw [List.length_append, HLI.out]; rfl, HST6.out⟩, HE2⟩, by simp [intOf] <;> omega⟩
              · skip
                have HL5 := Lib.hid (HL4.out.below (by0 w4 (.cells #[.int .u64 (y.r.pos : Int), .int .u64 (y.r.slot.l : Int), .bool y.r.slot.signed, .int .u64 (y.r.slot.sig.index : Int), .slice y.wa y.r.slot.sig.wots.length y.wc, .slice y.pa y.r.slot.sig.path.length y.pc, .string ⟨y.r.part.root.toArray⟩, .int .u64 (y.r.part.weight : Int), .int .u64 (y.r.part.first : Int), .int .u64 (y.r.part.life : Int), .int .u64 (y.r.part.keys : Int)] 93)))
                have HB5 := Lib.hid (lit_old (w := w4) (.cells #[.int .u64 (y.r.pos : Int), .int .u64 (y.r.slot.l : Int), .bool y.r.slot.signed, .int .u64 (y.r.slot.sig.index : Int), .slice y.wa y.r.slot.sig.wots.length y.wc, .slice y.pa y.r.slot.sig.path.length y.pc, .string ⟨y.r.part.root.toArray⟩, .int .u64 (y.r.part.weight : Int), .int .u64 (y.r.part.first : Int), .int .u64 (y.r.part.life : Int), .int .u64 (y.r.part.keys : Int)] 93) HB4.out)
                go_simp
                refine hK.out _ _ HL5.out (fun _ => ?_)
                clear hK K
                try simp only [Act.put, List.setIfInBounds_toArray, List.set_cons_succ, List.set_cons_zero]
                refine wpAnyH_ready (rs := [3]) (by kernel_rfl) (by simp) (AllReadyH.cons (o := ⟨some 22, .load 57 (.tmp 21), _, _, _, none⟩) rfl (fun K hK => ?_) AllReadyH.nil)
                have c3 := (lit_cell HB5.out o).trans (Array.getElem?_setIfInBounds_self_of_lt HLT.out)
                go_simp
                refine hK.out _ _ HL5.out (fun _ => ?_)
                clear hK K c3
                try simp only [Act.put, List.setIfInBounds_toArray, List.set_cons_succ, List.set_cons_zero]
                refine wpAnyH_ready (rs := [8]) (by kernel_rfl) (by simp) (AllReadyH.cons (o := ⟨some 27, .call ⟨.builtin .append, #[.tmp 22, .tmp 26], #[57, 57]⟩, _, _, _, none⟩) rfl (fun K hK => ?_) AllReadyH.nil)
                refine step_append_at rfl (.tmp 22) (.tmp 26) 57 rfl (N + 1) 93 i0 (.agg #[.int .u64 0, .int .u64 0, .bool false, .int .u64 0, .slice none 0 0, .slice none 0 0, .string ⟨#[]⟩, .int .u64 0, .int .u64 0, .int .u64 0, .int .u64 0]) 11 128 Tryz.underlying57 hi hz hs hby rfl (by decide) v l.length xs rfl (HOWN.out w4 ho4 _) ⟨w4.heap.size, 0, none⟩ 1 1 [.int .u64 (y.r.pos : Int), .int .u64 (y.r.slot.l : Int), .bool y.r.slot.signed, .int .u64 (y.r.slot.sig.index : Int), .slice y.wa y.r.slot.sig.wots.length y.wc, .slice y.pa y.r.slot.sig.path.length y.pc, .string ⟨y.r.part.root.toArray⟩, .int .u64 (y.r.part.weight : Int), .int .u64 (y.r.part.first : Int), .int .u64 (y.r.part.life : Int), .int .u64 (y.r.part.keys : Int)] rfl rfl (rev_new w4 y _) (rev_one y) (by have := HLL.out; unfold maxLen; omega) (by have := HLL.out; omega) (by have := HBS.out; have := ho4.size; have := HSZ8.out; rw [World.size_alloc]; omega) ?_
                intro v6 w6 hown6 hg6
                have HT6 := Lib.hid (lst_tail (Rel := (RelR B rb)) (x := y.r) hH HB0.out HD8.out HOW.out HAP.out HLO.out HNN.out HBS8.out ho4 hr4 ha4 HR8.out HGL.out hown6 hg6 (HREL.out.step HEMP.out HOW.out ho4 (by have := HBB.out; have := HNN.out; have := HBS8.out; have := HLO.out; omega) HO1.out HO2.out hg6))
                refine hK.out _ _ HT6.out.1 (fun _ => ?_)
                clear hK K
                try simp only [Act.put, List.setIfInBounds_toArray, List.set_cons_succ, List.set_cons_zero]
                refine wpAnyH_ready (rs := [9]) (by kernel_rfl) (by simp) (AllReadyH.cons (o := ⟨some 28, .nilCheck (.tmp 19), _, _, _, none⟩) rfl (fun K hK => ?_) AllReadyH.nil)
                go_simp
                refine hK.out _ _ HT6.out.1 (fun _ => ?_)
                clear hK K
                try simp only [Act.put, List.setIfInBounds_toArray, List.set_cons_succ, List.set_cons_zero]
                have q0 := lit_free HT6.out.2.1 o
                have q1 := (lit_cell HT6.out.2.1 o).trans (Array.getElem?_setIfInBounds_self_of_lt HLT.out)
                obtain ⟨ao6, ln6, cp6, rfl⟩ := own_slice hown6
                refine wpAnyH_ready (rs := [10]) (by kernel_rfl) (by simp) (AllReadyH.cons (o := ⟨none, .store 57 (.tmp 28) (.tmp 27), _, _, _, none⟩) rfl (fun K hK => ?_) AllReadyH.nil)
                go_simp
                refine hK.out _ _ (HT6.out.1.set _ HAP.out) (fun _ => ?_)
                clear hK K
                try simp only [Act.put, List.setIfInBounds_toArray, List.set_cons_succ, List.set_cons_zero]
                refine wpAnyH_done (by kernel_rfl) ?_ _
                have HST6 := Lib.hid HT6.out.2.2
                generalize w6.setCell ⟨t, o, none⟩ (.slice ao6 ln6 cp6) = w7 at *
                clear q0 q1 HT6 hown6 hg6
                go_wp2
                exact ⟨⟨i + 1, m', l ++ [y.r], d + k, by omega, by go_num, Lib.hid ⟨by rw [List.length_append, HLI.out]; rfl, HST6.out⟩, HE2⟩, by simp [intOf] <;> omega⟩
  · rw [if_neg hc]
    have HC := Lib.hid hc
    clear hc
    go_enter Tryz.func202, Tryz.ntmps202
    go_upto_region 1 with fail
    rw [HWA.out, HNN.out]
    go_wp2_with (first | (go_at_call 196; refine HM.out.mono ?_; rintro e w2 ⟨v, rfl, hv, hr2, ho2⟩; obtain ⟨f, rfl, hup⟩ := hv.shape (by have := HC.out; omega)) | (go_at_call 145; refine (sureI_bad _ f w2).mono ?_; rintro e w2 ⟨rfl, rfl⟩))
    exact ⟨rfl, HC.out, hup.mono HB1.out.size, (Duo.below HB1.out).trans (Duo.only ho2), [], .slice none 0 0, [], ((ho2.block t HL1.out.l.2.2.2 HAP.out.t).trans HT1.out).trans (by rw [← HCS.out]), World.ownsRow_nil _ _ _ _, ⟨[], rfl, rfl, fun _ h => by cases h⟩, fun _ => rfl⟩
end Go.Proofs.YtbkiijndhjmkdaaGreatDoor
/- A Cert: its row reads. -/
namespace Go.Proofs.YtbkiijndhjmkdaaGreatDoor
open Go.RowKit

set_option maxRecDepth 100000 in
theorem read_revs {ρ : Type} {w0 : World} {rb t : Nat} {S : (List UInt8)} {Rp : ρ → World → Prop} {lo N kk o most B : Nat} {T : TypeId} {c : UInt8} {of : ρ → List RevR} {set : ρ → List RevR → ρ} (hm : most ≤ 10240) (hB : t < B ∧ B ≤ w0.heap.size + 1) (hk : NewR lo N kk t o most w0) (hlo : rb < lo ∧ t < lo) (hrt : t ≠ rb) (hS : S.length ≤ 1000000) (hG : 4 ≤ rb ∧ 4 ≤ t)
    (hL : ListL 93 11 (RelR B rb) rb t o T Rp of set) (hz : ∀ p, of p = [] → set p [] = p) : ReadF w0 rb t S Rp ⟨listRFV c N, listFld c most hm revC of set, lrd most revC.get⟩ where
  key := rfl
  tE := fun _ _ => by kernel_rfl
  rE := fun _ _ => by kernel_rfl
  get left a := by
    refine (listG_lrd most revC.get left a).trans ?_
    dsimp only
    cases lrd most revC.get left a with
    | error f => rfl
    | ok q =>
      obtain ⟨vo, k⟩ := q
      cases vo <;> rfl
  there w p hd hp := by
    obtain ⟨cs, ao, cp, h1, h2, _⟩ := hL p w hp
    have e : ((listFld c most hm revC of set).view p).isSome = decide (0 < (of p).length) := lst_some (of p)
    rw [e]
    exact listR1_any N t o (of p).length cp ao w (kCell ((hd.block N (lit_lt hk.2.2.2.a) (by have := hk.1; omega) (by have := hk.1; omega)).trans hk.2.2.2.a)) ((lit_cell h1 o).trans h2)
  read w p a hd hg hp hv hr ha := by
    obtain ⟨cs, ao, cp, h1, h2, h3, h4⟩ := hL p w hp
    have hz0 : of p = [] := lst_none hv
    obtain ⟨rfl, rfl⟩ := h3 hz0
    rw [hz0] at h2
    have hN := hk.1
    have hb := fun k (h : N ≤ k) (hk0 : k < w0.heap.size) => hd.block k hk0 (by omega) (by omega)
    refine (listR3_any N (N + 1) (N + 1 + 1 + 1) t o rb 171 most #[ptrV kk] T cs revC.get S a w (fun _ _ => by kernel_rfl) ⟨hr, hg, hS, ha⟩ (kCell ((hb N (by omega) (lit_lt hk.2.2.2.a)).trans hk.2.2.2.a)) (kCell ((hb (N + 1) (by omega) (lit_lt hk.2.2.2.m)).trans hk.2.2.2.m)) (kCell ((hb (N + 1 + 1 + 1) (by omega) (lit_lt hk.2.2.2.r)).trans hk.2.2.2.r)) h1 h2 (by omega) hG hm B ⟨hB.1, by have := hd.size; omega⟩ (fun a1 w1 hd1 h => things2_any rb kk S a1 w1 h hG.1 (by have := hk.2.1; omega) (kCell (((hd.trans hd1).block kk (lit_lt hk.2.2.1) (by have := hk.2.1; omega) (by have := hk.2.1; omega)).trans hk.2.2.1)))).mono ?_
    intro e w' hres
    show Read rb t S Rp a w.heap.size w (RW.step ⟨listRFV c N, listFld c most hm revC of set, lrd most revC.get⟩ p (S.drop a) a) e w'
    unfold RW.step lrd
    dsimp only
    cases hl : lraw most revC.get (S.drop a) a with
    | error f =>
      obtain ⟨c1, b1⟩ := f
      rw [hl] at hres
      obtain ⟨k1, k2, k3, l, v, xs, k4, k5, k6⟩ := hres
      exact ⟨k1, k2, k3, _, h4 l v xs w' k3 k4 k5 k6⟩
    | ok q =>
      obtain ⟨l, k⟩ := q
      rw [hl] at hres
      obtain ⟨k1, ⟨v, xs, k2, k3, k4⟩, k5, k6, k7⟩ := hres
      have hR := h4 l v xs w' k7 k2 k3 k4
      cases l with
      | nil =>
        rw [hz p hz0] at hR
        exact ⟨k1, hR, k5, k6, k7⟩
      | cons x l => exact ⟨k1, hR, k5, k6, k7⟩
/-- a row of values that a reading laid: none, or a block of its own behind B -/
def OwnV (B rb t : Nat) (ao : Option Addr) (cp : Nat) (xs : List Value) (w : World) : Prop :=
  (xs = [] ∧ ao = none ∧ cp = 0) ∨ ∃ b, xs ≠ [] ∧ ao = some ⟨b, 0, none⟩ ∧ B ≤ b ∧ b ≠ rb ∧ b ≠ t ∧ b < w.heap.size ∧ ∀ i u, xs[i]? = some u → w.cell? ⟨b, i, none⟩ = some u
theorem OwnV.next {B rb t : Nat} {ao : Option Addr} {cp : Nat} {xs : List Value} {w w' : World} (h : OwnV B rb t ao cp xs w) (hd : Duo rb t w w') : OwnV B rb t ao cp xs w' := by
  rcases h with h | ⟨b, h0, h1, h2, h3, h4, h5, h6⟩
  · exact .inl h
  · exact .inr ⟨b, h0, h1, h2, h3, h4, Nat.lt_of_lt_of_le h5 hd.size, fun i u hi => (World.cell?_of_block (a := ⟨b, i, none⟩) (hd.block b h5 h3 h4)).trans (h6 i u hi)⟩
theorem OwnV.of_own {B rb t base E sz n : Nat} {v : Value} {xs : List Value} {w : World} (h : w.ownsRow base E sz v n xs) (he : n = 0 → v = .slice none 0 0) (hz : 0 < sz) (hB : B ≤ base) (hr : rb < base) (ht : t < base) : ∃ ao cp, v = .slice ao n cp ∧ OwnV B rb t ao cp xs w := by
  by_cases hn0 : n = 0
  · refine ⟨none, 0, by rw [he hn0, hn0], .inl ⟨List.eq_nil_of_length_eq_zero (by rw [h.1, hn0, Nat.zero_mul]), rfl, rfl⟩⟩
  · obtain ⟨hn, h | ⟨g, cp, cur, hv, hb, hg, hc1, hc2, hc3, hc4⟩⟩ := h
    · exact absurd h.2 hn0
    · refine ⟨_, cp, hv, .inr ⟨g, fun e => ?_, rfl, by omega, by omega, by omega, lit_lt hg, fun i u hi => ?_⟩⟩
      · rw [e] at hn
        have : 0 < n * sz := Nat.mul_pos (by omega) hz
        simp at hn; omega
      · refine (lit_cell hg i).trans ?_
        rw [← hc4] at hi
        have hlt : i < n * sz := by
          have := (List.getElem?_eq_some_iff.1 hi).1
          rw [List.length_take] at this; omega
        rw [List.getElem?_take_of_lt hlt, Array.getElem?_toList] at hi
        exact hi
theorem OwnV.nil {B rb t : Nat} {ao : Option Addr} {cp : Nat} {xs : List Value} {w : World} (h : OwnV B rb t ao cp xs w) (e : xs = []) : ao = none ∧ cp = 0 := by
  rcases h with ⟨_, h, k⟩ | ⟨b, h, _⟩
  · exact ⟨h, k⟩
  · exact absurd e h
/-- a Cert's lists: where a reading laid them -/
structure CertO (B rb t : Nat) (c : CertE) (w : World) : Prop where
  r : OwnV B rb t c.ra c.rc (c.rl.flatMap revQ) w
  rs : ∀ y ∈ c.rl, OwnS B rb t y.wa y.wc y.r.slot.sig.wots w ∧ OwnS B rb t y.pa y.pc y.r.slot.sig.path w
  co : OwnV B rb t c.ca c.cc (intV c.coins) w
  sp : OwnS B rb t c.sa c.sc c.sp w
  pp : OwnS B rb t c.pa c.pc c.pp w
theorem CertO.next {B rb t : Nat} {c : CertE} {w w' : World} (h : CertO B rb t c w) (hd : Duo rb t w w') : CertO B rb t c w' := ⟨h.r.next hd, fun y hy => ⟨(h.rs y hy).1.next hd, (h.rs y hy).2.next hd⟩, h.co.next hd, h.sp.next hd, h.pp.next hd⟩
/-- a Cert in the block t -/
structure RpCert (B rb t : Nat) (p : CertR) (w : World) : Prop where
  b : B ≤ w.heap.size + 1 ∧ rb < w.heap.size + 1 ∧ t < B
  h : ∃ c : CertE, c.r = p ∧ w.heap[t]? = some (.cells (certQ c).toArray 60 (0, 0)) ∧ CertO B rb t c w
theorem RpCert.next {B rb t : Nat} {p : CertR} {w w' : World} (hrt : t ≠ rb) (h : RpCert B rb t p w) (hd : Duo rb rb w w') : RpCert B rb t p w' := by
  obtain ⟨⟨hB, hrb, htB⟩, c, h0, h1, h2⟩ := h
  have hs := hd.size
  exact ⟨⟨by omega, by omega, htB⟩, c, h0, (hd.block t (lit_lt h1) hrt hrt).trans h1, h2.next hd.weak⟩
theorem OwnS.tight {B rb t cp : Nat} {ao : Option Addr} {L : List (List UInt8)} {w : World} (h : OwnS B rb rb ao cp L w) (ht : t < B) : OwnS B rb t ao cp L w := by
  rcases h with h | ⟨b, h0, h1, h2, h3, h4, h5, h6⟩
  · exact .inl h
  · exact .inr ⟨b, h0, h1, h2, h3, by omega, h5, h6⟩
theorem cert_pp_l {B rb t : Nat} : ListL 9 1 RelS rb t 5 60 (RpCert B rb t) (·.partProof) (fun p v => { p with partProof := v }) := by
  intro p w hp
  obtain ⟨⟨hB, hrb, htB⟩, c, rfl, h1, h2⟩ := hp
  refine ⟨_, c.pa, c.pc, h1, rfl, fun e => h2.pp.nil e, fun l v xs w' hd ht ho hx => ?_⟩
  have hs := hd.size
  obtain ⟨ao, cp, rfl, hO⟩ := OwnS.of_own (B := B) (rb := rb) (t := t) ho hx.1 hx.2 hB hrb (by have := lit_lt h1; omega)
  have h3 := h2.next hd
  exact ⟨⟨by omega, by omega, htB⟩, { c with pp := l, pa := ao, pc := cp }, rfl, ht, ⟨h3.r, h3.rs, h3.co, h3.sp, hO⟩⟩
theorem cert_sp_l {B rb t : Nat} : ListL 9 1 RelS rb t 4 60 (RpCert B rb t) (·.slotProof) (fun p v => { p with slotProof := v }) := by
  intro p w hp
  obtain ⟨⟨hB, hrb, htB⟩, c, rfl, h1, h2⟩ := hp
  refine ⟨_, c.sa, c.sc, h1, rfl, fun e => h2.sp.nil e, fun l v xs w' hd ht ho hx => ?_⟩
  have hs := hd.size
  obtain ⟨ao, cp, rfl, hO⟩ := OwnS.of_own (B := B) (rb := rb) (t := t) ho hx.1 hx.2 hB hrb (by have := lit_lt h1; omega)
  have h3 := h2.next hd
  exact ⟨⟨by omega, by omega, htB⟩, { c with sp := l, sa := ao, sc := cp }, rfl, ht, ⟨h3.r, h3.rs, h3.co, hO, h3.pp⟩⟩
theorem cert_co_l {B rb t : Nat} : ListL 22 1 RelN rb t 3 60 (RpCert B rb t) (·.coins) (fun p v => { p with coins := v }) := by
  intro p w hp
  obtain ⟨⟨hB, hrb, htB⟩, c, rfl, h1, h2⟩ := hp
  refine ⟨_, c.ca, c.cc, h1, rfl, fun e => h2.co.nil (by rw [show c.coins = [] from e]; rfl), fun l v xs w' hd ht ho hx => ?_⟩
  have hs := hd.size
  obtain ⟨ao, cp, rfl, hO⟩ := OwnV.of_own (B := B) (rb := rb) (t := t) ho (fun e => hx.2 (List.eq_nil_of_length_eq_zero e)) (by decide) hB hrb (by have := lit_lt h1; omega)
  rw [show xs = intV l from hx.1] at hO
  have h3 := h2.next hd
  exact ⟨⟨by omega, by omega, htB⟩, { c with coins := l, ca := ao, cc := cp }, rfl, ht, ⟨h3.r, h3.rs, hO, h3.sp, h3.pp⟩⟩
theorem cert_rev_l {B rb t : Nat} : ListL 93 11 (RelR B rb) rb t 2 60 (RpCert B rb t) (·.reveals) (fun p v => { p with reveals := v }) := by
  intro p w hp
  obtain ⟨⟨hB, hrb, htB⟩, c, rfl, h1, h2⟩ := hp
  refine ⟨_, c.ra, c.rc, h1, ?_, fun e => h2.r.nil ?_, fun l v xs w' hd ht ho hx => ?_⟩
  · show _ = some (Value.slice c.ra ((c.rl.map (·.r)).length : Nat) c.rc)
    rw [List.length_map]; rfl
  · rw [show c.rl = [] from by simpa [CertE.r] using e]; rfl
  have hs := hd.size
  obtain ⟨ao, cp, rfl, hO⟩ := OwnV.of_own (B := B) (rb := rb) (t := t) ho (fun e => hx.2 (List.eq_nil_of_length_eq_zero e)) (by decide) hB hrb (by have := lit_lt h1; omega)
  obtain ⟨ys, rfl, rfl, hys⟩ := hx.1
  have h3 := h2.next hd
  refine ⟨⟨by omega, by omega, htB⟩, { c with rl := ys, ra := ao, rc := cp }, rfl, ?_, ⟨hO, fun y hy => ⟨(hys y hy).1.tight htB, (hys y hy).2.tight htB⟩, h3.co, h3.sp, h3.pp⟩⟩
  rw [ht, List.length_map]
  rfl
theorem cert_root_l {B rb t : Nat} : DigL rb t 0 60 (RpCert B rb t) (·.root) (fun p v => { p with root := v }) := by
  intro p w hp
  obtain ⟨⟨hB, hrb, htB⟩, c, rfl, h1, h2⟩ := hp
  refine ⟨_, h1, rfl, fun v w' hd ht => ?_⟩
  have hs := hd.size
  have h3 := h2.next hd
  exact ⟨⟨by omega, by omega, htB⟩, { c with root := v }, rfl, ht, ⟨h3.r, h3.rs, h3.co, h3.sp, h3.pp⟩⟩
theorem cert_signed_l {B rb t : Nat} : NumL rb t 1 60 (RpCert B rb t) (·.signed) (fun p v => { p with signed := v }) := by
  intro p w hp
  obtain ⟨⟨hB, hrb, htB⟩, c, rfl, h1, h2⟩ := hp
  refine ⟨_, h1, rfl, fun v w' hd ht => ?_⟩
  have hs := hd.size
  have h3 := h2.next hd
  exact ⟨⟨by omega, by omega, htB⟩, { c with signed := v }, rfl, ht, ⟨h3.r, h3.rs, h3.co, h3.sp, h3.pp⟩⟩
set_option maxRecDepth 100000 in
theorem cert_rd {w0 : World} {lo rb t fb B : Nat} {S : (List UInt8)} {fs : List FV} (hK : CertK lo t 0 fb fs w0) (hB : t < B ∧ B ≤ w0.heap.size + 1) (hlo : rb < lo ∧ t < lo) (hrt : t ≠ rb) (hS : S.length ≤ 1000000) (hG : 4 ≤ rb ∧ 4 ≤ t) : ∃ xs : List (RW CertR), fs = xs.map (·.f) ∧ xs.length = 6 ∧ xs.map (·.g) = certFs ∧ (∀ x ∈ xs, ReadF w0 rb t S (RpCert B rb t) x) ∧ ∀ p, okV certFs p → (!xs.any fun x => x.f.needed && !(x.g.view p).isSome) = (!p.root.isEmpty) := by
  obtain ⟨⟨k0, k1, k2, k3, k4, kk4, k5, rfl, h0, h1, h2, h3, h4, h5⟩, _, _⟩ := hK
  refine ⟨[⟨listSFV 80 k0, listFld 80 10240 (by decide) digC (·.partProof) (fun p v => { p with partProof := v }), lrd 10240 digG⟩, ⟨listSFV 83 k1, listFld 83 10240 (by decide) digC (·.slotProof) (fun p v => { p with slotProof := v }), lrd 10240 digG⟩, ⟨digFV 99 k2, digFld 99 (·.root) (fun p v => { p with root := v }), digRd⟩, ⟨listNFV 112 k3, listFld 112 640 (by decide) anyC (·.coins) (fun p v => { p with coins := v }), lrd 640 anyG⟩, ⟨listRFV 114 k4, listFld 114 640 (by decide) revC (·.reveals) (fun p v => { p with reveals := v }), lrd 640 revC.get⟩, ⟨numFV 119 k5, numFld 119 (·.signed) (fun p v => { p with signed := v }), numRd⟩], rfl, rfl, rfl, fun x hx => ?_, fun p hok => ?_⟩
  · simp only [List.mem_cons, List.not_mem_nil, or_false] at hx
    rcases hx with rfl | rfl | rfl | rfl | rfl | rfl
    · exact read_strs (T := 60) (by decide) h0 hlo hrt hS hG cert_pp_l (fun p h => by cases p; simp_all)
    · exact read_strs (T := 60) (by decide) h1 hlo hrt hS hG cert_sp_l (fun p h => by cases p; simp_all)
    · exact read_dig (T := 60) h2 hlo hrt hS cert_root_l
    · exact read_nums (T := 60) (by decide) h3 hlo hrt hS hG cert_co_l (fun p h => by cases p; simp_all)
    · exact read_revs (T := 60) (by decide) hB h4 hlo hrt hS hG cert_rev_l (fun p h => by cases p; simp_all)
    · exact read_num (T := 60) h5 hlo hrt hS cert_signed_l (fun p h => by cases p; simp_all)
  · simp only [List.any_cons, List.any_nil, digFld, numFld, listFld, Bool.false_and, Bool.true_and, Bool.or_false, Bool.false_or, dig_some]
    cases p.root <;> simp
end Go.Proofs.YtbkiijndhjmkdaaGreatDoor
