/- The closed law: depths that are known. -/
import Derived.Test.YtcobflhnphikaaaHw
import Derived.RegionTactic
namespace Go.Proofs.Ytcobflhnphikaaa
open Go.RowKit Go.Sort

def knL : List Int := [0, 1, 2, 3, 4, 5, 65536, 65537, -1]
def knW : List Int := [0, 0, 1, 2, 2, 3, 16, -1, -1]
def encI (k : Int) : Value := .int .i64 k
theorem known_depth : ∀ k, k < 9 → depthV (knL.getD k 0) = knW.getD k 0 ∧ -9223372036854775808 ≤ knL.getD k 0 ∧ knL.getD k 0 ≤ 9223372036854775807 := by decide
/-- what is needed of leaves that are written out -/
theorem needs_lit {L : List Nat} {d : Nat} {M : List (List Nat)} (hM : Needs L d M) (h0 : L ≠ []) (hn : L.length ≤ 12) (hs : ∀ x ∈ L, standsB x (d : Int) = true) (hL : ∀ x ∈ L, x < 18446744073709551616) (hd : d ≤ 16) (W : World) :
    Calls Try.prog 19 #[.slice (some ⟨W.heap.size, 0, none⟩) L.length L.length, .int .i64 (d : Int)] (W.alloc (.cells (L.map encU).toArray 22)) fun e w' => ∃ bo cp, e = .returned (.slice bo M.length cp) ∧ Rows2 bo M w' ∧ Below W.heap.size W w' := by
  have hN : Nums (some ⟨W.heap.size, 0, none⟩) L (W.alloc (.cells (L.map encU).toArray 22)) := nums_lit (alloc_new _ _ rfl) rfl
  refine (needs_law _ L.length L d _ hN hL h0 hn hs hd).mono ?_
  rintro e w' ⟨bo, cp, Ms, rfl, h1, _, h3, h4⟩
  obtain rfl := h1.eq hM
  exact ⟨bo, cp, rfl, h3, ((Below.refl _ _).alloc (Nat.le_refl _) _).trans (h4.mono (by simp))⟩
theorem needs_bad {L : List Nat} {d : Int} (hn : L.length ≤ 12) (hs : ∃ x ∈ L, standsB x d = false) (W : World) :
    Calls Try.prog 19 #[.slice (some ⟨W.heap.size, 0, none⟩) L.length L.length, .int .i64 d] (W.alloc (.cells (L.map encU).toArray 22)) fun e w' => e = .returned (.slice none 0 0) ∧ Below W.heap.size W w' := by
  have hN : Nums (some ⟨W.heap.size, 0, none⟩) L (W.alloc (.cells (L.map encU).toArray 22)) := nums_lit (alloc_new _ _ rfl) rfl
  refine (needs_none _ L.length L d _ hN (by omega) (.inr hs)).mono ?_
  rintro e w' ⟨rfl, h⟩
  exact ⟨rfl, ((Below.refl _ _).alloc (Nat.le_refl _) _).trans (h.mono (by simp))⟩
/-- 'same' of what came, and of rows that are written out -/
theorem same_lit {w1 W' : World} {bo ao : Option Addr} {cp ca : Nat} {M : List (List Nat)} (hR : Rows2 bo M w1) (hb : Below w1.heap.size w1 W') (hA : Rows2 ao M W') (hM : M.length ≤ 1000) (hm : ∀ x ∈ M, x.length ≤ 1000) :
    Calls Try.prog 18 #[.slice bo M.length cp, .slice ao M.length ca] W' fun e w' => e = .returned (.bool true) ∧ Below w1.heap.size w1 w' := by
  refine (same_any bo ao cp ca M M W' (rows_next hR hb) hA hM hM hm hm).mono ?_
  rintro e w' ⟨rfl, q, rfl⟩
  exact ⟨by simp, hb.trans ⟨rfl, rfl, rfl, Nat.le_refl _, fun _ _ => rfl⟩⟩
theorem same_a (w1 : World) (bo : Option Addr) (cp : Nat) (hR : Rows2 bo [[3], [0]] w1) : Calls Try.prog 18 #[.slice bo 2 cp, .slice (some ⟨w1.heap.size + 1 + 1, 0, none⟩) 2 2]
    (((w1.alloc (.cells #[.int .u64 3] 22)).alloc (.cells #[.int .u64 0] 22)).alloc (.cells #[.slice (some ⟨w1.heap.size, 0, none⟩) 1 1, .slice (some ⟨w1.heap.size + 1, 0, none⟩) 1 1] 28)) fun e w' => e = .returned (.bool true) ∧ Below w1.heap.size w1 w' := by
  obtain ⟨W', hW'⟩ : ∃ W', (((w1.alloc (.cells #[.int .u64 3] 22)).alloc (.cells #[.int .u64 0] 22)).alloc (.cells #[.slice (some ⟨w1.heap.size, 0, none⟩) 1 1, .slice (some ⟨w1.heap.size + 1, 0, none⟩) 1 1] 28)) = W' := ⟨_, rfl⟩
  have g0 : W'.heap[w1.heap.size]? = some (.cells #[.int .u64 3] 22 (0, 0)) := by rw [← hW', alloc_old _ _ (by simp; omega), alloc_old _ _ (by simp)]; exact alloc_new _ _ rfl
  have g1 : W'.heap[w1.heap.size + 1]? = some (.cells #[.int .u64 0] 22 (0, 0)) := by rw [← hW', alloc_old _ _ (by simp)]; exact alloc_new _ _ (by simp)
  have g2 : W'.heap[w1.heap.size + 1 + 1]? = some (.cells #[.slice (some ⟨w1.heap.size, 0, none⟩) 1 1, .slice (some ⟨w1.heap.size + 1, 0, none⟩) 1 1] 28 (0, 0)) := by rw [← hW']; exact alloc_new _ _ (by simp)
  have hb : Below w1.heap.size w1 W' := by rw [← hW']; exact (((Below.refl _ w1).alloc (Nat.le_refl _) _).alloc (by simp) _).alloc (by simp; omega) _
  rw [hW']
  refine same_lit (M := [[3], [0]]) hR hb (.inr ⟨_, 0, rfl, fun i hi => ?_⟩) (by decide) (by decide)
  match i, hi with
  | 0, _ => exact ⟨_, 1, by simp [World.cell?, g2], nums_lit g0 rfl⟩
  | 1, _ => exact ⟨_, 1, by simp [World.cell?, g2], nums_lit g1 rfl⟩
theorem same_b (w1 : World) (bo : Option Addr) (cp : Nat) (hR : Rows2 bo [[], []] w1) : Calls Try.prog 18 #[.slice bo 2 cp, .slice (some ⟨w1.heap.size, 0, none⟩) 2 2]
    (w1.alloc (.cells #[.slice none 0 0, .slice none 0 0] 28)) fun e w' => e = .returned (.bool true) ∧ Below w1.heap.size w1 w' := by
  obtain ⟨W', hW'⟩ : ∃ W', (w1.alloc (.cells #[.slice none 0 0, .slice none 0 0] 28)) = W' := ⟨_, rfl⟩
  have g2 : W'.heap[w1.heap.size]? = some (.cells #[.slice none 0 0, .slice none 0 0] 28 (0, 0)) := by rw [← hW']; exact alloc_new _ _ rfl
  have hb : Below w1.heap.size w1 W' := by rw [← hW']; exact ((Below.refl _ w1).alloc (Nat.le_refl _) _)
  rw [hW']
  refine same_lit (M := [[], []]) hR hb (.inr ⟨_, 0, rfl, fun i hi => ?_⟩) (by decide) (by decide)
  match i, hi with
  | 0, _ => exact ⟨none, 0, by simp [World.cell?, g2], .inl rfl⟩
  | 1, _ => exact ⟨none, 0, by simp [World.cell?, g2], .inl rfl⟩
theorem same_c (w1 : World) (bo : Option Addr) (cp : Nat) (hR : Rows2 bo [[], [1]] w1) : Calls Try.prog 18 #[.slice bo 2 cp, .slice (some ⟨w1.heap.size + 1, 0, none⟩) 2 2]
    ((w1.alloc (.cells #[.int .u64 1] 22)).alloc (.cells #[.slice none 0 0, .slice (some ⟨w1.heap.size, 0, none⟩) 1 1] 28)) fun e w' => e = .returned (.bool true) ∧ Below w1.heap.size w1 w' := by
  obtain ⟨W', hW'⟩ : ∃ W', ((w1.alloc (.cells #[.int .u64 1] 22)).alloc (.cells #[.slice none 0 0, .slice (some ⟨w1.heap.size, 0, none⟩) 1 1] 28)) = W' := ⟨_, rfl⟩
  have g0 : W'.heap[w1.heap.size]? = some (.cells #[.int .u64 1] 22 (0, 0)) := by rw [← hW', alloc_old _ _ (by simp)]; exact alloc_new _ _ rfl
  have g2 : W'.heap[w1.heap.size + 1]? = some (.cells #[.slice none 0 0, .slice (some ⟨w1.heap.size, 0, none⟩) 1 1] 28 (0, 0)) := by rw [← hW']; exact alloc_new _ _ (by simp)
  have hb : Below w1.heap.size w1 W' := by rw [← hW']; exact (((Below.refl _ w1).alloc (Nat.le_refl _) _).alloc (by simp) _)
  rw [hW']
  refine same_lit (M := [[], [1]]) hR hb (.inr ⟨_, 0, rfl, fun i hi => ?_⟩) (by decide) (by decide)
  match i, hi with
  | 0, _ => exact ⟨none, 0, by simp [World.cell?, g2], .inl rfl⟩
  | 1, _ => exact ⟨_, 1, by simp [World.cell?, g2], nums_lit g0 rfl⟩
/-- the needed ones of a single leaf -/
theorem needs_single (x : Nat) : ∀ d, Needs [x] d ((List.range d).map fun i => [sib (x / 2 ^ i)]) := fun d => ⟨by simp, fun i N hN => by
  have hi := (List.getElem?_eq_some_iff.1 hN).1
  rw [List.getElem?_map, List.getElem?_range (by simpa using hi)] at hN
  cases hN
  refine ⟨by simp, fun y => ?_⟩
  simp only [upTo, List.map_cons, List.map_nil, List.mem_singleton]
  constructor
  · rintro rfl; exact ⟨sib_sib _, sib_ne _⟩
  · rintro ⟨h, _⟩; rw [← h, sib_sib]⟩
set_option maxRecDepth 100000 in
set_option maxHeartbeats 2000000 in
theorem known_any (w : World) : Calls Try.prog 7 #[] w fun e w' => e = .returned (.bool true) ∧ Below w.heap.size w w' := by
  obtain ⟨w2, hw2⟩ : ∃ w2, (w.alloc (.cells (knL.map encI).toArray 3)).alloc (.cells (knW.map encI).toArray 3) = w2 := ⟨_, rfl⟩
  have HB := Lib.hid (show Below w.heap.size w w2 by rw [← hw2]; exact ((Below.refl _ _).alloc (Nat.le_refl _) _).alloc (by simp) _)
  have hc1 : ∀ k, k < 9 → w2.cell? ⟨w.heap.size, k, none⟩ = some (.int .i64 (knL.getD k 0)) := by
    intro k hk
    have h : w2.heap[w.heap.size]? = some (.cells (knL.map encI).toArray 3 (0, 0)) := by rw [← hw2, alloc_old _ _ (by simp)]; exact alloc_new _ _ rfl
    rw [lit_cell h]
    have : k = 0 ∨ k = 1 ∨ k = 2 ∨ k = 3 ∨ k = 4 ∨ k = 5 ∨ k = 6 ∨ k = 7 ∨ k = 8 := by omega
    rcases this with rfl | rfl | rfl | rfl | rfl | rfl | rfl | rfl | rfl <;> rfl
  have hc2 : ∀ k, k < 9 → w2.cell? ⟨w.heap.size + 1, k, none⟩ = some (.int .i64 (knW.getD k 0)) := by
    intro k hk
    have h : w2.heap[w.heap.size + 1]? = some (.cells (knW.map encI).toArray 3 (0, 0)) := by rw [← hw2]; exact alloc_new _ _ (by simp)
    rw [lit_cell h]
    have : k = 0 ∨ k = 1 ∨ k = 2 ∨ k = 3 ∨ k = 4 ∨ k = 5 ∨ k = 6 ∨ k = 7 ∨ k = 8 := by omega
    rcases this with rfl | rfl | rfl | rfl | rfl | rfl | rfl | rfl | rfl <;> rfl
  have HC1 := Lib.hid hc1
  have HC2 := Lib.hid hc2
  have HW2 := Lib.hid (show (w.alloc (.cells #[.int .i64 0, .int .i64 1, .int .i64 2, .int .i64 3, .int .i64 4, .int .i64 5, .int .i64 65536, .int .i64 65537, .int .i64 (-1)] 3)).alloc (.cells #[.int .i64 0, .int .i64 0, .int .i64 1, .int .i64 2, .int .i64 2, .int .i64 3, .int .i64 16, .int .i64 (-1), .int .i64 (-1)] 3) = w2 from hw2)
  clear hc1 hc2 hw2
  go_enter Try.func7, Try.ntmps7
  simp only [List.append_eq, List.cons_append, List.nil_append]
  go_wp2
  rw [HW2.out]
  go_loopw [3] (fun v wr => ∃ k : Nat, v = .int .i64 (k : Int) ∧ k ≤ 9 ∧ Hid (∃ q, wr = w2.drewN q)) (fun v _ => 9 - (intOf v).toNat)
  case atStart => exact ⟨0, rfl, by omega, Lib.hid ⟨0, rfl⟩⟩
  case round =>
    obtain ⟨k, rfl, hk, HQ⟩ := hrel
    by_cases hk9 : k < 9
    · have hl : (k : Int) < 9 := by omega
      have k0 : (0 : Int) ≤ (k : Int) := by omega
      obtain ⟨q, hq⟩ := HQ.out
      have f1 : wr.cell? ⟨w.heap.size, k, none⟩ = some (.int .i64 (knL.getD k 0)) := by rw [hq]; exact HC1.out k hk9
      have f2 : wr.cell? ⟨w.heap.size + 1, k, none⟩ = some (.int .i64 (knW.getD k 0)) := by rw [hq]; exact HC2.out k hk9
      have HD := Lib.hid (fun w => depth_any (knL.getD k 0) (known_depth k hk9).2 w)
      rw [(known_depth k hk9).1] at HD
      generalize knL.getD k 0 = x at *
      generalize knW.getD k 0 = y at *
      have hyy : (y != y) = false := by simp
      have HW := Lib.hid hq
      clear hq
      go_wp2
      go_quiet (first | (go_at_call 8; exact Calls.quiet_of_same ((HD.out _).mono (fun e w' h => ⟨h.1, h.2.symm⟩))))
      go_wp2
      go_roundw
      case rel => exact ⟨k + 1, by go_num, hk9, Lib.hid ⟨q + nq, by rw [HW.out]; exact drewN_add _ _ _⟩⟩
      case measure => simp [intOf] <;> omega
    · have hk9' : k = 9 := by omega
      subst hk9'
      obtain ⟨q, rfl⟩ := HQ.out
      have HB1 := Lib.hid (HB.out.trans (show Below w.heap.size w2 (w2.drewN q) from ⟨rfl, rfl, rfl, Nat.le_refl _, fun _ _ => rfl⟩))
      have HWk := Lib.hid (fun w => works_any w)
      have HL1 := Lib.hid (fun w => show Calls Try.prog 10 #[.int .u64 1, .int .i64 3] w fun e w' => e = .returned (.int .u64 4) ∧ w = w' from leaf_any 1 (by decide) 3 w)
      have HL2 := Lib.hid (fun w => show Calls Try.prog 10 #[.int .u64 8, .int .i64 3] w fun e w' => e = .returned (.int .u64 0) ∧ w = w' from leaf_any 8 (by decide) 3 w)
      have HL3 := Lib.hid (fun w => show Calls Try.prog 10 #[.int .u64 1, .int .i64 17] w fun e w' => e = .returned (.int .u64 0) ∧ w = w' from leaf_any 1 (by decide) 17 w)
      have HL4 := Lib.hid (fun w => show Calls Try.prog 10 #[.int .u64 1, .int .i64 16] w fun e w' => e = .returned (.int .u64 32768) ∧ w = w' from leaf_any 1 (by decide) 16 w)
      have HE1 := Lib.hid (fun w => show Calls Try.prog 12 #[.int .u64 1, .int .i64 (-1)] w fun e w' => e = .returned (.int .u64 0) ∧ w = w' from element_any 1 (by decide) (-1) w)
      have HS6 := Lib.hid (fun w => show Calls Try.prog 14 #[.int .u64 6] w fun e w' => e = .returned (.int .u64 7) ∧ w = w' from sibling_any 6 (by decide) w)
      have HS7 := Lib.hid (fun w => show Calls Try.prog 14 #[.int .u64 7] w fun e w' => e = .returned (.int .u64 6) ∧ w = w' from sibling_any 7 (by decide) w)
      have HP7 := Lib.hid (fun w => show Calls Try.prog 16 #[.int .u64 7] w fun e w' => e = .returned (.int .u64 3) ∧ w = w' from parent_any 7 (by decide) w)
      have N1 := Lib.hid (fun W => show Calls Try.prog 19 #[.slice (some ⟨W.heap.size, 0, none⟩) 1 1, .int .i64 2] (W.alloc (.cells #[.int .u64 2] 22)) fun e w' => ∃ bo cp, e = .returned (.slice bo 2 cp) ∧ Rows2 bo [[3], [0]] w' ∧ Below W.heap.size W w' from needs_lit (L := [2]) (d := 2) (M := [[3], [0]]) (needs_closed rfl (by decide)) (by decide) (by decide) (by decide) (by decide) (by decide) W)
      have N2 := Lib.hid (fun W => show Calls Try.prog 19 #[.slice (some ⟨W.heap.size, 0, none⟩) 2 2, .int .i64 0] (W.alloc (.cells #[.int .u64 0, .int .u64 0] 22)) fun e w' => ∃ bo cp, e = .returned (.slice bo 0 cp) ∧ Rows2 bo [] w' ∧ Below W.heap.size W w' from needs_lit (L := [0, 0]) (d := 0) (M := []) (needs_closed rfl (by decide)) (by decide) (by decide) (by decide) (by decide) (by decide) W)
      have N3 := Lib.hid (fun W => show Calls Try.prog 19 #[.slice none 0 0, .int .i64 3] W fun e w' => e = .returned (.slice none 0 0) ∧ Below W.heap.size W w' from needs_none none 0 [] 3 W (.inl rfl) (by decide) (.inl rfl))
      have N4 := Lib.hid (fun W => show Calls Try.prog 19 #[.slice (some ⟨W.heap.size, 0, none⟩) 1 1, .int .i64 3] (W.alloc (.cells #[.int .u64 8] 22)) fun e w' => e = .returned (.slice none 0 0) ∧ Below W.heap.size W w' from needs_bad (L := [8]) (d := 3) (by decide) (by decide) W)
      have N5 := Lib.hid (fun W => show Calls Try.prog 19 #[.slice (some ⟨W.heap.size, 0, none⟩) 1 1, .int .i64 (-1)] (W.alloc (.cells #[.int .u64 0] 22)) fun e w' => e = .returned (.slice none 0 0) ∧ Below W.heap.size W w' from needs_bad (L := [0]) (d := -1) (by decide) (by decide) W)
      have N6 := Lib.hid (fun W => show Calls Try.prog 19 #[.slice (some ⟨W.heap.size, 0, none⟩) 1 1, .int .i64 17] (W.alloc (.cells #[.int .u64 0] 22)) fun e w' => e = .returned (.slice none 0 0) ∧ Below W.heap.size W w' from needs_bad (L := [0]) (d := 17) (by decide) (by decide) W)
      have N7 := Lib.hid (fun W => show Calls Try.prog 19 #[.slice (some ⟨W.heap.size, 0, none⟩) 1 1, .int .i64 16] (W.alloc (.cells #[.int .u64 65535] 22)) fun e w' => ∃ bo cp, e = .returned (.slice bo 16 cp) ∧ Rows2 bo _ w' ∧ Below W.heap.size W w' from needs_lit (L := [65535]) (d := 16) (needs_single 65535 16) (by decide) (by decide) (by decide) (by decide) (by decide) W)
      have N8 := Lib.hid (fun W => show Calls Try.prog 19 #[.slice (some ⟨W.heap.size, 0, none⟩) 4 4, .int .i64 2] (W.alloc (.cells #[.int .u64 0, .int .u64 1, .int .u64 2, .int .u64 3] 22)) fun e w' => ∃ bo cp, e = .returned (.slice bo 2 cp) ∧ Rows2 bo [[], []] w' ∧ Below W.heap.size W w' from needs_lit (L := [0, 1, 2, 3]) (d := 2) (M := [[], []]) (needs_closed rfl (by decide)) (by decide) (by decide) (by decide) (by decide) (by decide) W)
      have N9 := Lib.hid (fun W => show Calls Try.prog 19 #[.slice (some ⟨W.heap.size, 0, none⟩) 3 3, .int .i64 2] (W.alloc (.cells #[.int .u64 1, .int .u64 1, .int .u64 0] 22)) fun e w' => ∃ bo cp, e = .returned (.slice bo 2 cp) ∧ Rows2 bo [[], [1]] w' ∧ Below W.heap.size W w' from needs_lit (L := [1, 1, 0]) (d := 2) (M := [[], [1]]) (needs_closed rfl (by decide)) (by decide) (by decide) (by decide) (by decide) (by decide) W)
      go_wp2_with (first
        | (go_at_call 17; refine (HWk.out _).mono ?_; rintro e w3 ⟨rfl, hb⟩; replace HB1 := Lib.hid (HB1.out.trans (hb.mono HB1.out.size)); clear hb)
        | (go_at_call 10; (with_reducible first | refine (HL1.out _).mono ?_ | refine (HL2.out _).mono ?_ | refine (HL3.out _).mono ?_ | refine (HL4.out _).mono ?_); rintro e w3 ⟨rfl, rfl⟩)
        | (go_at_call 12; (with_reducible refine (HE1.out _).mono ?_); rintro e w3 ⟨rfl, rfl⟩)
        | (go_at_call 14; (with_reducible first | refine (HS6.out _).mono ?_ | refine (HS7.out _).mono ?_); rintro e w3 ⟨rfl, rfl⟩)
        | (go_at_call 16; (with_reducible refine (HP7.out _).mono ?_); rintro e w3 ⟨rfl, rfl⟩)
        | (go_at_call 19; (with_reducible first | refine (N1.out _).mono ?_ | refine (N2.out _).mono ?_ | refine (N7.out _).mono ?_ | refine (N8.out _).mono ?_ | refine (N9.out _).mono ?_); rintro e w3 ⟨bo, cp, rfl, hR, hb⟩; have HR := Lib.hid hR; replace HB1 := Lib.hid (HB1.out.trans (hb.mono HB1.out.size)); clear hb hR)
        | (go_at_call 19; (with_reducible first | refine (N3.out _).mono ?_ | refine (N4.out _).mono ?_ | refine (N5.out _).mono ?_ | refine (N6.out _).mono ?_); rintro e w3 ⟨rfl, hb⟩; replace HB1 := Lib.hid (HB1.out.trans (hb.mono HB1.out.size)); clear hb)
        | (go_at_call 18; (with_reducible first | refine (same_a _ _ _ HR.out).mono ?_ | refine (same_b _ _ _ HR.out).mono ?_ | refine (same_c _ _ _ HR.out).mono ?_); rintro e w3 ⟨rfl, hb⟩; replace HB1 := Lib.hid (HB1.out.trans (hb.mono HB1.out.size)); clear hb))
      go_ret
      exact ⟨rfl, HB1.out⟩
end Go.Proofs.Ytcobflhnphikaaa
