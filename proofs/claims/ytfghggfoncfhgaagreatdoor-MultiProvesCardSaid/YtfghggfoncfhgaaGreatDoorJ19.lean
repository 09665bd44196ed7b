/- The places that are needed, as an iterator hands them over. -/
import Derived.Test.YtfghggfoncfhgaaGreatDoorJ8
import Derived.Test.YtfghggfoncfhgaaGreatDoorJ11
import Derived.Test.YtfghggfoncfhgaaGreatDoorJ17
import Derived.Test.YtfghggfoncfhgaaGreatDoorJ18
import Derived.Test.YtfghggfoncfhgaaGreatDoorJ1
import Derived.Test.YtfghggfoncfhgaaGreatDoorJ4
import Derived.Laws.AppendOwn
import Derived.Laws.OwnMore
import Derived.Test.YtfghggfoncfhgaaGreatDoorJ2
namespace Go.Proofs.YtfghggfoncfhgaaGreatDoor
open Go.RowKit Go.Sort

/-- a row whose block lies from lo on below hi -/
def RowAt (lo hi : Nat) (ai : Option Addr) (N : List Nat) (w : World) : Prop := N = [] ∨ ∃ g, ai = some ⟨g, 0, none⟩ ∧ lo ≤ g ∧ g < hi ∧ ∀ t (h : t < N.length), w.cell? ⟨g, t, none⟩ = some (.int .u64 (N[t] : Int))
theorem RowAt.kept {lo hi : Nat} {ai : Option Addr} {N : List Nat} {w w' : World} (h : RowAt lo hi ai N w) (hw : hi ≤ w.heap.size) (hk : Kept (fun j => lo ≤ j ∧ j < hi) w w') : RowAt lo hi ai N w' := by
  rcases h with h6 | ⟨g, g1, g2, g3, g4⟩
  · exact .inl h6
  · exact .inr ⟨g, g1, g2, g3, fun t ht => (World.cell?_of_block (a := ⟨g, t, none⟩) (hk.block g (by omega) ⟨g2, g3⟩)).trans (g4 t ht)⟩
/-- rows of rows, all of whose blocks lie from lo on below hi -/
def RowsIn (lo hi : Nat) (bo : Option Addr) (M : List (List Nat)) (w : World) : Prop :=
  M = [] ∨ ∃ b, bo = some ⟨b, 0, none⟩ ∧ lo ≤ b ∧ b < hi ∧ ∀ i (h : i < M.length), ∃ ai ci, w.cell? ⟨b, i, none⟩ = some (.slice ai (M[i]).length ci) ∧ RowAt lo hi ai M[i] w
theorem RowsIn.kept {lo hi : Nat} {bo : Option Addr} {M : List (List Nat)} {w w' : World} (h : RowsIn lo hi bo M w) (hw : hi ≤ w.heap.size) (hk : Kept (fun j => lo ≤ j ∧ j < hi) w w') : RowsIn lo hi bo M w' := by
  rcases h with h | ⟨b, h1, h2, h3, h4⟩
  · exact .inl h
  · refine .inr ⟨b, h1, h2, h3, fun i hi' => ?_⟩
    obtain ⟨ai, ci, h5, h6⟩ := h4 i hi'
    exact ⟨ai, ci, (World.cell?_of_block (a := ⟨b, i, none⟩) (hk.block b (by omega) ⟨h2, h3⟩)).trans h5, h6.kept hw hk⟩
theorem needs_in (ao : Option Addr) (cap : Nat) (L : List Nat) (n d : Nat) (w : World) (hN : Nums ao L w) (hn0 : L.length = n) (h0 : L ≠ []) (hn : L.length ≤ 49) (hs : ∀ x ∈ L, x < 2 ^ d) (hd : d ≤ 16) :
    Calls Tryz.prog 40 #[.slice ao n cap, .int .i64 (d : Int)] w fun e w' => ∃ (bo : Option Addr) (cp : Nat), e = .returned (.slice bo d cp) ∧ RowsIn w.heap.size w'.heap.size bo (needM L d) w' ∧ Below w.heap.size w w' := by
  subst hn0
  have hp : 2 ^ d ≤ 2 ^ 16 := Nat.pow_le_pow_right (by decide) hd
  refine (needs49_any ao cap L d w hN (fun x hx => by have := hs x hx; omega) h0 hn (fun x hx => by have := hs x hx; simp [standsB, this]; omega) hd).mono ?_
  rintro e w' ⟨v, vs, Ms, rfl, hown, hMs, hrows, hb⟩
  have hvl : vs.length = d := by simpa using hown.1
  have hall : ∀ i N, Ms[i]? = some N → ∃ x, vs[i]? = some x ∧ w'.ownsRow w.heap.size 23 1 x N.length (N.map encU) ∧ Need49 (upTo L i) N := by
    intro i N hN'
    have hi := (List.getElem?_eq_some_iff.1 hN').1
    obtain ⟨x, hx⟩ : ∃ x, vs[i]? = some x := ⟨_, List.getElem?_eq_getElem (by omega)⟩
    exact ⟨x, hx, hrows i x N hx hN'⟩
  have hNd : Needs L d Ms := ⟨hMs, fun i N h => by obtain ⟨x, _, _, h3⟩ := hall i N h; exact h3.1⟩
  obtain rfl := hNd.eq (needs_M hs)
  have hlt := hown.lt
  have hown0 := hown
  rcases hown.2 with ⟨rfl, hd0⟩ | ⟨g, cp, cur, rfl, h1, h2, h3, h4, h5, h6⟩
  · exact ⟨none, 0, by rw [hd0], .inl (List.length_eq_zero_iff.1 (by omega)), hb⟩
  · refine ⟨_, cp, rfl, .inr ⟨g, rfl, h1, lit_lt h2, fun i hi => ?_⟩, hb⟩
    obtain ⟨x, hx, hrow, _⟩ := hall i (needM L d)[i] (List.getElem?_eq_getElem hi)
    obtain ⟨ai, ci, rfl, hn3, hn4⟩ := nums_of_row hrow
    refine ⟨ai, ci, (hown0.cellAt i (by omega)).trans hx, ?_⟩
    rcases hrow.2 with ⟨_, hz⟩ | ⟨g2, cp2, cur2, e2, k1, k2, k3, k4, k5, k6⟩
    · exact .inl (List.length_eq_zero_iff.1 hz)
    · cases e2
      refine .inr ⟨g2, rfl, k1, lit_lt k2, fun t ht => ?_⟩
      rw [hrow.cellAt t (by omega), List.getElem?_map, List.getElem?_eq_getElem ht]
      rfl
/-- what is known of positions -/
abbrev lvs (P : List Nat) (d : Nat) : List Nat := P.map fun x => turnB x (d : Int)
/-- the k-th place that is needed: its level, its number there -/
def encA (P : List Nat) (d k : Nat) : Nat := ((flat (needM (lvs P d) d))[k]?.getD (0, 0)).1
def encB (P : List Nat) (d k : Nat) : Nat := ((flat (needM (lvs P d) d))[k]?.getD (0, 0)).2
theorem enc_at {P : List Nat} {d i j x : Nat} {N : List Nat} (hi : (needM (lvs P d) d)[i]? = some N) (hj : N[j]? = some x) : encA P d (pre (needM (lvs P d) d) i + j) = i ∧ encB P d (pre (needM (lvs P d) d) i + j) = x := by
  obtain ⟨h1, h2⟩ := List.getElem?_eq_some_iff.1 hi
  obtain ⟨h3, h4⟩ := List.getElem?_eq_some_iff.1 hj
  subst h2
  rw [encA, encB, flat_get _ 0 i j h1 h3, h4]
  simp
theorem mneeded_any (ao : Option Addr) (n cap : Nat) (d : Int) (w : World) : Calls Tryz.prog 20 #[.slice ao n cap, .int .i64 d] w fun e w' => e = .returned (.func (.func 39) #[] #[.pointer (some ⟨w.heap.size, 0, none⟩), .pointer (some ⟨w.heap.size + 1, 0, none⟩)]) ∧ w' = (w.alloc (.cells #[.slice ao n cap] 24)).alloc (.cells #[.int .i64 d] 3) := by
  go_enter Tryz.func20, Tryz.ntmps20
  go_wp2
  go_ret
  exact ⟨rfl, rfl⟩
abbrev NeS (b1 b2 : Nat) (v1 v2 : Value) (W wz : World) : Prop := wz.cell? ⟨b1, 0, none⟩ = some v1 ∧ wz.cell? ⟨b2, 0, none⟩ = some v2 ∧ Below W.heap.size W wz
theorem ne_next {b1 b2 : Nat} {v1 v2 : Value} {W wz wa : World} (h : NeS b1 b2 v1 v2 W wz) (hb : Below wz.heap.size wz wa) : NeS b1 b2 v1 v2 W wa :=
  ⟨(World.cell?_of_block (a := ⟨b1, 0, none⟩) (hb.block b1 (World.block_lt_of_cell? wz _ h.1))).trans h.1, (World.cell?_of_block (a := ⟨b2, 0, none⟩) (hb.block b2 (World.block_lt_of_cell? wz _ h.2.1))).trans h.2.1, h.2.2.trans (hb.mono h.2.2.size)⟩
theorem ne_drew {b1 b2 : Nat} {v1 v2 : Value} {W wz : World} (h : NeS b1 b2 v1 v2 W wz) : NeS b1 b2 v1 v2 W wz.drew := ne_next h (Below.refl _ _).drew
set_option maxRecDepth 100000 in
set_option maxHeartbeats 2000000 in
theorem needed_hands (b1 b2 : Nat) (ao : Option Addr) (cap : Nat) (P : List Nat) (d : Nat) (h0 : P ≠ []) (hn : P.length ≤ 49) (hP : ∀ x ∈ P, x < 2 ^ d) (hd : d ≤ 16) :
    HandsMid Tryz.prog 39 #[.pointer (some ⟨b1, 0, none⟩), .pointer (some ⟨b2, 0, none⟩)] (fun k => #[.int .i64 (encA P d k : Int), .int .u64 (encB P d k : Int)]) (pre (needM (lvs P d) d) d)
      (fun W => W.cell? ⟨b1, 0, none⟩ = some (.slice ao P.length cap) ∧ W.cell? ⟨b2, 0, none⟩ = some (.int .i64 (d : Int)) ∧ Nums ao P W) := by
  rintro l J W ⟨hc1, hc2, hN⟩ hY h0J
  have hp16 : 2 ^ d ≤ 2 ^ 16 := Nat.pow_le_pow_right (by decide) hd
  have hLn : (lvs P d).length = P.length := by simp
  have hL0 : lvs P d ≠ [] := fun e => h0 (List.map_eq_nil_iff.1 e)
  have hLt : ∀ x ∈ lvs P d, x < 2 ^ d := by
    intro x hx
    obtain ⟨y, hy, rfl⟩ := List.mem_map.1 hx
    exact turnB_lt hd (hP y hy)
  have HL := Lib.hid (fun wz (h : NeS b1 b2 (.slice ao P.length cap) (.int .i64 (d : Int)) W wz) => mleaves_any ao cap P (d : Int) wz (nums_next hN h.2.2) (by omega) (fun x hx => by have := hP x hx; omega))
  have HD := Lib.hid (fun B wz (h : wz.heap[B]? = some (.cells (ups (lvs P d) P.length).toArray 23 (0, 0))) => needs_in (some ⟨B, 0, none⟩) P.length (lvs P d) P.length d wz (nums_ups (by rw [hLn]; exact h)) hLn hL0 (by omega) hLt hd)
  have HML := Lib.hid (needM_len (lvs P d) d)
  have H49 := Lib.hid (show ∀ i (h : i < (needM (lvs P d) d).length), ((needM (lvs P d) d)[i]).length ≤ 49 from fun i h => by
    have h1 := need_le ((needs_M hLt).2 i _ (List.getElem?_eq_getElem h))
    simp only [upTo, List.length_map] at h1
    omega)
  have HEN := Lib.hid (fun i j x N hi hj => enc_at (P := P) (d := d) (i := i) (j := j) (x := x) (N := N) hi hj)
  have HPS := Lib.hid (fun i (h : i < (needM (lvs P d) d).length) => pre_succ h)
  have HPL := Lib.hid (fun i j (h : i < (needM (lvs P d) d).length) hj => pre_lt (j := j) h hj)
  have HY := Lib.hid hY
  have HJ0 := Lib.hid h0J
  have n0 : (d : Int) ≤ 16 := by omega
  have n1 : (P.length : Int) ≤ 49 := by omega
  clear hN hY h0J hP h0 hLn hL0 hLt hp16
  generalize needM (lvs P d) d = M at *
  refine (callsIn_wide (n := 1)).1 ?_
  refine callsIn_of_wp Tryz.func39 rfl trivial ?_ rfl
  simp only [Tryz.ntmps39, List.size_toArray, List.length_cons, List.length_nil, Nat.reduceAdd, Nat.reduceSub, Array.replicate_succ, Array.replicate_zero, List.push_toArray, List.append_toArray, List.nil_append, List.cons_append]
  gi_wp2
  refine wpIn_wide.2 ?_
  have hs0 : NeS b1 b2 (.slice ao P.length cap) (.int .i64 (d : Int)) W W := ⟨hc1, hc2, Below.refl _ _⟩
  have hs1 := ne_drew hs0
  go_region_held3 (fun wz => NeS b1 b2 (.slice ao P.length cap) (.int .i64 (d : Int)) W wz)
      (first | (with_reducible assumption) | (with_reducible exact ne_drew (by assumption)))
      (first
        | (go_at_call 41; refine (HL.out _ (by with_reducible assumption)).mono ?_; rintro e w2 ⟨rfl, hrow, hb2⟩; have hs2 := ne_next (by with_reducible assumption) hb2)
        | (go_at_call 40; refine (HD.out _ _ hrow).mono ?_; rintro e w3 ⟨bo, cp, rfl, hin, hb3⟩; have hs3 := ne_next (by with_reducible assumption) hb3))
  obtain ⟨lo, hlo⟩ : ∃ lo, lo = w2.heap.size := ⟨_, rfl⟩
  obtain ⟨mid, hmid⟩ : ∃ mid, mid = w3.heap.size := ⟨_, rfl⟩
  have HIN0 : Hid (RowsIn lo mid bo M w3) := Lib.hid (by rw [hlo, hmid]; exact hin)
  have HW3 : Hid (W.heap.size ≤ lo ∧ W.heap.size ≤ mid ∧ mid ≤ w3.heap.size ∧ Kept (fun _ => True) W w3) := Lib.hid ⟨by rw [hlo]; exact hs2.2.2.size, by rw [hmid]; exact hs3.2.2.size, by rw [hmid]; exact Nat.le_refl _, hs3.2.2.os, hs3.2.2.tape, hs3.2.2.output, hs3.2.2.size, fun j hj _ => hs3.2.2.block j hj⟩
  have HJ1 := Lib.hid (show J mid (pre M 0) W by rw [pre_zero]; exact HJ0.out mid)
  clear hs0 hs1 hrow hb2 hs2 hin hb3 hs3 hlo hmid HJ0 HL HD hc1 hc2
  gi_wp2
  gi_loopw [4, 5, 7, 14] (fun v4 v5 v7 v14 wr => ∃ i : Nat, i ≤ d ∧ v14 = .int .i64 (i : Int) ∧ Hid (∃ W1, J mid (pre M i) W1 ∧ Kept (fun _ => True) W1 wr) ∧ Hid (RowsIn lo mid bo M wr) ∧ Hid (mid ≤ wr.heap.size)) (fun _ _ _ v14 _ => d - (intOf v14).toNat)
  case atStart => exact ⟨0, Nat.zero_le _, rfl, Lib.hid ⟨W, HJ1.out, HW3.out.2.2.2⟩, HIN0, Lib.hid HW3.out.2.2.1⟩
  case round =>
    obtain ⟨i, hi, rfl, HJ, HIN, HZ⟩ := hrel
    by_cases hid : i < d
    · have hl : (i : Int) < (d : Int) := by omega
      have i0 : (0 : Int) ≤ (i : Int) := by omega
      have hiM : i < M.length := by rw [HML.out]; exact hid
      have hq := HIN.out
      rcases hq with hM0 | ⟨b, rfl, g1, g2, g3⟩
      · rw [hM0] at hiM; simp at hiM
      obtain ⟨ai, ci, hcell, hrow⟩ := g3 i hiM
      have H49i := H49.out i hiM
      have HPi := Lib.hid (HPS.out i hiM)
      have HPLi := Lib.hid (fun j hj => HPL.out i j hiM hj)
      have HENi := Lib.hid (fun j x hj => HEN.out i j x _ (List.getElem?_eq_getElem hiM) hj)
      obtain ⟨N, hNe⟩ : ∃ N, N = M[i] := ⟨_, rfl⟩
      rw [← hNe] at hcell hrow H49i HPi HPLi HENi
      have HROW := Lib.hid hrow
      have n49 : (N.length : Int) ≤ 49 := by omega
      clear hNe hrow g3 hiM
      gi_wp2
      gi_loopw [7, 21] (fun v7 v21 wr2 => ∃ j : Nat, j ≤ N.length ∧ v21 = .int .i64 (j : Int) ∧ Hid (∃ W1, J mid (pre M i + j) W1 ∧ Kept (fun _ => True) W1 wr2) ∧ Hid (RowsIn lo mid (some ⟨b, 0, none⟩) M wr2) ∧ Hid (RowAt lo mid ai N wr2) ∧ Hid (mid ≤ wr2.heap.size)) (fun _ v21 _ => N.length - (intOf v21).toNat)
      case atStart => exact ⟨0, Nat.zero_le _, rfl, HJ, HIN, HROW, HZ⟩
      case round =>
        obtain ⟨j, hj, rfl, HJ2, HIN2, HROW2, HZ2⟩ := hrel
        by_cases hjl : j < N.length
        · have hl2 : (j : Int) < (N.length : Int) := by omega
          have j0 : (0 : Int) ≤ (j : Int) := by omega
          have hq := HROW2.out
          rcases hq with h0 | ⟨g, rfl, g1, g2, g3⟩
          · rw [h0] at hjl; simp at hjl
          have hx := g3 j hjl
          have hen := HENi.out j _ (List.getElem?_eq_getElem hjl)
          obtain ⟨x, hxe⟩ : ∃ x, x = N[j] := ⟨_, rfl⟩
          rw [← hxe] at hx hen
          obtain ⟨W1, hj1, hk1⟩ := HJ2.out
          have HY2 := HY.out mid (pre M i + j) W1 wr HW3.out.2.1 HZ2.out (by rw [← HML.out]; exact HPLi.out j hjl) hj1 hk1
          simp only [hen.1, hen.2] at HY2
          obtain ⟨fn, tmps, assign, body, hy, hR⟩ := HY2
          clear hj1 hk1 hen hxe g3
          gi_wp2
          refine hR.mono ?_
          rintro e w4 ⟨rfl, hj2, hk2⟩
          have HJ3 := Lib.hid hj2
          have HK := Lib.hid (hk2.less (T := fun j => lo ≤ j ∧ j < mid) fun j _ h => ⟨Nat.le_trans HW3.out.1 h.1, h.2⟩)
          clear hR hy hj2 hk2
          gi_wp2
          go_roundw
          case rel => exact ⟨j + 1, hjl, by go_num, Lib.hid ⟨w4, HJ3.out, Kept.refl _ _⟩, Lib.hid (HIN2.out.kept HZ2.out HK.out), Lib.hid (HROW2.out.kept HZ2.out HK.out), Lib.hid (Nat.le_trans HZ2.out HK.out.size)⟩
          case measure => simp [intOf] <;> omega
        · have hl2 : ¬ (j : Int) < (N.length : Int) := by omega
          have HJ3 := Lib.hid (show ∃ W1, J mid (pre M (i + 1)) W1 ∧ Kept (fun _ => True) W1 wr by
            have hjn : j = N.length := by omega
            rw [HPi.out, ← hjn]; exact HJ2.out)
          gi_wp2
          go_roundw
          case rel => exact ⟨i + 1, hid, by go_num, HJ3, HIN2, HZ2⟩
          case measure => simp [intOf] <;> omega
    · have hl : ¬ (i : Int) < (d : Int) := by omega
      have HF := Lib.hid (show ∃ W1, J mid (pre M d) W1 ∧ Kept (fun _ => True) W1 wr by
        have hin : i = d := by omega
        rw [← hin]; exact HJ.out)
      gi_wp2
      go_end0
      obtain ⟨W1, f1, f2⟩ := HF.out
      exact ⟨⟨_, rfl⟩, mid, HW3.out.2.1, W1, f1, f2⟩
end Go.Proofs.YtfghggfoncfhgaaGreatDoor
/- Lists of texts in new memory. -/
namespace Go.Proofs.YtfghggfoncfhgaaGreatDoor
open Go.RowKit

theorem info_str : (Tryz.prog.info? 9).map (fun i => (i.zero, i.size, i.bytes)) = some (some (.string ⟨#[]⟩), 1, 16) := by kernel_rfl
def strC (L : List (List UInt8)) : List Value := L.map fun x => Value.string ⟨x.toArray⟩
theorem strC_get {L : List (List UInt8)} {i : Nat} (h : i < L.length) : (strC L)[i]? = some (.string ⟨L[i].toArray⟩) := by simp [strC, h]
theorem strC_len (L : List (List UInt8)) : (strC L).length = L.length := by simp [strC]
theorem strC_one (L : List (List UInt8)) : ∀ v ∈ strC L, v.oneCell' = true := by
  intro v hv
  obtain ⟨x, _, rfl⟩ := List.mem_map.1 hv
  rfl
/-- a list in new memory -/
def FewP (L : List (List UInt8)) (lo : Nat) (ao : Option Addr) (cp : Nat) (w : World) : Prop := (L = [] ∧ ao = none ∧ cp = 0) ∨ (L ≠ [] ∧ ∃ g cs, ao = some ⟨g, 0, none⟩ ∧ lo ≤ g ∧ w.heap[g]? = some (Obj.cells cs 9 (0, 0)) ∧ L.length ≤ cp ∧ ∀ i (h : i < L.length), cs[i]? = some (.string ⟨L[i].toArray⟩))
theorem FewP.strs {L : List (List UInt8)} {lo : Nat} {ao : Option Addr} {cp : Nat} {w : World} (h : FewP L lo ao cp w) : Strs ao L w := by
  rcases h with ⟨rfl, _⟩ | ⟨_, g, cs, rfl, _, h, _, hc⟩
  · exact .inl rfl
  · refine .inr ⟨g, 0, rfl, lit_lt h, fun i hi => ?_⟩
    rw [Nat.zero_add, lit_cell h]
    exact hc i hi
theorem FewP.below {L : List (List UInt8)} {lo : Nat} {ao : Option Addr} {cp : Nat} {w w' : World} (h : FewP L lo ao cp w) (hb : Below w.heap.size w w') : FewP L lo ao cp w' := by
  rcases h with h | ⟨h0, g, cs, e, h1, h2, h3, h4⟩
  · exact .inl h
  · exact .inr ⟨h0, g, cs, e, h1, (hb.block g (lit_lt h2)).trans h2, h3, h4⟩
theorem FewP.two {L : List (List UInt8)} {lo : Nat} {ao : Option Addr} {cp : Nat} {w : World} (h : FewP L lo ao cp w) : (L = [] ∧ ao = none ∧ cp = 0) ∨ (L ≠ [] ∧ Strs ao L w) := by
  rcases h with h | ⟨h0, h1⟩
  · exact .inl h
  · exact .inr ⟨h0, FewP.strs (lo := lo) (cp := cp) (.inr ⟨h0, h1⟩)⟩
theorem few_of_row {L : List (List UInt8)} {lo : Nat} {v : Value} {w : World} (ho : w.ownsRow lo 9 1 v L.length (strC L)) (hne : L ≠ []) : ∃ ao cp, v = .slice ao L.length cp ∧ FewP L lo ao cp w := by
  have hz := List.length_pos_iff.2 hne
  obtain ⟨h1, ⟨rfl, h3⟩ | ⟨g, cp, cur, rfl, h3, h4, h5, h6, h7⟩⟩ := ho
  · omega
  · refine ⟨_, cp, rfl, .inr ⟨hne, g, cur, rfl, h3, h4, h5, fun i hi => ?_⟩⟩
    have e : (cur.toList.take (L.length * 1))[i]? = (strC L)[i]? := by rw [h7.2]
    rw [List.getElem?_take_of_lt (by omega), Array.getElem?_toList] at e
    rw [e]
    exact strC_get hi
theorem strs_of_row {L : List (List UInt8)} {lo : Nat} {v : Value} {w : World} (ho : w.ownsRow lo 9 1 v L.length (strC L)) : ∃ ao cp, v = .slice ao L.length cp ∧ Strs ao L w := by
  by_cases hne : L = []
  · subst hne
    obtain ⟨h1, ⟨rfl, h3⟩ | ⟨g, cp, cur, rfl, _⟩⟩ := ho
    · exact ⟨none, 0, rfl, .inl rfl⟩
    · exact ⟨_, cp, rfl, .inl rfl⟩
  · obtain ⟨ao, cp, h1, h2⟩ := few_of_row ho hne
    exact ⟨ao, cp, h1, h2.strs⟩
theorem extract_take (X : (List UInt8)) (m : Nat) : (∃ k : Nat, min (X.length : Int) (m : Int) = (k : Int) ∧ k ≤ X.length ∧ (⟨X.toArray⟩ : ByteArray).extract 0 k = ⟨(X.take m).toArray⟩) := by
  refine ⟨min X.length m, by omega, by omega, ?_⟩
  rw [extract_list, List.drop_zero]
  congr 2
  by_cases h : X.length ≤ m
  · rw [Nat.min_eq_left h, List.take_of_length_le (Nat.le_refl _), List.take_of_length_le h]
  · rw [Nat.min_eq_right (by omega)]
/-- the first k texts, the first m bytes of each -/
def cutBy (L : List (List UInt8)) (k m : Nat) : List (List UInt8) := (L.take k).map (·.take m)
theorem cutBy_len (L : List (List UInt8)) (k m : Nat) : (cutBy L k m).length ≤ k ∧ (cutBy L k m).length ≤ L.length := by rw [cutBy, List.length_map, List.length_take]; omega
theorem cutBy_short (L : List (List UInt8)) (k m i : Nat) (h : i < (cutBy L k m).length) : (cutBy L k m)[i].length ≤ m := by
  simp only [cutBy, List.getElem_map, List.length_take]
  omega
theorem cutBy_snoc (L : List (List UInt8)) (k m : Nat) (X : (List UInt8)) (h : k < L.length) (hX : L[k] = X) : strC (cutBy L k m) ++ [.string ⟨(X.take m).toArray⟩] = strC (cutBy L (k + 1) m) := by
  subst hX
  rw [cutBy, cutBy, List.take_succ_eq_append_getElem h, List.map_append, strC, strC, List.map_append]
  rfl
end Go.Proofs.YtfghggfoncfhgaaGreatDoor
/- Ranges over a function whose iterator writes nothing: what the caller owes, at the wide fence. -/
namespace Go.Proofs.YtfghggfoncfhgaaGreatDoor
open Go.RowKit

/-- what is asked of an iterator that writes nothing, and hands over enc 0 .. enc (N - 1) -/
def HandsRead (P : Program) (gf : Nat) (lb : Array Value) (enc : Nat → Array Value) (N : Nat) (ok : World → Prop) : Prop :=
  ∀ (l : Nat) (J : Nat → World → Prop) (W : World), ok W →
    (∀ k W1 W', k < N → J k W1 → Kept (fun _ => True) W1 W' → YieldAt Fence.wide 0 P l (enc k) W' fun e W'' => e = .returned (.bool true) ∧ J (k + 1) W'' ∧ ok W'') →
    J 0 W → Calls P gf (#[.func (.yield l) #[] #[]] ++ lb) W fun e W' => (∃ v, e = .returned v) ∧ ∃ W1, J N W1 ∧ Kept (fun _ => True) W1 W'

theorem wp_rangeFunc_read {P : Program} {g : Operand} {ps : Array Tmp} {assign body : Code} {Q : Exit → Act → World → Prop} {a : Act} {w : World}
    {gf : Nat} {lb : Array Value} (hg : a.eval g = .func (.func gf) #[] lb) (eg : ∀ args w, (callFunc gf args).run P w = .ok (.enter gf args) w)
    {enc : Nat → Array Value} {N : Nat} {ok : World → Prop} (hseq : HandsRead P gf lb enc N ok) (hps : ∀ k, (enc k).size = ps.size)
    (lo : Nat) (hlo : w.heap.size = lo) (Own : List Nat) (hok : ∀ W', Kept (fun j => j < lo ∧ j ∉ Own) w W' → ok W')
    (R : Nat → World → Prop) (hR : ∀ k W W', R k W → Kept (fun j => j < lo ∨ lo + 2 ≤ j) W W' → R k W') (h0 : R 0 w) (a₁ : Nat → Act)
    (hassign : ∀ (l k : Nat) (W : World) (K : Act → World → Prop), K (a₁ k) W →
      assign.wpIn (Fence.wide.inRound l) 0 P (Exit.then K (fun _ _ _ => False)) { tmps := (ps.zip (enc k)).foldl (fun t (p, v) => t.setIfInBounds p v) a.tmps, defers := [] } W)
    (hbody : ∀ (l : Nat) (k : Nat) (W : World), k < N → lo + 2 ≤ W.heap.size → R k W →
      body.wpIn (Fence.wide.inRound l) 0 P (roundKept (fun j => (j < lo ∧ j ∉ Own) ∨ (lo ≤ j ∧ j < lo + 2)) (R (k + 1)) W) (a₁ k) W)
    (hdone : ∀ (W : World), R N W → Kept (fun j => j < lo ∧ j ∉ Own) w W → W.heap[lo]? = some (.deferred (some [])) → Q .normal { a with defers := { target := .collected lo, args := #[] } :: a.defers } W) :
    (Code.rangeFunc g ps assign body).wp P Q a w := by
  refine (wpIn_wide (n := 0)).1 (wpIn_rangeFunc ?_)
  intro fn hfn
  obtain ⟨rec, hrec⟩ : ∃ rec : LoopState → Option Code → Loop, rec = fun st pe => { state := st, pending := pe, fn, tmps := a.tmps, params := ps, assign, body, defers := lo } := ⟨_, rfl⟩
  obtain ⟨W1, hW1⟩ : ∃ W1, (w.alloc (.deferred (some []))).alloc (.loop (rec .ready none)) = W1 := ⟨_, rfl⟩
  have hz1 : W1.heap.size = lo + 2 := by rw [← hW1]; simp [hlo]
  have hL1 : W1.heap[lo + 1]? = some (.loop (rec .ready none)) := by
    rw [← hW1]; have := World.alloc_heap_new (w.alloc (.deferred (some []))) (.loop (rec .ready none)); rwa [World.size_alloc, hlo] at this
  have hK1 : W1.heap[lo]? = some (.deferred (some [])) := by
    rw [← hW1]
    have := World.alloc_heap_new w (.deferred (some []))
    rw [hlo] at this
    exact (Below.heap_alloc _ _ _ (by simp; omega)).trans this
  have hb1 : Below lo w W1 := by
    rw [← hW1]
    have := Below.refl lo w
    exact (this.alloc (by omega) _).alloc (by simp; omega) _
  have hk1 : Kept (fun j => j < lo ∧ j ∉ Own) w W1 := Kept.of_below hb1 fun j hj => hj.1
  refine ⟨w.heap.size + 1, [{ target := .collected w.heap.size, args := #[] }], W1, { target := .fn (.func gf) lb, args := #[.func (.yield (w.heap.size + 1)) #[] #[]] }, W1, gf,
    #[.func (.yield (w.heap.size + 1)) #[] #[]] ++ lb, W1, ?_, ?_, ?_, ?_, fun h => by simp [Fence.wide] at h, ?_⟩
  · rw [← hW1, hrec, ← hlo]; exact run_enterLoop_outer _ _ _ _ _
  · simp only [resolve, hg]
    simp [go_sem]
  · intro f' hf'; trivial
  · simp [invoke, go_sem, eg]
  · refine callsIn_wide.2 ?_
    rw [hlo]
    have key := hseq (lo + 1)
      (fun k W => R k W ∧ Kept (fun j => j < lo ∧ j ∉ Own) w W ∧ W.heap[lo + 1]? = some (.loop (rec .ready none)) ∧ W.heap[lo]? = some (.deferred (some [])) ∧ lo + 2 ≤ W.heap.size)
      W1 (hok W1 hk1) ?_ ⟨hR 0 _ _ h0 ⟨hb1.os, hb1.tape, hb1.output, hb1.size, fun j hj _ => hb1.block j (by omega)⟩, hk1, hL1, hK1, by omega⟩
    · refine key.mono ?_
      rintro e W2' ⟨⟨v, rfl⟩, W2, ⟨hr, hb, hl, hk, hz⟩, hkeep⟩
      have hl' : W2'.heap[lo + 1]? = some (.loop (rec .ready none)) := (hkeep.block _ (by omega) trivial).trans hl
      have hk' : W2'.heap[lo]? = some (.deferred (some [])) := (hkeep.block _ (by omega) trivial).trans hk
      refine ⟨none, _, by have := run_endLoop (P := P) hl' (by rw [hrec]; simp); rw [hrec] at this; exact this, ?_⟩
      have keep : ∀ j, j ≠ lo + 1 → (W2'.putObj (lo + 1) (.loop { rec .ready none with state := .exhausted })).heap[j]? = W2'.heap[j]? := fun j hj => World.putObj_heap_other (by omega)
      have kk : Kept (fun j => j < lo ∨ lo + 2 ≤ j) W2 (W2'.putObj (lo + 1) (.loop { rec .ready none with state := .exhausted })) :=
        (hkeep.less (fun j _ _ => trivial)).trans (Kept.putObj _ _ _ _ (by omega))
      have hq := hdone _ (hR N _ _ hr kk) (hb.trans (kk.less fun j _ hj => .inl hj.1)) ((keep _ (by omega)).trans hk')
      rw [hrec] at hq
      exact hq
    · rintro k W W' hkN ⟨hr, hb, hl, hk, hz⟩ hkeep
      have hsz' := hkeep.size
      have hl' : W'.heap[lo + 1]? = some (.loop (rec .ready none)) := (hkeep.block _ (by omega) trivial).trans hl
      have hk' : W'.heap[lo]? = some (.deferred (some [])) := (hkeep.block _ (by omega) trivial).trans hk
      have hr' : R k W' := hR k _ _ hr (hkeep.less fun j _ _ => trivial)
      have hb' : Kept (fun j => j < lo ∧ j ∉ Own) w W' := hb.trans (hkeep.less fun j _ _ => trivial)
      have hy := run_yield (P := P) (args := enc k) hl' (by rw [hrec]; exact hps _)
      rw [hrec] at hy
      have hlt' : lo + 1 < W'.heap.size := by omega
      refine ⟨fn, _, assign, body, hy, roundIn_of_wpIn hfn (hassign _ k W' _ ⟨_, run_beginRound hl' (by rw [hrec]), ?_⟩)⟩
      obtain ⟨Wb, hWb⟩ : ∃ Wb, W'.putObj (lo + 1) (.loop { rec .ready none with state := .busy }) = Wb := ⟨_, rfl⟩
      have hl2 : Wb.heap[lo + 1]? = some (.loop { rec .ready none with state := .busy }) := by rw [← hWb]; exact World.putObj_heap_same hlt'
      have keepb : ∀ j, j ≠ lo + 1 → Wb.heap[j]? = W'.heap[j]? := fun j hj => by rw [← hWb]; exact World.putObj_heap_other (by omega)
      have hzb : Wb.heap.size = W'.heap.size := by rw [← hWb]; simp [World.putObj]
      have kb : Kept (fun j => j ≠ lo + 1) W' Wb := by rw [← hWb]; exact Kept.putObj _ _ _ _ (by simp)
      have hbb := hbody (lo + 1) k Wb hkN (by omega) (hR k _ _ hr' (kb.less fun j _ hj => by omega))
      rw [← hWb] at hbb hl2 keepb hzb kb
      refine wpIn_mono hbb ?_
      rw [hWb] at hl2 keepb hzb kb ⊢
      rintro e a3 W3 hp3
      cases e with
      | normal =>
        obtain ⟨hb3, hr3⟩ := hp3
        have hl3 : W3.heap[lo + 1]? = some (.loop { rec .ready none with state := .busy }) := (hb3.block _ (by omega) (.inr ⟨by omega, by omega⟩)).trans hl2
        have hk3 : W3.heap[lo]? = some (.deferred (some [])) := (hb3.block _ (by omega) (.inr ⟨by omega, by omega⟩)).trans ((keepb _ (by omega)).trans hk')
        have hend : (Instr.endRound (lo + 1) none).run P W3 = .ok (.bool true) (W3.putObj (lo + 1) (.loop (rec .ready none))) := by
          have := run_endRound (P := P) none hl3
          rw [hrec] at this ⊢
          exact this
        have hz3 := hb3.size
        have ke : Kept (fun j => j ≠ lo + 1) W3 (W3.putObj (lo + 1) (.loop (rec .ready none))) := Kept.putObj _ _ _ _ (by simp)
        have hfin : Kept (fun j => j < lo ∧ j ∉ Own) w (W3.putObj (lo + 1) (.loop (rec .ready none))) := ((hb'.trans (kb.less fun j _ hj => by omega)).trans (hb3.less fun j _ hj => .inl hj)).trans (ke.less fun j _ hj => by omega)
        exact ⟨_, _, hend, rfl, ⟨hR _ _ _ hr3 (ke.less fun j _ hj => by omega), hfin, World.putObj_heap_same (by omega), (World.putObj_heap_other (by omega)).trans hk3, by simp [World.putObj]; omega⟩, hok _ hfin⟩
      | ret => exact hp3.elim
      | exit id => exact hp3.elim
      | goto t => exact hp3.elim
      | panic ch => exact hp3.elim
      | outgrown => exact hp3.elim
end Go.Proofs.YtfghggfoncfhgaaGreatDoor
/- The row above: slices.Chunk by pairs. -/
namespace Go.Proofs.YtfghggfoncfhgaaGreatDoor
open Go.RowKit

set_option maxRecDepth 100000 in
set_option maxHeartbeats 2000000 in
theorem chunk_hands (b1 b2 B m cap : Nat) (hm : m ≤ 65536) (hcap : 2 * m ≤ cap) : HandsRead Tryz.prog 53 #[.pointer (some ⟨b1, 0, none⟩), .pointer (some ⟨b2, 0, none⟩)] (fun k => #[.slice (some ⟨B, 2 * k, none⟩) 2 2]) m
      (fun W => W.cell? ⟨b1, 0, none⟩ = some (.slice (some ⟨B, 0, none⟩) (2 * m) cap) ∧ W.cell? ⟨b2, 0, none⟩ = some (.int .i64 2)) := by
  rintro l J W hok hY h0
  have HY := Lib.hid hY
  have HJ0 := Lib.hid h0
  have HOK := Lib.hid hok
  clear hY h0 hok
  refine (callsIn_wide (n := 1)).1 ?_
  refine callsIn_of_wp Tryz.func53 rfl trivial ?_ rfl
  simp only [Tryz.ntmps53, List.size_toArray, List.length_cons, List.length_nil, Nat.reduceAdd, Nat.reduceSub, Array.replicate_succ, Array.replicate_zero, List.push_toArray, List.append_toArray, List.nil_append, List.cons_append]
  gi_wp2
  gi_loopw [4, 5] (fun i s5 wr => ∃ k : Nat, k ≤ m ∧ i = .int .i64 ((2 * k : Nat) : Int) ∧ Hid (∃ W1, J k W1 ∧ Kept (fun _ => True) W1 wr) ∧ Hid (wr.cell? ⟨b1, 0, none⟩ = some (.slice (some ⟨B, 0, none⟩) (2 * m) cap) ∧ wr.cell? ⟨b2, 0, none⟩ = some (.int .i64 2))) (fun i _ _ => 2 * m - (intOf i).toNat)
  case atStart => exact ⟨0, by omega, rfl, Lib.hid ⟨W, HJ0.out, Kept.refl _ _⟩, HOK⟩
  case round =>
    obtain ⟨k, hk, rfl, HJ, HC⟩ := hrel
    obtain ⟨c1, c2⟩ := HC.out
    by_cases hlt : k < m
    · have hl : ((2 * k : Nat) : Int) < ((2 * m : Nat) : Int) := by omega
      have hl0 : (0 : Int) ≤ ((2 * k : Nat) : Int) := by omega
      have hl2 : ((2 * k : Nat) : Int) ≤ ((2 * m : Nat) : Int) := by omega
      generalize hK : 2 * k = K at *
      generalize hM : 2 * m = M at *
      have hne : ¬ cap = K := by omega
      gi_wp2
      refine wpIn_wide.2 ?_
      go_region_held3 (fun w' => w'.cell? ⟨b1, 0, none⟩ = some (.slice (some ⟨B, 0, none⟩) M cap) ∧ w'.cell? ⟨b2, 0, none⟩ = some (.int .i64 2)) (first | (with_reducible assumption) | (exact ⟨c1, c2⟩)) (fail)
      all_goals
        have hmn : min (2 : Int) ((M - K : Nat) : Int) = 2 := by omega
        rw [hmn]
        clear hmn
        have e1 : wr.drew.cell? ⟨b1, 0, none⟩ = some (.slice (some ⟨B, 0, none⟩) M cap) := c1
        have e2 : wr.drew.cell? ⟨b2, 0, none⟩ = some (.int .i64 2) := c2
        obtain ⟨W1, hj1, hk1⟩ := HJ.out
        have HY2 := HY.out k W1 wr.drew hlt hj1 hk1.drew
        have hK2 : K + 2 ≤ M := by omega
        clear hj1 hk1 hne
        rw [hK] at HY2
        obtain ⟨fn, tmps, assign, body, hy, hR⟩ := HY2
        gi_wp2
        refine hR.mono ?_
        rintro e w2 ⟨rfl, hj2, hok2⟩
        have HJ2 := Lib.hid hj2
        have HO2 := Lib.hid hok2
        obtain ⟨f1, f2⟩ := hok2
        clear hR hy hj2 e1 e2 c1 c2
        gi_wp2
        go_roundw
        case rel => exact ⟨k + 1, by omega, by rw [← hK]; go_num, Lib.hid ⟨w2, HJ2.out, Kept.refl _ _⟩, Lib.hid ⟨f1, f2⟩⟩
        case measure => simp [intOf] <;> omega
    · have hl : ¬ ((2 * k : Nat) : Int) < ((2 * m : Nat) : Int) := by omega
      have hkd : k = m := by omega
      subst hkd
      gi_wp2
      go_end0
      exact ⟨⟨_, rfl⟩, HJ.out⟩
end Go.Proofs.YtfghggfoncfhgaaGreatDoor
