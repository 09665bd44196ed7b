/- What is needed of a set of up to a thousand. -/
import Derived.Test.YtmnklonoelpidaaGreatDoorJ19
import Derived.Test.YtmnklonoelpidaaGreatDoorJ1
import Derived.Lib.ItoaNum
import Derived.Test.YtmnklonoelpidaaGreatDoorJ8
import Derived.Deep.Cut
import Derived.Deep.RegionHeld3
import Derived.Shelf.Bits.Mul64
import Derived.Test.YtmnklonoelpidaaGreatDoorProg
import Derived.Laws.MakeOwn
import Derived.Laws.CopyOwn
import Derived.Test.YtmnklonoelpidaaGreatDoorJ7
import Derived.Deep.AppendLies
namespace Go.Proofs.YtmnklonoelpidaaGreatDoor
open Go.RowKit Go.Sort

set_option maxRecDepth 100000 in
set_option maxHeartbeats 2000000 in
theorem needed49_any (b n : Nat) (K : List Nat) (w : World) (hs : SetU b n K w) (hn : n ≤ 1000) :
    Calls Tryz.prog 172 #[.map (some b)] w fun e w' => ∃ v N, e = .returned v ∧ Need K N ∧ N.length ≤ n ∧ w'.ownsRow w.heap.size 22 1 v N.length (N.map encU) ∧ Below w.heap.size w w' := by
  have HS := Lib.hid hs
  obtain ⟨B, hB⟩ : ∃ B, B = w.heap.size := ⟨_, rfl⟩
  have hbB : b < B := by have := hs.lt; omega
  clear hs
  go_enter Tryz.func172, Tryz.ntmps172
  go_wp2_with (at_range; refine wpList_range_set _ rfl _ 218 rfl 227 keyU Tryz.underlying218 b n K rfl HS.out ?_; intro w0 hrg0 hg0 hs0)
  rw [← hB] at hrg0 hs0 ⊢
  have HR0 := Lib.hid hrg0
  have HG0 := Lib.hid ((Below.refl B w).grown hg0 (by omega) (fun k e => by cases e))
  have hz0 : B + 1 ≤ w0.heap.size := by omega
  have HB := Lib.hid hB
  clear hrg0 hg0 hs0 hB
  go_frame
  go_loopw [3] (fun v wr => ∃ V : List Nat, Hid (RangeU b B n K V wr) ∧ Hid (wr.ownsRow (B + 1) 22 1 v (lacks K V).length ((lacks K V).map encU)) ∧ Hid (Below B w wr) ∧ Hid (B + 1 ≤ wr.heap.size)) (fun _ wr => wr.rangeLeft b B)
  case atStart => exact ⟨[], HR0, Lib.hid (World.ownsRow_nil _ _ _ _), HG0, Lib.hid hz0⟩
  case round =>
    obtain ⟨V, HR, HV, HL, HZ⟩ := hrel
    have HSH := Lib.hid HR.out.short
    go_wp2_with (at_next; refine wpList_next_set _ rfl _ rfl keyU Tryz.underlying22 b B n K V rfl HR.out ?_ ?_)
    · intro hdone
      have HD := Lib.hid hdone
      have HQ := Lib.hid (sort_row49 (B + 1) u3 _ (lacks K V) wr HV.out (by have := lacks_len K V; have := HSH.out.1; omega) (lacks_nodup K V HSH.out.2))
      clear hdone
      go_wp2_with (go_at_call 182; refine HQ.out.mono ?_; rintro e w2 ⟨rfl, hg2, N, hN1, hN2, hN3⟩; have HG2 := Lib.hid hg2; have HN := Lib.hid (And.intro hN1 (And.intro hN2 hN3)); clear hg2 hN1 hN2 hN3)
      go_ret
      have hlen : N.length = (lacks K V).length := by have := HN.out.2.2.1; simpa using this
      refine ⟨_, N, rfl, ⟨HN.out.1, fun x => (HN.out.2.1 x).trans (lacks_mem K V HD.out x)⟩, ?_, ?_, ?_⟩
      · have := lacks_len K V
        have := HSH.out.1
        omega
      · rw [hlen, ← HB.out]; exact row_base HN.out.2.2 (by omega)
      · rw [← HB.out]; exact HL.out.grown HG2.out (by have := HZ.out; omega) (fun k e => by have := row_low HV.out (Nat.le_refl _) k e; omega)
    · intro x w1 hx64 hxK hxV hrg1 hlt1 hgr1 hsz1 hen
      have HM := Lib.hid hlt1
      have HR1 := Lib.hid hrg1
      have HG1 := Lib.hid hgr1
      have HZ1 := Lib.hid (show B + 1 ≤ w1.heap.size by have := HZ.out; omega)
      have HV1 := Lib.hid (HV.out.kept hgr1 (.inr (ranges_row HR.out HV.out).2.symm))
      have HC := Lib.hid (sibling_any x hx64 w1)
      have hs64 := sib_lt64 hx64
      have HH := Lib.hid (has_any b n K (sib x) hs64 w1 hrg1.set)
      have HSN := Lib.hid (lacks_snoc K V x)
      have HL1 := Lib.hid (HL.out.grown hgr1 (by have := HZ.out; omega) (fun k e => by cases e; exact Nat.le_refl _))
      clear hlt1 hrg1 hgr1 hsz1 hxK hxV hx64 hs64
      generalize sib x = sx at *
      by_cases hm : sx ∈ K
      · rw [decide_eq_true hm] at HH
        rw [if_pos hm] at HSN
        clear hm
        go_wp2_with (first | (go_at_call 180; refine HC.out.mono ?_; rintro e w2 ⟨rfl, rfl⟩) | (go_at_call 181; refine HH.out.mono ?_; rintro e w2 ⟨rfl, hg2⟩; have HG2 := Lib.hid hg2; clear hg2))
        go_roundw
        case rel => exact ⟨V ++ [x], Lib.hid (HR1.out.kept HG2.out (by simp) (by simp)), Lib.hid (by rw [HSN.out]; exact HV1.out.kept HG2.out (Classical.em _)), Lib.hid (HL1.out.grown HG2.out (by have := HZ1.out; omega) (fun k e => by cases e)), Lib.hid (by have := HG2.out.size; have := HZ1.out; omega)⟩
        case measure =>
          rw [left_kept (HG2.out.block b (by have := HZ1.out; omega) (by simp)) (HG2.out.block B (by have := HZ1.out; omega) (by simp))]
          exact HM.out
      · rw [decide_eq_false hm] at HH
        rw [if_neg hm] at HSN
        clear hm
        go_wp2_with (first | (go_at_call 180; refine HC.out.mono ?_; rintro e w2 ⟨rfl, rfl⟩) | (go_at_call 181; refine HH.out.mono ?_; rintro e w2 ⟨rfl, hg2⟩; have HG2 := Lib.hid hg2; have HV2 := Lib.hid (HV1.out.kept hg2 (Classical.em _)); clear hg2) |
          (at_builtin; refine append_num rfl _ _ rfl rfl rfl HV2.out (by have := lacks_len K V; have := HSH.out.1; omega) (by have := HG2.out.size; have := HZ1.out; omega) ?_; intro v3 w3 ho3 hg3; have HO3 := Lib.hid ho3; have HG3 := Lib.hid hg3; clear ho3 hg3))
        go_roundw
        case rel =>
          have hrr := ranges_row (HR1.out.kept HG2.out (by simp) (by simp)) HV2.out
          exact ⟨V ++ [x], Lib.hid ((HR1.out.kept HG2.out (by simp) (by simp)).kept HG3.out hrr.1 hrr.2), Lib.hid (by rw [HSN.out]; exact HO3.out),
            Lib.hid ((HL1.out.grown HG2.out (by have := HZ1.out; omega) (fun k e => by cases e)).grown HG3.out (by have := HZ1.out; have := HG2.out.size; omega) (fun k e => by have := row_low HV2.out (Nat.le_refl _) k e; omega)), Lib.hid (by have := HG2.out.size; have := HG3.out.size; have := HZ1.out; omega)⟩
        case measure =>
          have hrr := ranges_row (HR1.out.kept HG2.out (by simp) (by simp)) HV2.out
          have hz := HZ1.out
          have h2 := HG2.out.size
          rw [left_kept (HG3.out.block b (by omega) hrr.1) (HG3.out.block B (by omega) hrr.2), left_kept (HG2.out.block b (by omega) (by simp)) (HG2.out.block B (by omega) (by simp))]
          exact HM.out
end Go.Proofs.YtmnklonoelpidaaGreatDoor
/- What is needed of up to a thousand leaves: the program's answer. -/
namespace Go.Proofs.YtmnklonoelpidaaGreatDoor
open Go.RowKit Go.Sort
attribute [local go_sem] Oper.semAt_some

def Need49 (K N : List Nat) : Prop := Need K N ∧ N.length ≤ 1000
/-- the needed ones of k levels: the variable at b4 holds a row of rows -/
def NeedsAt49 (base b4 : Nat) (L : List Nat) (k : Nat) (W : World) : Prop :=
  ∃ (v : Value) (vs : List Value) (Ms : List (List Nat)), W.heap[b4]? = some (.cells #[v] 125 (0, 0)) ∧ W.ownsRow base 44 1 v k vs ∧ Ms.length = k ∧
    ∀ (i : Nat) (x : Value) (N : List Nat), vs[i]? = some x → Ms[i]? = some N → W.ownsRow base 22 1 x N.length (N.map encU) ∧ Need49 (upTo L i) N
theorem NeedsAt49.kept {S : Nat → Prop} {base b4 : Nat} {L : List Nat} {k : Nat} {W W' : World} (h : NeedsAt49 base b4 L k W) (hk : Kept S W W') (h4 : S b4) (hS : ∀ j, base ≤ j → S j) : NeedsAt49 base b4 L k W' := by
  obtain ⟨v, vs, Ms, h1, h2, h3, h5⟩ := h
  exact ⟨v, vs, Ms, (hk.block b4 (Array.getElem?_eq_some_iff.1 h1).1 h4).trans h1, own_kept h2 hk hS, h3, fun i x N hx hN => ⟨own_kept (h5 i x N hx hN).1 hk hS, (h5 i x N hx hN).2⟩⟩
/-- one level more: what the append and the store leave -/
theorem needs_step49 {lo b4 k : Nat} {L : List Nat} {W w1 : World} {v x : Value} {vs : List Value} {Ms : List (List Nat)} {N : List Nat} (h4 : b4 < lo) (hz : lo + 3 ≤ W.heap.size) (hk : k ≤ 100)
    (hcell : W.heap[b4]? = some (.cells #[v] 125 (0, 0))) (hown : W.ownsRow (lo + 3) 44 1 v k vs) (hMs : Ms.length = k)
    (hrows : ∀ (i : Nat) (x : Value) (N : List Nat), vs[i]? = some x → Ms[i]? = some N → W.ownsRow (lo + 3) 22 1 x N.length (N.map encU) ∧ Need49 (upTo L i) N)
    (hb : Below W.heap.size W w1) (hx : w1.ownsRow W.heap.size 22 1 x N.length (N.map encU)) (hN : Need49 (upTo L k) N) :
    ∃ (g cp : Nat) (w2 : World), (Builtin.append_ #[125, 125] 125 #[v, .slice (some ⟨w1.heap.size, 0, none⟩) 1 1]).run Tryz.prog (w1.alloc (.cells #[x] 44)) = .ok (.slice (some ⟨g, 0, none⟩) (k + 1) cp) w2 ∧
      w1.cell? ⟨b4, 0, none⟩ = some v ∧ w2.cell? ⟨b4, 0, none⟩ = some v ∧ w2.frozen? ⟨b4, 0, none⟩ = false ∧
      Kept (fun j => (j < lo ∧ j ∉ [b4]) ∨ (lo ≤ j ∧ j < lo + 3)) W (w2.setCell ⟨b4, 0, none⟩ (.slice (some ⟨g, 0, none⟩) (k + 1) cp)) ∧
      NeedsAt49 (lo + 3) b4 L (k + 1) (w2.setCell ⟨b4, 0, none⟩ (.slice (some ⟨g, 0, none⟩) (k + 1) cp)) := by
  obtain ⟨i0, hi, hz0, hz1, hz2⟩ := info_parts infoW
  have hsz := hb.size
  have kb : Kept (fun j => j < W.heap.size) W w1 := Kept.of_below hb fun j h => h
  have ka : Kept (fun j => j < W.heap.size) W (w1.alloc (.cells #[x] 44)) := kb.alloc _
  have ho1 : w1.ownsRow (lo + 3) 44 1 v k vs := by
    refine ⟨hown.1, ?_⟩
    rcases hown.2 with h | ⟨g, cap, cur, h0, h1, h2, h3⟩
    · exact .inl h
    · exact .inr ⟨g, cap, cur, h0, h1, (hb.block g (Array.getElem?_eq_some_iff.1 h2).1).trans h2, h3⟩
  obtain ⟨v2, w2, hrun, ho2, hg2, _⟩ := run_append_own (P := Tryz.prog) (w := w1.alloc (.cells #[x] 44)) (lo + 3) 125 125 44 i0 (.slice none 0 0) 1 24 Tryz.underlying125 hi hz0 hz1 hz2 rfl (by decide) v k vs (ho1.alloc _) ⟨w1.heap.size, 0, none⟩ 1 1 [x] rfl (cell_one_new _ _ _)
    (by intro u hu; simp at hu; subst hu; exact own_one hx) (by unfold maxLen; omega) (by omega) (by simp; omega)
  obtain ⟨g, cp, rfl⟩ := ownsRow_succ ho2
  have hv4 : ∀ j, some j = v.ownBlock → lo + 3 ≤ j := fun j e => (hown.lt j e.symm).1
  have kw : Kept (fun j => j < lo + 3) W w2 := (ka.less (fun j _ h => by omega)).grown hg2 (fun j e _ h => by have := hv4 j e; omega)
  have c2 : w2.heap[b4]? = some (.cells #[v] 125 (0, 0)) := (kw.block b4 (by omega) (by omega)).trans hcell
  have ks : Kept (fun j => (j < lo ∧ j ∉ [b4]) ∨ (lo ≤ j ∧ j < lo + 3)) W (w2.setCell ⟨b4, 0, none⟩ (.slice (some ⟨g, 0, none⟩) (k + 1) cp)) := (kw.less (fun j _ h => by rcases h with h | h <;> omega)).setCell b4 0 _ (fun _ h => h.elim (fun h => h.2 (by simp)) (fun h => by omega))
  refine ⟨g, cp, w2, hrun, by simp [World.cell?, (kb.block b4 (by omega) (by omega)).trans hcell], by simp [World.cell?, c2], by simp [World.frozen?, c2], ks, ?_⟩
  have hset : ∀ j, j ≠ b4 → (w2.setCell ⟨b4, 0, none⟩ (.slice (some ⟨g, 0, none⟩) (k + 1) cp)).heap[j]? = w2.heap[j]? := fun j hj => Below.heap_setCell _ _ _ _ (show j ≠ b4 from hj)
  have k2 : Kept (fun j => j ≠ b4) w2 (w2.setCell ⟨b4, 0, none⟩ (.slice (some ⟨g, 0, none⟩) (k + 1) cp)) := (Kept.refl _ w2).setCell b4 0 _ (fun _ h => h rfl)
  refine ⟨_, vs ++ [x], Ms ++ [N], ?_, own_kept ho2 k2 (fun j hj => by omega), by simp [hMs], ?_⟩
  · show (w2.heap.modify b4 _)[b4]? = _
    rw [Array.getElem?_modify, if_pos rfl, c2]
    rfl
  · intro i y N' hy hN'
    by_cases hik : i < k
    · have hvl : vs.length = k := by simpa using hown.1
      rw [List.getElem?_append_left (by omega)] at hy hN'
      have := hrows i y N' hy hN'
      have hr1 : w1.ownsRow (lo + 3) 22 1 y N'.length (N'.map encU) := by
        refine ⟨this.1.1, ?_⟩
        rcases this.1.2 with h | ⟨g, cap, cur, h0, h1, h2, h3⟩
        · exact .inl h
        · exact .inr ⟨g, cap, cur, h0, h1, (hb.block g (Array.getElem?_eq_some_iff.1 h2).1).trans h2, h3⟩
      have hr2 := (hr1.alloc (.cells #[x] 44)).kept hg2 (own_apart (w := w1.alloc (.cells #[x] 44)) (ho1.alloc _) (hr1.alloc _) (by decide))
      exact ⟨own_kept hr2 k2 (fun j hj => by omega), this.2⟩
    · have hvl : vs.length = k := by simpa using hown.1
      have hi : i = k := by
        have h := (List.getElem?_eq_some_iff.1 hy).1
        simp at h; omega
      subst hi
      rw [← hvl, List.getElem?_concat_length] at hy
      rw [← hMs, List.getElem?_concat_length] at hN'
      cases hy
      cases hN'
      have hr2 := (hx.alloc (.cells #[x] 44)).kept hg2 (own_apart (w := w1.alloc (.cells #[x] 44)) (ho1.alloc _) (hx.alloc _) (by decide))
      exact ⟨own_kept (row_base hr2 hz) k2 (fun j hj => by omega), hN⟩
theorem needed49_sl (b n : Nat) (K : List Nat) (w : World) (hs : SetU b n K w) (hn : n ≤ 1000) :
    Calls Tryz.prog 172 #[.map (some b)] w fun e w' => ∃ (ao : Option Addr) (cp : Nat) (N : List Nat), e = .returned (.slice ao N.length cp) ∧ Need49 K N ∧ w'.ownsRow w.heap.size 22 1 (.slice ao N.length cp) N.length (N.map encU) ∧ Below w.heap.size w w' := by
  refine (needed49_any b n K w hs hn).mono ?_
  rintro e w' ⟨v, N, rfl, h1, h2, h3, h4⟩
  obtain ⟨ao, cp, rfl, _, _⟩ := nums_of_row h3
  exact ⟨ao, cp, N, rfl, ⟨h1, by omega⟩, h3, h4⟩
set_option maxRecDepth 100000 in
set_option maxHeartbeats 2000000 in
theorem needs49_any (ao : Option Addr) (cap : Nat) (L : List Nat) (d : Nat) (w : World) (hN : Nums ao L w) (hL : ∀ x ∈ L, x < 18446744073709551616) (h0 : L ≠ []) (hn : L.length ≤ 1000) (hs : ∀ x ∈ L, standsB x (d : Int) = true) (hd : d ≤ 16) :
    Calls Tryz.prog 146 #[.slice ao L.length cap, .int .i64 (d : Int)] w fun e w' => ∃ (v : Value) (vs : List Value) (Ms : List (List Nat)), e = .returned v ∧ w'.ownsRow w.heap.size 44 1 v d vs ∧ Ms.length = d ∧
      (∀ (i : Nat) (x : Value) (N : List Nat), vs[i]? = some x → Ms[i]? = some N → w'.ownsRow w.heap.size 22 1 x N.length (N.map encU) ∧ Need49 (upTo L i) N) ∧ Below w.heap.size w w' := by
  obtain ⟨B, hB⟩ : ∃ B, B = w.heap.size := ⟨_, rfl⟩
  have hlen : 0 < L.length := List.length_pos_iff.2 h0
  have hl0 : ((L.length : Int) == 0) = false := by rw [beq_eq_false_iff_ne]; omega
  obtain ⟨w1, hw1⟩ : ∃ w1, w.alloc (.cells #[.int .i64 (d : Int)] 3) = w1 := ⟨_, rfl⟩
  have hz1 : w1.heap.size = B + 1 := by rw [← hw1, World.size_alloc, hB]
  have hN1 : Nums ao L w1 := by rw [← hw1]; exact hN.grown (World.grownBy_alloc _ _ none) (fun _ _ _ => by simp)
  have hc1 : w1.cell? ⟨B, 0, none⟩ = some (.int .i64 (d : Int)) := by rw [← hw1, hB]; simp
  have hb1 : Below B w w1 := by rw [← hw1]; exact (Below.refl _ _).alloc (by omega) _
  obtain ⟨w2, hw2⟩ : ∃ w2, w1.alloc (.cells #[.slice none 0 0] 125) = w2 := ⟨_, rfl⟩
  have hz2 : w2.heap.size = B + 2 := by rw [← hw2, World.size_alloc, hz1]
  have hc2 : w2.cell? ⟨B, 0, none⟩ = some (.int .i64 (d : Int)) := by rw [← hw2]; exact (World.cell?_alloc_lt _ _ _ (by show B < _; omega)).trans hc1
  have hn2 : w2.heap[B + 1]? = some (.cells #[.slice none 0 0] 125 (0, 0)) := by rw [← hw2, ← hz1]; exact World.alloc_heap_new _ _
  have hb2 : Below B w w2 := by rw [← hw2]; exact hb1.alloc (by omega) _
  have hN2 : Nums ao L w2 := by rw [← hw2]; exact hN1.grown (World.grownBy_alloc _ _ none) (fun _ _ _ => by simp)
  obtain ⟨w3, hw3⟩ : ∃ w3, (w2.alloc (.cells #[.slice ao L.length cap] 44)).alloc (.cells #[.int .i64 (d : Int)] 3) = w3 := ⟨_, rfl⟩
  have hz3 : w3.heap.size = B + 4 := by rw [← hw3, World.size_alloc, World.size_alloc, hz2]
  have hk3 : Below (B + 2) w2 w3 := by rw [← hw3]; exact ((Below.refl _ _).alloc (by omega) _).alloc (by simp; omega) _
  have hq1 : w3.cell? ⟨B + 2, 0, none⟩ = some (.slice ao L.length cap) := by
    rw [← hw3, ← hz2]; exact (World.cell?_alloc_lt _ _ _ (by simp)).trans (by simp)
  have hq2 : w3.cell? ⟨B + 3, 0, none⟩ = some (.int .i64 (d : Int)) := by
    rw [← hw3, show B + 3 = (w2.alloc (.cells #[.slice ao L.length cap] 44)).heap.size by simp; omega]; simp
  have hb3 : Below B w w3 := hb2.trans (hk3.mono (by omega))
  have hn3 : w3.heap[B + 1]? = some (.cells #[.slice none 0 0] 125 (0, 0)) := (hk3.block _ (by omega)).trans hn2
  have hN3 : Nums ao L w3 := by
    rcases hN with h | ⟨b, off, rfl, h2, h3⟩
    · exact .inl h
    · exact .inr ⟨b, off, rfl, by omega, fun i hi => (hb3.cell (p := ⟨b, off + i, none⟩) (by show b < B; omega)).trans (h3 i hi)⟩
  have HC := Lib.hid (contains_any ao cap L B d w1 hN1 (by omega) hc1)
  have hany : (L.any fun x => !standsB x (d : Int)) = false := by
    rw [Bool.eq_false_iff]
    intro h
    obtain ⟨x, hx, hh⟩ := List.any_eq_true.1 h
    rw [hs x hx] at hh
    cases hh
  rw [hany] at HC
  have HV := Lib.hid (levels_any ao L.length cap (d : Int) w2)
  rw [hw3, hz2] at HV
  have HW := Lib.hid (And.intro hb3 (And.intro hn3 (And.intro hN3 (And.intro hq1 hq2))))
  have HB := Lib.hid hB
  have HZ3 := Lib.hid hz3
  have hB' : w.heap.size = B := hB.symm
  clear hany hN hN1 hN2 hN3 hb1 hb2 hb3 hn2 hn3 hq1 hq2 hk3 hc1 hw3 hB hz2 hz3
  refine calls_of_wp_marks Tryz.func146 rfl ?_
  simp only [Tryz.ntmps146, List.size_toArray, List.length_cons, List.length_nil, Nat.reduceAdd, Nat.reduceSub, Array.replicate_succ, Array.replicate_zero, List.push_toArray, List.append_toArray, List.nil_append, List.cons_append]
  go_wp2_with (first | (go_at_call 170; refine HC.out.mono ?_; rintro e w2 ⟨rfl, rfl⟩) | (go_at_call 171; refine HV.out.mono ?_; rintro e w2 ⟨rfl, rfl⟩))
  obtain ⟨hb3, hn3, hN3, hq1, hq2⟩ := HW.out
  refine wp_rangeFunc_own (gf := 177) (lb := #[.pointer (some ⟨B + 2, 0, none⟩), .pointer (some ⟨B + 3, 0, none⟩)]) rfl (enters_of Tryz.func177 (by kernel_rfl) rfl)
    (levels_hands (B + 2) (B + 3) ao cap L d hL (by omega) hd) (fun _ => rfl) (B + 4) HZ3.out ?ok (by simp) [B + 1] (by simp) (fun k W W' h e => h.block e)
    (fun k W => NeedsAt49 (B + 7) (B + 1) L k W ∧ B + 4 ≤ W.heap.size) ?keep ?start
    (fun m => { tmps := #[.slice ao L.length cap, .int .i64 (d : Int), undef, .pointer (some ⟨B, 0, none⟩), .slice none 0 0, .func (.func 169) #[] #[.pointer (some ⟨B, 0, none⟩)], .pointer (some ⟨B + 1, 0, none⟩), .map (some m),
      .func (.func 169) #[] #[.pointer (some ⟨B, 0, none⟩)], .slice ao L.length cap, .int .i64 (L.length : Int), .bool false, .bool false, .slice ao L.length cap, .func (.func 169) #[] #[.pointer (some ⟨B, 0, none⟩)], .bool false, .bool false,
      .slice ao L.length cap, .int .i64 (d : Int), .func (.func 177) #[] #[.pointer (some ⟨B + 2, 0, none⟩), .pointer (some ⟨B + 3, 0, none⟩)], .map (some m), undef, undef, undef, undef, undef, undef], defers := [] }) ?assign ?body ?done
  case ok =>
    intro W' hW'
    have hz := HZ3.out
    refine ⟨(hW'.cell (p := ⟨B + 2, 0, none⟩) (by show B + 2 < B + 4; omega)).trans hq1, (hW'.cell (p := ⟨B + 3, 0, none⟩) (by show B + 3 < B + 4; omega)).trans hq2, ?_⟩
    rcases hN3 with h | ⟨b, off, rfl, h2, h3⟩
    · exact .inl h
    · exact .inr ⟨b, off, rfl, by have := hW'.size; omega, fun i hi => (hW'.cell (p := ⟨b, off + i, none⟩) (by show b < B + 4; omega)).trans (h3 i hi)⟩
  case keep =>
    rintro k W W' ⟨h, hz⟩ hk
    exact ⟨h.kept hk (.inl (by omega)) (fun j hj => .inr (by omega)), by have := hk.size; omega⟩
  case start => exact ⟨⟨.slice none 0 0, [], [], hn3, World.ownsRow_nil _ _ _ _, rfl, fun i x N h => by simp at h⟩, by rw [HZ3.out]; omega⟩
  case assign =>
    intro l W K hK
    gi_wp2
    exact hK
  case body =>
    rintro l k W hkd hWz ⟨⟨v, vs, Ms, hcell, hown, hMs, hrows⟩, hz⟩ hset
    have hset2 : SetU (B + 4 + 2) L.length (upTo L k) W.drew := hset.block rfl
    have HND := Lib.hid (needed49_sl (B + 4 + 2) L.length (upTo L k) W.drew hset2 hn)
    have hc4 : W.cell? ⟨B + 1, 0, none⟩ = some v := by simp [World.cell?, hcell]
    have HST := Lib.hid (fun (w1 : World) (x : Value) (N : List Nat) => needs_step49 (lo := B + 4) (b4 := B + 1) (k := k) (L := L) (W := W.drew) (w1 := w1) (v := v) (x := x) (vs := vs) (Ms := Ms) (N := N) (by omega) hWz (by omega) hcell (own_kept hown (Kept.refl _ W).drew (fun _ _ => trivial)) hMs
      (fun i x N hx hN => ⟨own_kept (hrows i x N hx hN).1 (S := fun _ => True) (Kept.refl _ W).drew (fun _ _ => trivial), (hrows i x N hx hN).2⟩))
    have hmo : Tryz.prog.follows .mixedOrders = true := by kernel_rfl
    clear hset hset2 hrows hown hcell
    gi_wp2
    refine wpIn_region_any hmo ?_
    change wpAnyIn _ _ _ _ _ _ _ _ _ (World.drew _)
    refine wpAnyIn_ready (rs := [0, 1]) (by kernel_rfl) (by simp) (AllReadyIn.cons rfl (fun K hK => ?_) (AllReadyIn.cons rfl (fun K hK => ?_) AllReadyIn.nil))
    · go_simp
      refine hK _ _ ?_
      clear hK K
      refine wpAnyIn_ready (rs := [1]) (by kernel_rfl) (by simp) (AllReadyIn.cons rfl (fun K hK => ?_) AllReadyIn.nil)
      go_simp
      refine hK _ _ ?_
      clear hK K
      refine wpAnyIn_ready (rs := [2]) (by kernel_rfl) (by simp) (AllReadyIn.cons rfl (fun K hK => ?_) AllReadyIn.nil)
      go_simp
      refine ⟨trivial, rfl, (CallsIn.inRound l (callsIn_wide.2 HND.out)).mono ?_⟩
      rintro e w1 ⟨ax, cx, N, rfl, hneed, hxrow, hbel⟩
      obtain ⟨g, cp, w2, hrun, e1, e2, e3, hkp, hat⟩ := HST.out w1 _ N hbel hxrow hneed
      have HKP := Lib.hid ((Kept.refl _ W).drew.trans hkp)
      have HAT := Lib.hid hat
      have e4 : (w1.alloc (.cells #[.slice ax N.length cx] 44)).cell? ⟨B + 1, 0, none⟩ = some v := (World.cell?_alloc_lt _ _ _ (World.block_lt_of_cell? w1 _ e1)).trans e1
      clear hkp hat hneed hxrow hbel
      refine hK _ _ ?_
      clear hK K
      refine wpAnyIn_ready (rs := [3]) (by kernel_rfl) (by simp) (AllReadyIn.cons rfl (fun K hK => ?_) AllReadyIn.nil)
      go_simp
      refine hK _ _ ?_
      clear hK K
      refine wpAnyIn_ready (rs := [4]) (by kernel_rfl) (by simp) (AllReadyIn.cons rfl (fun K hK => ?_) AllReadyIn.nil)
      refine step_append_in rfl _ _ 125 rfl rfl rfl hrun ?_
      go_frame
      refine hK _ _ ?_
      clear hK K
      refine wpAnyIn_ready (rs := [5]) (by kernel_rfl) (by simp) (AllReadyIn.cons rfl (fun K hK => ?_) AllReadyIn.nil)
      go_simp
      refine hK _ _ ?_
      clear hK K
      refine wpAnyIn_done (by kernel_rfl) ?_ _
      exact ⟨HKP.out, HAT.out, by have := HKP.out.size; omega⟩
    · go_simp
      refine hK _ _ ?_
      clear hK K
      refine wpAnyIn_ready (rs := [0, 2]) (by kernel_rfl) (by simp) (AllReadyIn.cons rfl (fun K hK => ?_) (AllReadyIn.cons rfl (fun K hK => ?_) AllReadyIn.nil))
      · go_simp
        refine hK _ _ ?_
        clear hK K
        refine wpAnyIn_ready (rs := [2]) (by kernel_rfl) (by simp) (AllReadyIn.cons rfl (fun K hK => ?_) AllReadyIn.nil)
        go_simp
        refine ⟨trivial, rfl, (CallsIn.inRound l (callsIn_wide.2 HND.out)).mono ?_⟩
        rintro e w1 ⟨ax, cx, N, rfl, hneed, hxrow, hbel⟩
        obtain ⟨g, cp, w2, hrun, e1, e2, e3, hkp, hat⟩ := HST.out w1 _ N hbel hxrow hneed
        have HKP := Lib.hid ((Kept.refl _ W).drew.trans hkp)
        have HAT := Lib.hid hat
        have e4 : (w1.alloc (.cells #[.slice ax N.length cx] 44)).cell? ⟨B + 1, 0, none⟩ = some v := (World.cell?_alloc_lt _ _ _ (World.block_lt_of_cell? w1 _ e1)).trans e1
        clear hkp hat hneed hxrow hbel
        refine hK _ _ ?_
        clear hK K
        refine wpAnyIn_ready (rs := [3]) (by kernel_rfl) (by simp) (AllReadyIn.cons rfl (fun K hK => ?_) AllReadyIn.nil)
        go_simp
        refine hK _ _ ?_
        clear hK K
        refine wpAnyIn_ready (rs := [4]) (by kernel_rfl) (by simp) (AllReadyIn.cons rfl (fun K hK => ?_) AllReadyIn.nil)
        refine step_append_in rfl _ _ 125 rfl rfl rfl hrun ?_
        go_frame
        refine hK _ _ ?_
        clear hK K
        refine wpAnyIn_ready (rs := [5]) (by kernel_rfl) (by simp) (AllReadyIn.cons rfl (fun K hK => ?_) AllReadyIn.nil)
        go_simp
        refine hK _ _ ?_
        clear hK K
        refine wpAnyIn_done (by kernel_rfl) ?_ _
        exact ⟨HKP.out, HAT.out, by have := HKP.out.size; omega⟩
      · go_simp
        refine ⟨trivial, rfl, (CallsIn.inRound l (callsIn_wide.2 HND.out)).mono ?_⟩
        rintro e w1 ⟨ax, cx, N, rfl, hneed, hxrow, hbel⟩
        obtain ⟨g, cp, w2, hrun, e1, e2, e3, hkp, hat⟩ := HST.out w1 _ N hbel hxrow hneed
        have HKP := Lib.hid ((Kept.refl _ W).drew.trans hkp)
        have HAT := Lib.hid hat
        have e4 : (w1.alloc (.cells #[.slice ax N.length cx] 44)).cell? ⟨B + 1, 0, none⟩ = some v := (World.cell?_alloc_lt _ _ _ (World.block_lt_of_cell? w1 _ e1)).trans e1
        clear hkp hat hneed hxrow hbel
        refine hK _ _ ?_
        clear hK K
        refine wpAnyIn_ready (rs := [0, 3]) (by kernel_rfl) (by simp) (AllReadyIn.cons rfl (fun K hK => ?_) (AllReadyIn.cons rfl (fun K hK => ?_) AllReadyIn.nil))
        · go_simp
          refine hK _ _ ?_
          clear hK K
          refine wpAnyIn_ready (rs := [3]) (by kernel_rfl) (by simp) (AllReadyIn.cons rfl (fun K hK => ?_) AllReadyIn.nil)
          go_simp
          refine hK _ _ ?_
          clear hK K
          refine wpAnyIn_ready (rs := [4]) (by kernel_rfl) (by simp) (AllReadyIn.cons rfl (fun K hK => ?_) AllReadyIn.nil)
          refine step_append_in rfl _ _ 125 rfl rfl rfl hrun ?_
          go_frame
          refine hK _ _ ?_
          clear hK K
          refine wpAnyIn_ready (rs := [5]) (by kernel_rfl) (by simp) (AllReadyIn.cons rfl (fun K hK => ?_) AllReadyIn.nil)
          go_simp
          refine hK _ _ ?_
          clear hK K
          refine wpAnyIn_done (by kernel_rfl) ?_ _
          exact ⟨HKP.out, HAT.out, by have := HKP.out.size; omega⟩
        · go_simp
          refine hK _ _ ?_
          clear hK K
          refine wpAnyIn_ready (rs := [0]) (by kernel_rfl) (by simp) (AllReadyIn.cons rfl (fun K hK => ?_) AllReadyIn.nil)
          go_simp
          refine hK _ _ ?_
          clear hK K
          refine wpAnyIn_ready (rs := [4]) (by kernel_rfl) (by simp) (AllReadyIn.cons rfl (fun K hK => ?_) AllReadyIn.nil)
          refine step_append_in rfl _ _ 125 rfl rfl rfl hrun ?_
          go_frame
          refine hK _ _ ?_
          clear hK K
          refine wpAnyIn_ready (rs := [5]) (by kernel_rfl) (by simp) (AllReadyIn.cons rfl (fun K hK => ?_) AllReadyIn.nil)
          go_simp
          refine hK _ _ ?_
          clear hK K
          refine wpAnyIn_done (by kernel_rfl) ?_ _
          exact ⟨HKP.out, HAT.out, by have := HKP.out.size; omega⟩
  case done =>
    rintro W ⟨⟨v, vs, Ms, hcell, hown, hMs, hrows⟩, hz⟩ hkept hdef
    have hc4 : W.cell? ⟨B + 1, 0, none⟩ = some v := by simp [World.cell?, hcell]
    have HR := Lib.hid (And.intro hown (And.intro hMs hrows))
    have HK := Lib.hid hkept
    have HH3 := Lib.hid hb3
    clear hcell hown hrows hkept
    go_wp2
    refine ⟨by simp, .inl ⟨_, _, rfl, run_takeDeferred hdef, ?_⟩⟩
    obtain ⟨hown, hMs', hrows⟩ := HR.out
    have kp : Kept (fun j => j ≠ B + 4) W (W.putObj (B + 4) (.deferred none)) := Kept.putObj _ _ _ _ (by simp)
    have hbw := (HK.out.trans (kp.less (T := fun j => j < B + 4 ∧ j ∉ [B + 1]) fun j _ h => by omega)).below (B := B) (by rw [HZ3.out]; omega) (fun j h => ⟨by omega, by simp; omega⟩)
    refine ⟨_, results_tmp rfl _ _ _, v, vs, Ms, rfl, row_base (own_kept hown kp fun j h => by omega) (by have := HB.out; omega), hMs', fun i x N hx hN => ⟨row_base (own_kept (hrows i x N hx hN).1 kp fun j h => by omega) (by have := HB.out; omega), (hrows i x N hx hN).2⟩, ?_⟩
    rw [← HB.out]
    exact HH3.out.trans hbw

end Go.Proofs.YtmnklonoelpidaaGreatDoor
/- Depths: the least power that holds them. -/
namespace Go.Proofs.YtmnklonoelpidaaGreatDoor
open Go.RowKit

/-- the depth is the least of those that hold them -/
theorem dep_spec (n : Nat) (hn : n ≤ 65536) : n ≤ 2 ^ dep n ∧ ∀ j, j < dep n → 2 ^ j < n := by
  unfold dep
  by_cases h : n ≤ 1
  · have e : max n 1 - 1 = 0 := by omega
    rw [e, show Lib.bitLen 0 = 0 from rfl]
    exact ⟨by simpa using h, fun j hj => by omega⟩
  · obtain ⟨x, hx⟩ : ∃ x, n = x + 1 := ⟨n - 1, by omega⟩
    have e : max n 1 - 1 = x := by omega
    rw [e]
    obtain ⟨g1, g2, g3⟩ := Lib.bitLenAux_bounds 64 x (by omega) (by omega)
    have g1 : 1 ≤ Lib.bitLen x := g1
    have g2 : 2 ^ (Lib.bitLen x - 1) ≤ x := g2
    have g3 : x < 2 ^ Lib.bitLen x := g3
    refine ⟨by omega, fun j hj => ?_⟩
    have : 2 ^ j ≤ 2 ^ (Lib.bitLen x - 1) := Nat.pow_le_pow_right (by decide) (by omega)
    omega
theorem dep_le (n : Nat) (hn : n ≤ 65536) : dep n ≤ 16 := by
  rcases Nat.lt_or_ge 16 (dep n) with h | h
  · have := (dep_spec n hn).2 16 h
    omega
  · exact h
end Go.Proofs.YtmnklonoelpidaaGreatDoor
/- Digests as functions of what stands at the leaves; frames are short; small facts. -/
namespace Go.Proofs.YtmnklonoelpidaaGreatDoor
open Go.RowKit

/-- the digest of a place, of what stands at the leaves -/
def dg (g : Nat → (List UInt8)) : Nat → Nat → (List UInt8)
  | 0, k => g k
  | l + 1, k => hashL nodeT [dg g l (2 * k), dg g l (2 * k + 1)]
/-- the digest of a leaf of a list -/
def gl (L : List (List UInt8)) (d k : Nat) : (List UInt8) := if h : turnB k d < L.length then hashL leafT [L[turnB k d]] else hashL noneT []
theorem dg_len {g : Nat → (List UInt8)} (h : ∀ k, (g k).length ≤ 32) (l k : Nat) : (dg g l k).length ≤ 32 := by
  cases l with
  | zero => exact h k
  | succ l => exact hashL_len _ _
theorem gl_len (L : List (List UInt8)) (d k : Nat) : (gl L d k).length ≤ 32 := by
  unfold gl
  split <;> exact hashL_len _ _
theorem kid_range (l k : Nat) : k * 2 ^ (l + 1) = 2 * k * 2 ^ l ∧ (k + 1) * 2 ^ (l + 1) = (2 * k + 1 + 1) * 2 ^ l ∧ (2 * k + 1) * 2 ^ l = 2 * k * 2 ^ l + 2 ^ l ∧ (2 * k + 1 + 1) * 2 ^ l = (2 * k + 1) * 2 ^ l + 2 ^ l := by
  have e : (2 : Nat) ^ (l + 1) = 2 * 2 ^ l := by rw [Nat.pow_succ, Nat.mul_comm]
  refine ⟨by rw [e, ← Nat.mul_assoc, Nat.mul_comm k 2], by rw [e, ← Nat.mul_assoc, Nat.mul_comm (k + 1) 2]; rfl, Nat.succ_mul _ _, Nat.succ_mul _ _⟩
theorem dg_congr {g g' : Nat → (List UInt8)} : ∀ (l k : Nat), (∀ j, k * 2 ^ l ≤ j → j < (k + 1) * 2 ^ l → g j = g' j) → dg g l k = dg g' l k
  | 0, k, h => h k (by simp) (by simp)
  | l + 1, k, h => by
    obtain ⟨e1, e2, e3, e4⟩ := kid_range l k
    have hp := Nat.two_pow_pos l
    rw [dg, dg, dg_congr l (2 * k) (fun j h1 h2 => h j (by omega) (by omega)), dg_congr l (2 * k + 1) (fun j h1 h2 => h j (by omega) (by omega))]
theorem turnB_in {d k : Nat} (hd : d ≤ 16) (hk : k < 2 ^ d) : turnB k (d : Int) = turn d 0 k := if_pos (by simp [standsB, hk]; omega)
theorem turnB_lt {d k : Nat} (hd : d ≤ 16) (hk : k < 2 ^ d) : turnB k (d : Int) < 2 ^ d := by rw [turnB_in hd hk]; exact turn_lt d k
theorem turnB_turnB {d k : Nat} (hd : d ≤ 16) (hk : k < 2 ^ d) : turnB (turnB k (d : Int)) (d : Int) = k := by rw [turnB_in hd (turnB_lt hd hk), turnB_in hd hk, turn_turn hk]
theorem Strs.tail {b o : Nat} {X : (List UInt8)} {L : List (List UInt8)} {w : World} (h : Strs (some ⟨b, o, none⟩) (X :: L) w) : Strs (some ⟨b, o + 1, none⟩) L w := by
  rcases h with h | ⟨b', o', e, h1, h2⟩
  · cases h
  · cases e
    refine .inr ⟨b, o + 1, rfl, h1, fun i hi => ?_⟩
    have := h2 (i + 1) (by simpa using hi)
    rw [List.getElem_cons_succ] at this
    rw [show o + 1 + i = o + (i + 1) by omega]
    exact this
end Go.Proofs.YtmnklonoelpidaaGreatDoor
/- A tree's digests, as functions of what stands at its leaves; a tree in memory. -/
namespace Go.Proofs.YtmnklonoelpidaaGreatDoor
open Go.RowKit

/-- a place in memory, and all below it -/
def InT (g : Nat → (List UInt8)) (w : World) : Nat → Nat → Nat → Prop
  | 0, k, b => w.heap[b]? = some (.cells #[.string ⟨(g k).toArray⟩, .pointer none, .pointer none] 107 (0, 0))
  | l + 1, k, b => ∃ x y, w.heap[b]? = some (.cells #[.string ⟨(dg g (l + 1) k).toArray⟩, .pointer (some ⟨x, 0, none⟩), .pointer (some ⟨y, 0, none⟩)] 107 (0, 0)) ∧ InT g w l (2 * k) x ∧ InT g w l (2 * k + 1) y
theorem InT.blk {g : Nat → (List UInt8)} {w : World} {l k b : Nat} (h : InT g w l k b) : ∃ x y, w.heap[b]? = some (.cells #[.string ⟨(dg g l k).toArray⟩, .pointer x, .pointer y] 107 (0, 0)) := by
  cases l with
  | zero => exact ⟨_, _, h⟩
  | succ l => obtain ⟨x, y, h, _, _⟩ := h; exact ⟨_, _, h⟩
theorem InT.lt {g : Nat → (List UInt8)} {w : World} {l k b : Nat} (h : InT g w l k b) : b < w.heap.size := by
  obtain ⟨x, y, h⟩ := h.blk
  exact (Array.getElem?_eq_some_iff.1 h).1
theorem InT.keep {g : Nat → (List UInt8)} {w w' : World} (hk : ∀ (b : Nat) (C : Array Value), w.heap[b]? = some (Obj.cells C 107 (0, 0)) → w'.heap[b]? = w.heap[b]?) : ∀ {l k b : Nat}, InT g w l k b → InT g w' l k b
  | 0, k, b, h => (hk _ _ h).trans h
  | l + 1, k, b, h => by
    obtain ⟨x, y, h, h1, h2⟩ := h
    exact ⟨x, y, (hk _ _ h).trans h, InT.keep hk h1, InT.keep hk h2⟩
theorem InT.below {g : Nat → (List UInt8)} {w w' : World} {l k b : Nat} (h : InT g w l k b) (hb : Below w.heap.size w w') : InT g w' l k b :=
  h.keep fun _ _ e => hb.block _ (Array.getElem?_eq_some_iff.1 e).1
theorem InT.congr {g g' : Nat → (List UInt8)} {w : World} : ∀ {l k b : Nat}, (∀ j, k * 2 ^ l ≤ j → j < (k + 1) * 2 ^ l → g j = g' j) → InT g w l k b → InT g' w l k b
  | 0, k, b, h, hi => by
    have e := h k (by simp) (by simp)
    unfold InT at hi ⊢
    rw [← e]; exact hi
  | l + 1, k, b, h, hi => by
    have e0 := dg_congr (l + 1) k h
    obtain ⟨e1, e2, e3, e4⟩ := kid_range l k
    have hp := Nat.two_pow_pos l
    obtain ⟨x, y, h0, h1, h2⟩ := hi
    refine ⟨x, y, by rw [← e0]; exact h0, InT.congr (fun j a b => h j (by omega) (by omega)) h1, InT.congr (fun j a b => h j (by omega) (by omega)) h2⟩
end Go.Proofs.YtmnklonoelpidaaGreatDoor
/- A tree's places: a leaf, a node, a side. -/
namespace Go.Proofs.YtmnklonoelpidaaGreatDoor
open Go.RowKit

theorem tleaf_any (e : (List UInt8)) (w : World) (hg : Glob w) (he : e.length ≤ 10000000) :
    Calls Tryz.prog 98 #[.string ⟨e.toArray⟩] w fun r w' => ∃ b, r = .returned (.pointer (some ⟨b, 0, none⟩)) ∧ w'.heap[b]? = some (.cells #[.string ⟨(hashL leafT [e]).toArray⟩, .pointer none, .pointer none] 107 (0, 0)) ∧ w.heap.size ≤ b ∧ Below w.heap.size w w' := by
  have hsz := hg.size
  have HH := Lib.hid (fun w' hg' hs' => hash_any leafT (some ⟨w.heap.size, 0, none⟩) 1 [e] w' hg' hs' (by decide) (Nat.lt_of_lt_of_le (framed_short leafT [e] (by decide) (by simpa using he) (by simp)) (by decide)))
  clear he
  go_enter Tryz.func98, Tryz.ntmps98
  go_wp2_with fail
  have hb0 : Below w.heap.size w (w.alloc (.cells #[.string ⟨e.toArray⟩] 9)) := by0 w _
  refine (HH.out _ (hg.below (by omega) hb0) (strs_new w [e] _ rfl)).mono ?_
  rintro r w1 ⟨rfl, hb1⟩
  have hB1 : Below w.heap.size w w1 := hb0.trans (hb1.mono (by simp))
  have s1 := hB1.size
  clear hb0 hb1 HH
  go_wp2
  go_ret
  exact ⟨w1.heap.size, rfl, heap_alloc_new w1 _, s1, hB1.alloc s1 _⟩

/-- a place's digest, and the rest of it -/
def PlaceAt (w : World) (b : Nat) (D : (List UInt8)) : Prop := ∃ x y, w.heap[b]? = some (.cells #[.string ⟨D.toArray⟩, .pointer x, .pointer y] 107 (0, 0))
/-- what stands while a node is made -/
abbrev NdS (B x y : Nat) (D E : (List UInt8)) (w1 wz : World) : Prop := wz.cell? ⟨B, 0, none⟩ = some (.pointer (some ⟨x, 0, none⟩)) ∧ wz.cell? ⟨B, 1, none⟩ = some (.pointer (some ⟨y, 0, none⟩)) ∧ wz.cell? ⟨x, 0, none⟩ = some (.string ⟨D.toArray⟩) ∧ wz.cell? ⟨y, 0, none⟩ = some (.string ⟨E.toArray⟩) ∧ Below w1.heap.size w1 wz
theorem nd_next {B x y : Nat} {D E : (List UInt8)} {w1 wz wa : World} (h : NdS B x y D E w1 wz) (hb : Below wz.heap.size wz wa) : NdS B x y D E w1 wa := by
  obtain ⟨h1, h2, h3, h4, h5⟩ := h
  have k : ∀ {c o : Nat} {v : Value}, wz.cell? ⟨c, o, none⟩ = some v → wa.cell? ⟨c, o, none⟩ = some v := fun hc => (World.cell?_of_block (hb.block _ (World.block_lt_of_cell? wz _ hc))).trans hc
  exact ⟨k h1, k h2, k h3, k h4, h5.trans (hb.mono h5.size)⟩
theorem nd_alloc {B x y : Nat} {D E : (List UInt8)} {w1 wz : World} (h : NdS B x y D E w1 wz) (o : Obj) : NdS B x y D E w1 (wz.alloc o) := nd_next h (by0 wz o)
theorem nd_drew {B x y : Nat} {D E : (List UInt8)} {w1 wz : World} (h : NdS B x y D E w1 wz) : NdS B x y D E w1 wz.drew := nd_next h (Below.refl _ _).drew
set_option maxHeartbeats 1000000 in
theorem tnode_any (x y : Nat) (D E : (List UInt8)) (w : World) (hg : Glob w) (hx : PlaceAt w x D) (hy : PlaceAt w y E) (hD : D.length ≤ 32) (hE : E.length ≤ 32) :
    Calls Tryz.prog 101 #[.agg #[.pointer (some ⟨x, 0, none⟩), .pointer (some ⟨y, 0, none⟩)]] w fun r w' => ∃ b, r = .returned (.pointer (some ⟨b, 0, none⟩)) ∧ w'.heap[b]? = some (.cells #[.string ⟨(hashL nodeT [D, E]).toArray⟩, .pointer (some ⟨x, 0, none⟩), .pointer (some ⟨y, 0, none⟩)] 107 (0, 0)) ∧ w.heap.size ≤ b ∧ Below w.heap.size w w' := by
  have hsz := hg.size
  obtain ⟨x1, x2, hx⟩ := hx
  obtain ⟨y1, y2, hy⟩ := hy
  have HH := Lib.hid (fun b w' hg' hs' => hash_any nodeT (some ⟨b, 0, none⟩) 2 [D, E] w' hg' hs' (by decide) (Nat.lt_of_lt_of_le (framed_short nodeT [D, E] (by decide) (by intro z hz; simp at hz; rcases hz with rfl | rfl <;> omega) (by simp)) (by decide)))
  have HG := Lib.hid hg
  have hp := heap_alloc_new w (.cells #[.pointer (some ⟨x, 0, none⟩), .pointer (some ⟨y, 0, none⟩)] 105)
  have hb0 := by0 w (.cells #[.pointer (some ⟨x, 0, none⟩), .pointer (some ⟨y, 0, none⟩)] 105)
  have hxw := (hb0.block x (lit_lt hx)).trans hx
  have hyw := (hb0.block y (lit_lt hy)).trans hy
  have HZ : Hid ((w.alloc (.cells #[.pointer (some ⟨x, 0, none⟩), .pointer (some ⟨y, 0, none⟩)] 105)).heap.size = w.heap.size + 1) := Lib.hid (by simp)
  have HB := Lib.hid hb0
  clear hx hy hD hE hb0
  go_enter Tryz.func101, Tryz.ntmps101
  go_upto_region 1 with fail
  change Code.wp _ _ _ _ (w.alloc (.cells #[.pointer (some ⟨x, 0, none⟩), .pointer (some ⟨y, 0, none⟩)] 105))
  generalize w.alloc (.cells #[.pointer (some ⟨x, 0, none⟩), .pointer (some ⟨y, 0, none⟩)] 105) = w1 at *
  have p0 := (lit_cell hp 0).trans rfl
  have p1 := (lit_cell hp 1).trans rfl
  have c0 := (lit_cell hxw 0).trans rfl
  have d0 := (lit_cell hyw 0).trans rfl
  have hS0 : NdS w.heap.size x y D E w1 w1 := ⟨p0, p1, c0, d0, Below.refl _ _⟩

  have HG1 := Lib.hid (fun wz (h : NdS w.heap.size x y D E w1 wz) => HG.out.below (w' := wz) (B := 2) (by omega) ((HB.out.mono (by omega)).trans (h.2.2.2.2.mono (by have := HZ.out; omega))))
  clear HG
  go_region_held3 (fun w' => w'.cell? ⟨w.heap.size, 0, none⟩ = some (.pointer (some ⟨x, 0, none⟩)) ∧ w'.cell? ⟨w.heap.size, 1, none⟩ = some (.pointer (some ⟨y, 0, none⟩)) ∧ w'.cell? ⟨x, 0, none⟩ = some (.string ⟨D.toArray⟩) ∧ w'.cell? ⟨y, 0, none⟩ = some (.string ⟨E.toArray⟩) ∧ Below w1.heap.size w1 w')
    (first | (with_reducible assumption) | (with_reducible refine nd_alloc ?_ _; with_reducible assumption) | (with_reducible refine nd_drew ?_; with_reducible assumption) | (with_reducible refine nd_drew (nd_alloc ?_ _); with_reducible assumption) | (with_reducible refine nd_next ?_ hb2; with_reducible assumption) | (with_reducible refine nd_drew (nd_next ?_ hb2); with_reducible assumption))
    (first
      | (go_at_call 41; refine (HH.out _ _ (HG1.out _ (by with_reducible assumption)) (by first | exact strs_new _ [D, E] _ rfl | exact strs_drew (strs_new _ [D, E] _ rfl))).mono ?_; rintro r w2 ⟨rfl, hb2⟩))
  all_goals
    go_wp2
    go_ret
    refine ⟨w2.heap.size, rfl, heap_alloc_new w2 _, ?_, ?_⟩
    · have h5 : NdS w.heap.size x y D E w1 (w2.alloc (.cells #[.string ⟨(hashL nodeT [D, E]).toArray⟩, .pointer (some ⟨x, 0, none⟩), .pointer (some ⟨y, 0, none⟩)] 107)) := by with_reducible assumption
      have hq := h5.2.2.2.2.size
      have := HZ.out
      simp only [World.size_alloc] at hq
      omega
    · have h5 : NdS w.heap.size x y D E w1 (w2.alloc (.cells #[.string ⟨(hashL nodeT [D, E]).toArray⟩, .pointer (some ⟨x, 0, none⟩), .pointer (some ⟨y, 0, none⟩)] 107)) := by with_reducible assumption
      exact HB.out.trans (h5.2.2.2.2.mono (by have := HZ.out; omega))
theorem side_any (k below : Nat) (hk : k < 18446744073709551616) (hb : below < 64) (w : World) : Calls Tryz.prog 144 #[.int .u64 (k : Int), .int .i64 (below : Int)] w fun e w' => e = .returned (.int .u64 ((k / 2 ^ below % 2 : Nat) : Int)) ∧ w = w' := by
  have hlt : k / 2 ^ below < 18446744073709551616 := Nat.lt_of_le_of_lt (Nat.div_le_self _ _) hk
  have h1 : bits .and .u64 ((k / 2 ^ below : Nat) : Int) ((1 : Nat) : Int) = ((k / 2 ^ below &&& 1 : Nat) : Int) := u64_and_nat _ 1 hlt (by decide)
  rw [Nat.and_one_is_mod] at h1
  have h2 : (k : Int) / (2 : Int) ^ below = ((k / 2 ^ below : Nat) : Int) := by simp
  have HE := Lib.hid h1
  have HE2 := Lib.hid h2
  clear h1 h2 hlt
  go_enter Tryz.func144, Tryz.ntmps144
  go_wp2
  go_ret
  refine ⟨?_, rfl⟩
  rw [← HE.out, ← HE2.out]
  simp
end Go.Proofs.YtmnklonoelpidaaGreatDoor
/- The library's contract of Mul64, laid at this program by name. -/
namespace Go.Proofs
open Go.Shelf
def Tryz.lays264_ren : Go.Shelf.Ren := ⟨fun | 264 => 70 | n => n, fun | 53 => 22 | 46 => 141 | n => n, fun | n => n⟩
theorem Tryz.lays264 : Go.Proofs.Lays.n264 Tryz.prog Tryz.lays264_ren := {
  mixed := by kernel_rfl
  f264 := Tryz.func70.trans (congrArg some (by kernel_rfl))
  t46 := Tryz.underlying141
  a46 := Tryz.isAgg141
  z46 := Tryz.sizeOf141
  v46 := Tryz.zeroValue141
  t53 := Tryz.underlying22
  a53 := Tryz.isAgg22
  z53 := Tryz.sizeOf22
  v53 := Tryz.zeroValue22 }
open Go.RowKit Go.Lib in
theorem Tryz.bits_Mul64 (x y : Nat) (hx : x < 18446744073709551616) (hy : y < 18446744073709551616) (w : World) :
    Calls Tryz.prog 70 #[.int .u64 x, .int .u64 y] w fun e w' => e = .returned (.tuple #[.int .u64 ((x * y / 18446744073709551616 : Nat) : Int), .int .u64 ((x * y % 18446744073709551616 : Nat) : Int)]) ∧ w' = w := Any.bits_Mul64 Tryz.lays264 x y hx hy w
end Go.Proofs
/- slices.Repeat of one place. -/
namespace Go.Proofs.YtmnklonoelpidaaGreatDoor
open Go.RowKit

theorem bmul_any (x y : Nat) (h : x * y < 18446744073709551616) (hx : x < 18446744073709551616) (hy : y < 18446744073709551616) (w : World) : Calls Tryz.prog 132 #[.int .u64 (x : Int), .int .u64 (y : Int)] w fun e w' => e = .returned (.tuple #[.int .u64 0, .int .u64 ((x * y : Nat) : Int)]) ∧ w = w' := by
  have HC := Lib.hid (show Calls Tryz.prog 70 #[.int .u64 x, .int .u64 y] w fun e w' => e = .returned (.tuple #[.int .u64 0, .int .u64 ((x * y : Nat) : Int)]) ∧ w' = w from by
    have h1 := Tryz.bits_Mul64 x y hx hy w
    rw [Nat.div_eq_of_lt h, Nat.mod_eq_of_lt h] at h1
    exact h1)
  clear h hx hy
  generalize ((x * y : Nat) : Int) = z at *
  go_enter Tryz.func132, Tryz.ntmps132
  go_wp2_with (go_at_call 70; refine HC.out.mono ?_; rintro e w' ⟨rfl, rfl⟩)
  exact bodyPost_ret (v := .tuple #[.int .u64 0, .int .u64 z]) (by simp [results, Tryz.results132, go_sem]) rfl ⟨rfl, rfl⟩

theorem made_nil (n : Nat) (p : Value) : madeCells (Value.pointer none).cells n = (List.replicate 0 p ++ List.replicate (n - 0) (Value.pointer none)).toArray := by
  apply Array.ext
  · simp [madeCells]
  · intro i h1 h2
    simp [madeCells, Value.cells, Nat.mod_one]
def repL (n m : Nat) (p : Value) : List Value := List.replicate m p ++ List.replicate (n - m) (.pointer none)
theorem repL_len {n m : Nat} (h : m ≤ n) (p : Value) : (repL n m p).length = n := by simp [repL]; omega
theorem repL_splice {n m c : Nat} (p : Value) (h : m + c ≤ n) : splice (repL n m p) m (List.replicate c p) = repL n (m + c) p := by
  unfold splice repL
  rw [List.take_append_of_le_length (by simp), List.take_of_length_le (by simp), List.length_replicate, List.drop_append, List.drop_of_length_le (by simp), List.length_replicate, List.nil_append, List.drop_replicate, ← List.append_assoc, List.replicate_append_replicate]
  all_goals (congr 2; omega)
theorem repL_get {n m j : Nat} (p : Value) (h : j < m) : (repL n m p)[j]? = some p := by
  unfold repL
  rw [List.getElem?_append_left (by simpa using h)]
  simp [h]
theorem rep_step {B n k p : Nat} {w wr : World} (h : wr.heap[B]? = some (.cells (repL n k (.pointer (some ⟨p, 0, none⟩))).toArray 101 (0, 0))) (hb : Below B w wr) (h1 : 1 ≤ k) (h2 : k < n) :
    ∃ (c : Nat) (w3 : World), 1 ≤ c ∧ k + c ≤ n ∧ (Builtin.copy_ #[98, 98] 3 #[.slice (some ⟨B, k, none⟩) (n - k) (n - k), .slice (some ⟨B, 0, none⟩) k n]).run Tryz.prog wr = .ok (.int .i64 (c : Int)) w3 ∧ Hid (w3.heap[B]? = some (.cells (repL n (k + c) (.pointer (some ⟨p, 0, none⟩))).toArray 101 (0, 0)) ∧ Below B w w3) := by
  have hsz : (Tryz.prog.info? 101).map (·.size) = some 1 := by kernel_rfl
  have hrun := run_copy_row (P := Tryz.prog) wr 98 98 3 101 B k (n - k) (n - k) ⟨B, 0, none⟩ k n (repL n k (.pointer (some ⟨p, 0, none⟩))).toArray 101 (List.replicate (min k (n - k)) (.pointer (some ⟨p, 0, none⟩))) Tryz.underlying98 hsz h (by rw [List.length_replicate]) (fun j v hj => by
    have hlt := (List.getElem?_eq_some_iff.1 hj).1
    rw [List.length_replicate] at hlt
    rw [List.getElem?_replicate, if_pos hlt] at hj
    cases hj
    rw [Addr.add_mid, lit_cell h, Nat.zero_add, List.getElem?_toArray]
    exact repL_get _ (by omega)) (by rw [List.size_toArray, repL_len (by omega), List.length_replicate]; omega) (by intro v hv; rw [List.eq_of_mem_replicate hv]; rfl)
  rw [List.append_assoc] at hrun
  have hrow := setRow_heap wr B _ (splice (repL n k (.pointer (some ⟨p, 0, none⟩))) k (List.replicate (min k (n - k)) (.pointer (some ⟨p, 0, none⟩)))).toArray 101 _ h
  have hbl := below_setRow hb (Nat.le_refl _) (splice (repL n k (.pointer (some ⟨p, 0, none⟩))) k (List.replicate (min k (n - k)) (.pointer (some ⟨p, 0, none⟩)))).toArray
  have hsp := repL_splice (n := n) (m := k) (c := min k (n - k)) (.pointer (some ⟨p, 0, none⟩)) (by omega)
  rw [hsp] at hrow hbl
  refine ⟨min k (n - k), _, by omega, by omega, ?_, Lib.hid ⟨hrow, hbl⟩⟩
  rw [← hsp]
  unfold splice
  simp only [List.length_replicate] at hrun ⊢
  exact hrun
set_option maxRecDepth 100000 in
set_option maxHeartbeats 1000000 in
theorem repeat_any (sb p n : Nat) (w : World) (hn : 1 ≤ n ∧ n ≤ 65536) (hc : w.cell? ⟨sb, 0, none⟩ = some (.pointer (some ⟨p, 0, none⟩))) :
    Calls Tryz.prog 97 #[.slice (some ⟨sb, 0, none⟩) 1 1, .int .i64 (n : Int)] w fun e w' => ∃ B, e = .returned (.slice (some ⟨B, 0, none⟩) n n) ∧ w.heap.size ≤ B ∧ w'.heap[B]? = some (.cells (repL n n (.pointer (some ⟨p, 0, none⟩))).toArray 101 (0, 0)) ∧ Below w.heap.size w w' := by
  obtain ⟨i0, hi, hz0, hz1, hz2⟩ := info_parts (show (Tryz.prog.info? 101).map (fun i => (i.zero, i.size, i.bytes)) = some (some (.pointer none), 1, 8) by kernel_rfl)
  have hsz : (Tryz.prog.info? 101).map (·.size) = some 1 := by kernel_rfl
  have hm : (Instr.makeSlice 98 (.int .i64 (n : Int)) (.int .i64 (n : Int))).run Tryz.prog w = .ok (.slice (some ⟨w.heap.size, 0, none⟩) n n) (w.alloc (.cells (repL n 0 (.pointer (some ⟨p, 0, none⟩))).toArray 101)) := by
    have h := run_make (P := Tryz.prog) w 98 101 i0 (.pointer none) Tryz.underlying98 hi hz0 .i64 .i64 (n : Int) (n : Int) (by omega) (by omega) (by rw [hz2]; omega) (by omega)
    rw [h, hz1]
    rw [made_nil, Int.toNat_natCast, Nat.mul_one]
    rfl
  have HB := Lib.hid (fun w => bmul_any 1 n (by omega) (by omega) (by omega) w)
  simp only [Nat.one_mul] at HB
  have HM := Lib.hid hm
  have hpos := hn.1
  have hle := hn.2
  have HB0 := Lib.hid (by0 w (.cells (repL n 0 (.pointer (some ⟨p, 0, none⟩))).toArray 101))
  have HN0 := Lib.hid (heap_alloc_new w (.cells (repL n 0 (.pointer (some ⟨p, 0, none⟩))).toArray 101))
  have HC := Lib.hid hc
  clear hm hn hc
  go_enter Tryz.func97, Tryz.ntmps97
  go_upto_region 6 with (go_at_call 132; refine (HB.out _).mono ?_; rintro e w' ⟨rfl, rfl⟩)
  have hmm := HM.out
  go_upto_region 7 with fail
  have hn0 := HN0.out
  have hb0 := HB0.out
  generalize w.alloc (.cells (repL n 0 (.pointer (some ⟨p, 0, none⟩))).toArray 101) = w1 at *
  have hc1 : w1.cell? ⟨sb, 0, none⟩ = some (.pointer (some ⟨p, 0, none⟩)) := (World.cell?_of_block (hb0.block _ (World.block_lt_of_cell? w _ HC.out))).trans HC.out
  generalize hB : w.heap.size = B at *
  clear hmm HM HB HB0 HN0
  have hcp := run_copy_row (P := Tryz.prog) w1 98 98 3 101 B 0 n n ⟨sb, 0, none⟩ 1 1 (repL n 0 (.pointer (some ⟨p, 0, none⟩))).toArray 101 [.pointer (some ⟨p, 0, none⟩)] Tryz.underlying98 hsz hn0 (show 1 = min 1 n by omega) (fun j v hj => by
    obtain rfl : j = 0 := by have := (List.getElem?_eq_some_iff.1 hj).1; simp at this; exact this
    cases hj
    exact hc1) (by rw [List.size_toArray, repL_len (Nat.zero_le _)]; exact hpos) (by simp [Value.oneCell'])
  rw [List.append_assoc] at hcp
  have hrow := setRow_heap w1 B _ (splice (repL n 0 (.pointer (some ⟨p, 0, none⟩))) 0 [.pointer (some ⟨p, 0, none⟩)]).toArray 101 _ hn0
  have hbl := below_setRow hb0 (Nat.le_refl _) (splice (repL n 0 (.pointer (some ⟨p, 0, none⟩))) 0 [.pointer (some ⟨p, 0, none⟩)]).toArray
  have hsp := repL_splice (n := n) (m := 0) (c := 1) (.pointer (some ⟨p, 0, none⟩)) (by omega)
  rw [List.replicate_one, Nat.zero_add] at hsp
  have HW : Hid (∃ w2, Hid (w2.heap[B]? = some (.cells (repL n 1 (.pointer (some ⟨p, 0, none⟩))).toArray 101 (0, 0)) ∧ Below B w w2) ∧ (Builtin.copy_ #[98, 98] 3 #[.slice (some ⟨B, 0, none⟩) n n, .slice (some ⟨sb, 0, none⟩) 1 1]).run Tryz.prog w1 = .ok (.int .i64 1) w2) := by
    rw [hsp] at hrow hbl
    exact Lib.hid ⟨_, Lib.hid ⟨hrow, hbl⟩, by rw [← hsp]; exact hcp⟩
  clear hcp hrow hbl hsp
  obtain ⟨w2, H2, hcp⟩ := HW.out
  go_wp2_with fail
  clear hcp HW hn0 hb0 hc1
  go_loopw [8] (fun m wr => ∃ k : Nat, 1 ≤ k ∧ k ≤ n ∧ m = .int .i64 (k : Int) ∧ Hid (wr.heap[B]? = some (.cells (repL n k (.pointer (some ⟨p, 0, none⟩))).toArray 101 (0, 0)) ∧ Below B w wr)) (fun m _ => n - (intOf m).toNat)
  case atStart => exact ⟨1, by omega, hpos, rfl, H2⟩
  case round =>
    obtain ⟨k, hk1, hkn, rfl, HK⟩ := hrel
    by_cases hlt : k < n
    · have k0 : (0 : Int) ≤ (k : Int) := by omega
      have k1 : (k : Int) < (n : Int) := by omega
      have k2 : (k : Int) ≤ (n : Int) := by omega
      have hne : ¬ n = k := by omega
      obtain ⟨c, w3, c1, c2, hcp, H3⟩ := rep_step (w := w) (wr := wr.drew) HK.out.1 HK.out.2.drew hk1 hlt
      clear HK
      go_wp2
      go_region
      go_wp2
      go_roundw
      case rel => exact ⟨k + c, by omega, c2, by go_num, H3⟩
      case measure => simp [intOf]; omega
    · have k1 : ¬ (k : Int) < (n : Int) := by omega
      obtain rfl : k = n := by omega
      go_wp2
      go_ret
      exact ⟨B, rfl, by omega, HK.out.1, HK.out.2⟩
end Go.Proofs.YtmnklonoelpidaaGreatDoor
/- A tree's leaves, in a row. -/
namespace Go.Proofs.YtmnklonoelpidaaGreatDoor
open Go.RowKit

/-- a level in a row of its own -/
structure RowT (g : Nat → (List UInt8)) (w : World) (l n B : Nat) : Prop where
  blk : ∃ cs : Array Value, w.heap[B]? = some (Obj.cells cs 101 (0, 0)) ∧ n ≤ cs.size
  at_ : ∀ k, k < n → ∃ b, w.cell? ⟨B, k, none⟩ = some (.pointer (some ⟨b, 0, none⟩)) ∧ InT g w l k b
theorem RowT.lt {g : Nat → (List UInt8)} {w : World} {l n B : Nat} (h : RowT g w l n B) : B < w.heap.size := by
  obtain ⟨cs, h1, _⟩ := h.blk
  exact lit_lt h1
theorem RowT.below {g : Nat → (List UInt8)} {w w' : World} {l n B : Nat} (h : RowT g w l n B) (hb : Below w.heap.size w w') : RowT g w' l n B := by
  have e := hb.block B h.lt
  refine ⟨?_, fun k hk => ?_⟩
  · obtain ⟨cs, h1, h2⟩ := h.blk
    exact ⟨cs, e.trans h1, h2⟩
  · obtain ⟨b, h1, h2⟩ := h.at_ k hk
    exact ⟨b, (World.cell?_of_block (a := ⟨B, k, none⟩) e).trans h1, h2.below hb⟩
theorem place_type {w : World} {b B : Nat} {C cs : Array Value} (h : w.heap[b]? = some (Obj.cells C 107 (0, 0))) (k : w.heap[B]? = some (Obj.cells cs 101 (0, 0))) : b ≠ B := by
  rintro rfl
  rw [h] at k
  cases k
theorem RowT.put {g g' : Nat → (List UInt8)} {w : World} {n B j b : Nat} (h : RowT g w 0 n B) (hj : j < n) (hb : w.heap[b]? = some (Obj.cells #[.string ⟨(g' j).toArray⟩, .pointer none, .pointer none] 107 (0, 0))) (hg : ∀ k, k < n → k ≠ j → g k = g' k) :
    RowT g' (w.setCell ⟨B, j, none⟩ (.pointer (some ⟨b, 0, none⟩))) 0 n B := by
  obtain ⟨cs, h1, h2⟩ := h.blk
  have hk : ∀ (c : Nat) (C : Array Value), w.heap[c]? = some (Obj.cells C 107 (0, 0)) → (w.setCell ⟨B, j, none⟩ (.pointer (some ⟨b, 0, none⟩))).heap[c]? = w.heap[c]? := fun c C e => lit_far _ (place_type e h1)
  refine ⟨⟨_, lit_set _ h1, by simp [h2]⟩, fun k hkn => ?_⟩
  by_cases e : k = j
  · subst e
    exact ⟨b, World.cell?_setCell_same _ _ _ ((lit_cell h1 k).trans (Array.getElem?_eq_getElem (by omega))), (hk _ _ hb).trans hb⟩
  · obtain ⟨c, h3, h4⟩ := h.at_ k hkn
    refine ⟨c, (World.cell?_setCell_other _ ⟨B, j, none⟩ ⟨B, k, none⟩ _ (fun e2 => e (by cases e2; rfl))).trans h3, ?_⟩
    have h5 := h4.keep hk
    unfold InT at h5 ⊢
    rw [← hg k hkn e]
    exact h5
theorem RowT.first {w : World} {n B b : Nat} {g : Nat → (List UInt8)} (h : w.heap[B]? = some (.cells (repL n n (.pointer (some ⟨b, 0, none⟩))).toArray 101 (0, 0))) {D : (List UInt8)} (hg : ∀ k, k < n → g k = D) (hb : w.heap[b]? = some (Obj.cells #[.string ⟨D.toArray⟩, .pointer none, .pointer none] 107 (0, 0))) : RowT g w 0 n B := by
  refine ⟨⟨_, h, by rw [List.size_toArray, repL_len (Nat.le_refl _)]; exact Nat.le_refl _⟩, fun k hk => ⟨b, ?_, ?_⟩⟩
  · rw [lit_cell h, List.getElem?_toArray]
    exact repL_get _ hk
  · unfold InT
    rw [hg k hk]
    exact hb
theorem gl_none (L : List (List UInt8)) (d k : Nat) : gl (L.take 0) d k = hashL noneT [] := by simp [gl]
theorem gl_same {L : List (List UInt8)} {d i : Nat} (hd : d ≤ 16) (hi : i < L.length) (hid : i < 2 ^ d) : gl (L.take (i + 1)) d (turnB i d) = hashL leafT [L[i]] := by
  unfold gl
  have h : turnB (turnB i (d : Int)) (d : Int) < (L.take (i + 1)).length := by rw [turnB_turnB hd hid, List.length_take]; omega
  rw [dif_pos h]
  congr 2
  rw [List.getElem_take]
  congr 1
  exact turnB_turnB hd hid
theorem gl_other {L : List (List UInt8)} {d i k : Nat} (hd : d ≤ 16) (hi : i < L.length) (hk : k < 2 ^ d) (hne : k ≠ turnB i d) : gl (L.take i) d k = gl (L.take (i + 1)) d k := by
  have hti : turnB k (d : Int) ≠ i := fun e => hne (by rw [← e, turnB_turnB hd hk])
  unfold gl
  by_cases h : turnB k (d : Int) < i
  · rw [dif_pos (by rw [List.length_take]; omega), dif_pos (by rw [List.length_take]; omega)]
    congr 2
    rw [List.getElem_take, List.getElem_take]
  · rw [dif_neg (by rw [List.length_take]; omega), dif_neg (by rw [List.length_take]; omega)]
set_option maxRecDepth 100000 in
set_option maxHeartbeats 1000000 in
theorem leaves_any (ao : Option Addr) (cap : Nat) (L : List (List UInt8)) (w : World) (hg : Glob w) (hs : Strs ao L w) (hL : L.length ≤ 65536) (hl : ∀ i (h : i < L.length), L[i].length ≤ 10000000) :
    Calls Tryz.prog 67 #[.slice ao L.length cap] w fun e w' => ∃ B, e = .returned (.slice (some ⟨B, 0, none⟩) (2 ^ dep L.length) (2 ^ dep L.length)) ∧ w.heap.size ≤ B ∧ RowT (gl L (dep L.length)) w' 0 (2 ^ dep L.length) B ∧ Below w.heap.size w w' := by
  have hsz := hg.size
  have hd := dep_le L.length hL
  have hnd := (dep_spec L.length hL).1
  have HD := Lib.hid (fun w => show Calls Tryz.prog 96 #[.int .i64 (L.length : Int)] w fun e w' => e = .returned (.int .i64 (dep L.length : Int)) ∧ w = w' from by
    have h := depth_any (L.length : Int) (by omega) w
    rwa [depthV, if_neg (by omega), Int.toNat_natCast] at h)
  generalize hde : dep L.length = d at *
  have HH := Lib.hid (fun wz (h : Below w.heap.size w wz) => hash_any noneT none 0 [] wz (hg.below hsz h) (.inl rfl) (by decide) (by decide))
  have hp16 : 2 ^ d ≤ 2 ^ 16 := Nat.pow_le_pow_right (by decide) hd
  have hp1 : 1 ≤ 2 ^ d := Nat.one_le_two_pow
  have hpw : (2 : Int) ^ d = ((2 ^ d : Nat) : Int) := by simp
  have hw1 : IntKind.i64.wrap ((2 : Int) ^ d) = (2 : Int) ^ d := by
    rw [hpw, IntKind.wrap_i64]
    omega
  have HR := Lib.hid (show ∀ sb p wz, wz.cell? ⟨sb, 0, none⟩ = some (.pointer (some ⟨p, 0, none⟩)) → Calls Tryz.prog 97 #[.slice (some ⟨sb, 0, none⟩) 1 1, .int .i64 ((2 : Int) ^ d)] wz fun e w' => ∃ B, e = .returned (.slice (some ⟨B, 0, none⟩) (2 ^ d) (2 ^ d)) ∧ wz.heap.size ≤ B ∧ w'.heap[B]? = some (.cells (repL (2 ^ d) (2 ^ d) (.pointer (some ⟨p, 0, none⟩))).toArray 101 (0, 0)) ∧ Below wz.heap.size wz w' from fun sb p wz h => by
    rw [hpw]
    exact repeat_any sb p (2 ^ d) wz ⟨hp1, by omega⟩ h)
  have H1 := Lib.hid (And.intro hg (And.intro hs (And.intro hl (And.intro hd (And.intro hnd hp16)))))
  clear hg hs hl hp16 hnd hpw
  go_enter Tryz.func67, Tryz.ntmps67
  go_upto_region 2 with (go_at_call 96; refine (HD.out _).mono ?_; rintro e w' ⟨rfl, rfl⟩)
  go_cut [4] from 17 (fun s4 wx => ∃ B p : Nat, s4 = .slice (some ⟨B, 0, none⟩) (2 ^ d) (2 ^ d) ∧ Hid (w.heap.size ≤ B ∧ Below w.heap.size w wx ∧ wx.heap[B]? = some (.cells (repL (2 ^ d) (2 ^ d) (.pointer (some ⟨p, 0, none⟩))).toArray 101 (0, 0)) ∧ wx.heap[p]? = some (.cells #[.string ⟨(hashL noneT []).toArray⟩, .pointer none, .pointer none] 107 (0, 0))))
  case first =>
    have hb0 := Below.refl w.heap.size w
    go_region_held3 (fun w' => Below w.heap.size w w')
      (first | (with_reducible assumption) | (with_reducible refine Below.drew ?_; with_reducible assumption) | (with_reducible refine below_alloc ?_ _; with_reducible assumption) | (with_reducible refine Below.drew (below_alloc ?_ _); with_reducible assumption))
      (first
        | (go_at_call 41; refine (HH.out _ (by with_reducible assumption)).mono ?_; rintro e w2 ⟨rfl, hq2⟩; have hb2 := below_next (by with_reducible assumption) hq2)
        | (go_at_call 97; refine (HR.out (w2.heap.size + 1) w2.heap.size _ (by simp)).mono ?_; rintro e w3 ⟨B, rfl, hB, hrow, hq3⟩; have hb3 := below_next (by with_reducible assumption) hq3))
    all_goals
      have hp2 : w3.heap[w2.heap.size]? = some (.cells #[.string ⟨(hashL noneT []).toArray⟩, .pointer none, .pointer none] 107 (0, 0)) := (hq3.block _ (by simp; omega)).trans (lit_old _ (heap_alloc_new w2 _))
      have hBw : w.heap.size ≤ B := by have := hb2.size; simp at hB; omega
      have HX := Lib.hid (And.intro hBw (And.intro hb3 (And.intro hrow hp2)))
      clear hp2 hBw hrow hB hq3 hq2 hb2
      go_wp2
      go_meet
      exact ⟨B, _, rfl, HX⟩
  case rest =>
  obtain ⟨B, p, rfl, HX⟩ := hcut
  have HR0 : Hid (RowT (gl (L.take 0) d) wc 0 (2 ^ d) B) := Lib.hid (RowT.first HX.out.2.2.1 (fun k _ => gl_none L d k) HX.out.2.2.2)
  have HLF := Lib.hid (fun e wz (h : Below w.heap.size w wz) he => tleaf_any e wz (H1.out.1.below hsz h) he)
  have HLE := Lib.hid (fun (i : Nat) (hi : i < 18446744073709551616) (w : World) => leaf_any i hi (d : Int) w)
  clear HD HH HR
  go_wp2
  go_loopw [5, 6, 19] (fun s5 s6 i wr => ∃ k : Nat, k ≤ L.length ∧ i = .int .i64 (k : Int) ∧ Hid (RowT (gl (L.take k) d) wr 0 (2 ^ d) B ∧ Below w.heap.size w wr))
    (fun _ _ i _ => L.length - (intOf i).toNat)
  case atStart => exact ⟨0, by omega, rfl, Lib.hid ⟨HR0.out, HX.out.2.1⟩⟩
  case round =>
    obtain ⟨k, hk, rfl, HK⟩ := hrel
    by_cases hlt : k < L.length
    · obtain ⟨b1, o1, rfl, hc1⟩ := (H1.out.2.1.below (Nat.le_refl _) HK.out.2).cell k hlt
      have k0 : (0 : Int) ≤ (k : Int) := by omega
      have k1 : (k : Int) < (L.length : Int) := by omega
      have hkd : k < 2 ^ d := Nat.lt_of_lt_of_le hlt H1.out.2.2.2.2.1
      have htl := turnB_lt H1.out.2.2.2.1 hkd
      have HLX := Lib.hid (HLF.out L[k] wr HK.out.2 (H1.out.2.2.1 k hlt))
      have HLY := Lib.hid (fun w => HLE.out k (by omega) w)
      have HG := Lib.hid (And.intro (gl_same (L := L) H1.out.2.2.2.1 hlt hkd) (fun j hj hne => gl_other (L := L) (k := j) H1.out.2.2.2.1 hlt hj hne))
      generalize L[k] = X at *
      generalize turnB k (d : Int) = j at *
      have j0 : (0 : Int) ≤ (j : Int) := by omega
      have j1 : (j : Int) < ((2 ^ d : Nat) : Int) := by omega
      have HJ := Lib.hid (And.intro htl hkd)
      rw [show ((2 ^ d : Nat) : Int) = (2 : Int) ^ d by simp] at j1
      clear htl hkd
      go_upto_region 6 with fail
      go_wp2_with (first
        | (go_at_call 99; refine (HLY.out _).mono ?_; rintro e w' ⟨rfl, rfl⟩)
        | (go_at_call 98; refine HLX.out.mono ?_; rintro e w2 ⟨b, rfl, hb, hbs, hb2⟩; have HR2 := HK.out.1.below hb2; have HRB := HR2.blk; obtain ⟨cs, hcs, hcn⟩ := HRB; have hcj := (lit_cell hcs j).trans (Array.getElem?_eq_getElem (by have := HJ.out.1; omega)); have hfj := lit_free hcs j))
      go_roundw
      case rel => exact ⟨k + 1, by omega, by go_num, Lib.hid ⟨HR2.put HJ.out.1 (by rw [HG.out.1]; exact hb) (fun q hq hne => HG.out.2 q hq hne), (below_next HK.out.2 hb2).setCell HX.out.1 _⟩⟩
      case measure => simp [intOf]; omega
    · have k1 : ¬ (k : Int) < (L.length : Int) := by omega
      have hke : L.take k = L := List.take_of_length_le (by omega)
      rw [hke] at HK
      go_wp2
      go_ret
      exact ⟨B, rfl, HX.out.1, HK.out.1, HK.out.2⟩
end Go.Proofs.YtmnklonoelpidaaGreatDoor
/- Ranges over a function whose iterator writes nothing: what the caller owes, at the wide fence. -/
namespace Go.Proofs.YtmnklonoelpidaaGreatDoor
open Go.RowKit

/-- what is asked of an iterator that writes nothing, and hands over enc 0 .. enc (N - 1) -/
def HandsRead (P : Program) (gf : Nat) (lb : Array Value) (enc : Nat → Array Value) (N : Nat) (ok : World → Prop) : Prop :=
  ∀ (l : Nat) (J : Nat → World → Prop) (W : World), ok W →
    (∀ k W1 W', k < N → J k W1 → Kept (fun _ => True) W1 W' → YieldAt Fence.wide 0 P l (enc k) W' fun e W'' => e = .returned (.bool true) ∧ J (k + 1) W'' ∧ ok W'') →
    J 0 W → Calls P gf (#[.func (.yield l) #[] #[]] ++ lb) W fun e W' => (∃ v, e = .returned v) ∧ ∃ W1, J N W1 ∧ Kept (fun _ => True) W1 W'

theorem wp_rangeFunc_read {P : Program} {g : Operand} {ps : Array Tmp} {assign body : Code} {Q : Exit → Act → World → Prop} {a : Act} {w : World}
    {gf : Nat} {lb : Array Value} (hg : a.eval g = .func (.func gf) #[] lb) (eg : ∀ args w, (callFunc gf args).run P w = .ok (.enter gf args) w)
    {enc : Nat → Array Value} {N : Nat} {ok : World → Prop} (hseq : HandsRead P gf lb enc N ok) (hps : ∀ k, (enc k).size = ps.size)
    (lo : Nat) (hlo : w.heap.size = lo) (Own : List Nat) (hok : ∀ W', Kept (fun j => j < lo ∧ j ∉ Own) w W' → ok W')
    (R : Nat → World → Prop) (hR : ∀ k W W', R k W → Kept (fun j => j < lo ∨ lo + 2 ≤ j) W W' → R k W') (h0 : R 0 w) (a₁ : Nat → Act)
    (hassign : ∀ (l k : Nat) (W : World) (K : Act → World → Prop), K (a₁ k) W →
      assign.wpIn (Fence.wide.inRound l) 0 P (Exit.then K (fun _ _ _ => False)) { tmps := (ps.zip (enc k)).foldl (fun t (p, v) => t.setIfInBounds p v) a.tmps, defers := [] } W)
    (hbody : ∀ (l : Nat) (k : Nat) (W : World), k < N → lo + 2 ≤ W.heap.size → R k W →
      body.wpIn (Fence.wide.inRound l) 0 P (roundKept (fun j => (j < lo ∧ j ∉ Own) ∨ (lo ≤ j ∧ j < lo + 2)) (R (k + 1)) W) (a₁ k) W)
    (hdone : ∀ (W : World), R N W → Kept (fun j => j < lo ∧ j ∉ Own) w W → W.heap[lo]? = some (.deferred (some [])) → Q .normal { a with defers := { target := .collected lo, args := #[] } :: a.defers } W) :
    (Code.rangeFunc g ps assign body).wp P Q a w := by
  refine (wpIn_wide (n := 0)).1 (wpIn_rangeFunc ?_)
  intro fn hfn
  obtain ⟨rec, hrec⟩ : ∃ rec : LoopState → Option Code → Loop, rec = fun st pe => { state := st, pending := pe, fn, tmps := a.tmps, params := ps, assign, body, defers := lo } := ⟨_, rfl⟩
  obtain ⟨W1, hW1⟩ : ∃ W1, (w.alloc (.deferred (some []))).alloc (.loop (rec .ready none)) = W1 := ⟨_, rfl⟩
  have hz1 : W1.heap.size = lo + 2 := by rw [← hW1]; simp [hlo]
  have hL1 : W1.heap[lo + 1]? = some (.loop (rec .ready none)) := by
    rw [← hW1]; have := World.alloc_heap_new (w.alloc (.deferred (some []))) (.loop (rec .ready none)); rwa [World.size_alloc, hlo] at this
  have hK1 : W1.heap[lo]? = some (.deferred (some [])) := by
    rw [← hW1]
    have := World.alloc_heap_new w (.deferred (some []))
    rw [hlo] at this
    exact (Below.heap_alloc _ _ _ (by simp; omega)).trans this
  have hb1 : Below lo w W1 := by
    rw [← hW1]
    have := Below.refl lo w
    exact (this.alloc (by omega) _).alloc (by simp; omega) _
  have hk1 : Kept (fun j => j < lo ∧ j ∉ Own) w W1 := Kept.of_below hb1 fun j hj => hj.1
  refine ⟨w.heap.size + 1, [{ target := .collected w.heap.size, args := #[] }], W1, { target := .fn (.func gf) lb, args := #[.func (.yield (w.heap.size + 1)) #[] #[]] }, W1, gf,
    #[.func (.yield (w.heap.size + 1)) #[] #[]] ++ lb, W1, ?_, ?_, ?_, ?_, fun h => by simp [Fence.wide] at h, ?_⟩
  · rw [← hW1, hrec, ← hlo]; exact run_enterLoop_outer _ _ _ _ _
  · simp only [resolve, hg]
    simp [go_sem]
  · intro f' hf'; trivial
  · simp [invoke, go_sem, eg]
  · refine callsIn_wide.2 ?_
    rw [hlo]
    have key := hseq (lo + 1)
      (fun k W => R k W ∧ Kept (fun j => j < lo ∧ j ∉ Own) w W ∧ W.heap[lo + 1]? = some (.loop (rec .ready none)) ∧ W.heap[lo]? = some (.deferred (some [])) ∧ lo + 2 ≤ W.heap.size)
      W1 (hok W1 hk1) ?_ ⟨hR 0 _ _ h0 ⟨hb1.os, hb1.tape, hb1.output, hb1.size, fun j hj _ => hb1.block j (by omega)⟩, hk1, hL1, hK1, by omega⟩
    · refine key.mono ?_
      rintro e W2' ⟨⟨v, rfl⟩, W2, ⟨hr, hb, hl, hk, hz⟩, hkeep⟩
      have hl' : W2'.heap[lo + 1]? = some (.loop (rec .ready none)) := (hkeep.block _ (by omega) trivial).trans hl
      have hk' : W2'.heap[lo]? = some (.deferred (some [])) := (hkeep.block _ (by omega) trivial).trans hk
      refine ⟨none, _, by have := run_endLoop (P := P) hl' (by rw [hrec]; simp); rw [hrec] at this; exact this, ?_⟩
      have keep : ∀ j, j ≠ lo + 1 → (W2'.putObj (lo + 1) (.loop { rec .ready none with state := .exhausted })).heap[j]? = W2'.heap[j]? := fun j hj => World.putObj_heap_other (by omega)
      have kk : Kept (fun j => j < lo ∨ lo + 2 ≤ j) W2 (W2'.putObj (lo + 1) (.loop { rec .ready none with state := .exhausted })) :=
        (hkeep.less (fun j _ _ => trivial)).trans (Kept.putObj _ _ _ _ (by omega))
      have hq := hdone _ (hR N _ _ hr kk) (hb.trans (kk.less fun j _ hj => .inl hj.1)) ((keep _ (by omega)).trans hk')
      rw [hrec] at hq
      exact hq
    · rintro k W W' hkN ⟨hr, hb, hl, hk, hz⟩ hkeep
      have hsz' := hkeep.size
      have hl' : W'.heap[lo + 1]? = some (.loop (rec .ready none)) := (hkeep.block _ (by omega) trivial).trans hl
      have hk' : W'.heap[lo]? = some (.deferred (some [])) := (hkeep.block _ (by omega) trivial).trans hk
      have hr' : R k W' := hR k _ _ hr (hkeep.less fun j _ _ => trivial)
      have hb' : Kept (fun j => j < lo ∧ j ∉ Own) w W' := hb.trans (hkeep.less fun j _ _ => trivial)
      have hy := run_yield (P := P) (args := enc k) hl' (by rw [hrec]; exact hps _)
      rw [hrec] at hy
      have hlt' : lo + 1 < W'.heap.size := by omega
      refine ⟨fn, _, assign, body, hy, roundIn_of_wpIn hfn (hassign _ k W' _ ⟨_, run_beginRound hl' (by rw [hrec]), ?_⟩)⟩
      obtain ⟨Wb, hWb⟩ : ∃ Wb, W'.putObj (lo + 1) (.loop { rec .ready none with state := .busy }) = Wb := ⟨_, rfl⟩
      have hl2 : Wb.heap[lo + 1]? = some (.loop { rec .ready none with state := .busy }) := by rw [← hWb]; exact World.putObj_heap_same hlt'
      have keepb : ∀ j, j ≠ lo + 1 → Wb.heap[j]? = W'.heap[j]? := fun j hj => by rw [← hWb]; exact World.putObj_heap_other (by omega)
      have hzb : Wb.heap.size = W'.heap.size := by rw [← hWb]; simp [World.putObj]
      have kb : Kept (fun j => j ≠ lo + 1) W' Wb := by rw [← hWb]; exact Kept.putObj _ _ _ _ (by simp)
      have hbb := hbody (lo + 1) k Wb hkN (by omega) (hR k _ _ hr' (kb.less fun j _ hj => by omega))
      rw [← hWb] at hbb hl2 keepb hzb kb
      refine wpIn_mono hbb ?_
      rw [hWb] at hl2 keepb hzb kb ⊢
      rintro e a3 W3 hp3
      cases e with
      | normal =>
        obtain ⟨hb3, hr3⟩ := hp3
        have hl3 : W3.heap[lo + 1]? = some (.loop { rec .ready none with state := .busy }) := (hb3.block _ (by omega) (.inr ⟨by omega, by omega⟩)).trans hl2
        have hk3 : W3.heap[lo]? = some (.deferred (some [])) := (hb3.block _ (by omega) (.inr ⟨by omega, by omega⟩)).trans ((keepb _ (by omega)).trans hk')
        have hend : (Instr.endRound (lo + 1) none).run P W3 = .ok (.bool true) (W3.putObj (lo + 1) (.loop (rec .ready none))) := by
          have := run_endRound (P := P) none hl3
          rw [hrec] at this ⊢
          exact this
        have hz3 := hb3.size
        have ke : Kept (fun j => j ≠ lo + 1) W3 (W3.putObj (lo + 1) (.loop (rec .ready none))) := Kept.putObj _ _ _ _ (by simp)
        have hfin : Kept (fun j => j < lo ∧ j ∉ Own) w (W3.putObj (lo + 1) (.loop (rec .ready none))) := ((hb'.trans (kb.less fun j _ hj => by omega)).trans (hb3.less fun j _ hj => .inl hj)).trans (ke.less fun j _ hj => by omega)
        exact ⟨_, _, hend, rfl, ⟨hR _ _ _ hr3 (ke.less fun j _ hj => by omega), hfin, World.putObj_heap_same (by omega), (World.putObj_heap_other (by omega)).trans hk3, by simp [World.putObj]; omega⟩, hok _ hfin⟩
      | ret => exact hp3.elim
      | exit id => exact hp3.elim
      | goto t => exact hp3.elim
      | panic ch => exact hp3.elim
      | outgrown => exact hp3.elim
end Go.Proofs.YtmnklonoelpidaaGreatDoor
/- The row above: slices.Chunk by pairs. -/
namespace Go.Proofs.YtmnklonoelpidaaGreatDoor
open Go.RowKit

set_option maxRecDepth 100000 in
set_option maxHeartbeats 2000000 in
theorem chunk_hands (b1 b2 B m cap : Nat) (hm : m ≤ 65536) (hcap : 2 * m ≤ cap) : HandsRead Tryz.prog 134 #[.pointer (some ⟨b1, 0, none⟩), .pointer (some ⟨b2, 0, none⟩)] (fun k => #[.slice (some ⟨B, 2 * k, none⟩) 2 2]) m
      (fun W => W.cell? ⟨b1, 0, none⟩ = some (.slice (some ⟨B, 0, none⟩) (2 * m) cap) ∧ W.cell? ⟨b2, 0, none⟩ = some (.int .i64 2)) := by
  rintro l J W hok hY h0
  have HY := Lib.hid hY
  have HJ0 := Lib.hid h0
  have HOK := Lib.hid hok
  clear hY h0 hok
  refine (callsIn_wide (n := 1)).1 ?_
  refine callsIn_of_wp Tryz.func134 rfl trivial ?_ rfl
  simp only [Tryz.ntmps134, List.size_toArray, List.length_cons, List.length_nil, Nat.reduceAdd, Nat.reduceSub, Array.replicate_succ, Array.replicate_zero, List.push_toArray, List.append_toArray, List.nil_append, List.cons_append]
  gi_wp2
  gi_loopw [4, 5] (fun i s5 wr => ∃ k : Nat, k ≤ m ∧ i = .int .i64 ((2 * k : Nat) : Int) ∧ Hid (∃ W1, J k W1 ∧ Kept (fun _ => True) W1 wr) ∧ Hid (wr.cell? ⟨b1, 0, none⟩ = some (.slice (some ⟨B, 0, none⟩) (2 * m) cap) ∧ wr.cell? ⟨b2, 0, none⟩ = some (.int .i64 2))) (fun i _ _ => 2 * m - (intOf i).toNat)
  case atStart => exact ⟨0, by omega, rfl, Lib.hid ⟨W, HJ0.out, Kept.refl _ _⟩, HOK⟩
  case round =>
    obtain ⟨k, hk, rfl, HJ, HC⟩ := hrel
    obtain ⟨c1, c2⟩ := HC.out
    by_cases hlt : k < m
    · have hl : ((2 * k : Nat) : Int) < ((2 * m : Nat) : Int) := by omega
      have hl0 : (0 : Int) ≤ ((2 * k : Nat) : Int) := by omega
      have hl2 : ((2 * k : Nat) : Int) ≤ ((2 * m : Nat) : Int) := by omega
      generalize hK : 2 * k = K at *
      generalize hM : 2 * m = M at *
      have hne : ¬ cap = K := by omega
      gi_wp2
      refine wpIn_wide.2 ?_
      go_region_held3 (fun w' => w'.cell? ⟨b1, 0, none⟩ = some (.slice (some ⟨B, 0, none⟩) M cap) ∧ w'.cell? ⟨b2, 0, none⟩ = some (.int .i64 2)) (first | (with_reducible assumption) | (exact ⟨c1, c2⟩)) (fail)
      all_goals
        have hmn : min (2 : Int) ((M - K : Nat) : Int) = 2 := by omega
        rw [hmn]
        clear hmn
        have e1 : wr.drew.cell? ⟨b1, 0, none⟩ = some (.slice (some ⟨B, 0, none⟩) M cap) := c1
        have e2 : wr.drew.cell? ⟨b2, 0, none⟩ = some (.int .i64 2) := c2
        obtain ⟨W1, hj1, hk1⟩ := HJ.out
        have HY2 := HY.out k W1 wr.drew hlt hj1 hk1.drew
        have hK2 : K + 2 ≤ M := by omega
        clear hj1 hk1 hne
        rw [hK] at HY2
        obtain ⟨fn, tmps, assign, body, hy, hR⟩ := HY2
        gi_wp2
        refine hR.mono ?_
        rintro e w2 ⟨rfl, hj2, hok2⟩
        have HJ2 := Lib.hid hj2
        have HO2 := Lib.hid hok2
        obtain ⟨f1, f2⟩ := hok2
        clear hR hy hj2 e1 e2 c1 c2
        gi_wp2
        go_roundw
        case rel => exact ⟨k + 1, by omega, by rw [← hK]; go_num, Lib.hid ⟨w2, HJ2.out, Kept.refl _ _⟩, Lib.hid ⟨f1, f2⟩⟩
        case measure => simp [intOf] <;> omega
    · have hl : ¬ ((2 * k : Nat) : Int) < ((2 * m : Nat) : Int) := by omega
      have hkd : k = m := by omega
      subst hkd
      gi_wp2
      go_end0
      exact ⟨⟨_, rfl⟩, HJ.out⟩
end Go.Proofs.YtmnklonoelpidaaGreatDoor
/- The row above. -/
namespace Go.Proofs.YtmnklonoelpidaaGreatDoor
open Go.RowKit
attribute [local go_sem] Oper.semAt_some

theorem infoP9 : (Tryz.prog.info? 101).map (fun i => (i.zero, i.size, i.bytes)) = some (some (.pointer none), 1, 8) := by kernel_rfl
theorem chunk_any (B n cap : Nat) (w : World) : Calls Tryz.prog 100 #[.slice (some ⟨B, 0, none⟩) n cap, .int .i64 2] w fun e w' => e = .returned (.func (.func 134) #[] #[.pointer (some ⟨w.heap.size, 0, none⟩), .pointer (some ⟨w.heap.size + 1, 0, none⟩)]) ∧ w' = (w.alloc (.cells #[.slice (some ⟨B, 0, none⟩) n cap] 98)).alloc (.cells #[.int .i64 2] 3) := by
  go_enter Tryz.func100, Tryz.ntmps100
  go_wp2
  go_ret
  exact ⟨by simp, rfl⟩
/-- k places of the row above, in a row that the variable at b4 holds; the kids are those of the world w -/
def AbAt (g : Nat → (List UInt8)) (w : World) (l lo b4 k : Nat) (W : World) : Prop :=
  ∃ (v : Value) (xs : List Value), W.heap[b4]? = some (.cells #[v] 98 (0, 0)) ∧ W.ownsRow (lo + 2) 101 1 v k xs ∧
    ∀ i, i < k → ∃ b x y, xs[i]? = some (.pointer (some ⟨b, 0, none⟩)) ∧ lo + 2 ≤ b ∧ W.heap[b]? = some (.cells #[.string ⟨(dg g (l + 1) i).toArray⟩, .pointer (some ⟨x, 0, none⟩), .pointer (some ⟨y, 0, none⟩)] 107 (0, 0)) ∧ InT g w l (2 * i) x ∧ InT g w l (2 * i + 1) y
theorem AbAt.kept {g : Nat → (List UInt8)} {w : World} {l lo b4 k : Nat} {W W' : World} {S : Nat → Prop} (h : AbAt g w l lo b4 k W) (hk : Kept S W W') (h4 : S b4) (hS : ∀ j, lo + 2 ≤ j → S j) : AbAt g w l lo b4 k W' := by
  obtain ⟨v, xs, h1, h2, h3⟩ := h
  refine ⟨v, xs, (hk.block b4 (lit_lt h1) h4).trans h1, own_kept h2 hk hS, fun i hi => ?_⟩
  obtain ⟨b, x, y, e1, e2, e3, e4, e5⟩ := h3 i hi
  exact ⟨b, x, y, e1, e2, (hk.block b (lit_lt e3) (hS b e2)).trans e3, e4, e5⟩
theorem ab_step {g : Nat → (List UInt8)} {w : World} {l lo b4 k : Nat} {W w1 : World} {v : Value} {xs : List Value} {p x y : Nat} (h4 : b4 < lo) (hz : lo + 2 ≤ W.heap.size) (hk : k ≤ 100000)
    (hcell : W.heap[b4]? = some (.cells #[v] 98 (0, 0))) (hown : W.ownsRow (lo + 2) 101 1 v k xs)
    (hrows : ∀ i, i < k → ∃ b x y, xs[i]? = some (.pointer (some ⟨b, 0, none⟩)) ∧ lo + 2 ≤ b ∧ W.heap[b]? = some (.cells #[.string ⟨(dg g (l + 1) i).toArray⟩, .pointer (some ⟨x, 0, none⟩), .pointer (some ⟨y, 0, none⟩)] 107 (0, 0)) ∧ InT g w l (2 * i) x ∧ InT g w l (2 * i + 1) y)
    (hx : InT g w l (2 * k) x) (hy : InT g w l (2 * k + 1) y)
    (hb : Below W.heap.size W w1) (hp : w1.heap[p]? = some (.cells #[.string ⟨(dg g (l + 1) k).toArray⟩, .pointer (some ⟨x, 0, none⟩), .pointer (some ⟨y, 0, none⟩)] 107 (0, 0))) (hps : W.heap.size ≤ p) :
    ∃ (g2 cp : Nat) (w2 : World), (Builtin.append_ #[98, 98] 98 #[v, .slice (some ⟨w1.heap.size, 0, none⟩) 1 1]).run Tryz.prog (w1.alloc (.cells #[.pointer (some ⟨p, 0, none⟩)] 101)) = .ok (.slice (some ⟨g2, 0, none⟩) (k + 1) cp) w2 ∧
      w1.cell? ⟨b4, 0, none⟩ = some v ∧ w2.cell? ⟨b4, 0, none⟩ = some v ∧ w2.frozen? ⟨b4, 0, none⟩ = false ∧
      Kept (fun j => (j < lo ∧ j ∉ [b4]) ∨ (lo ≤ j ∧ j < lo + 2)) W (w2.setCell ⟨b4, 0, none⟩ (.slice (some ⟨g2, 0, none⟩) (k + 1) cp)) ∧
      AbAt g w l lo b4 (k + 1) (w2.setCell ⟨b4, 0, none⟩ (.slice (some ⟨g2, 0, none⟩) (k + 1) cp)) := by
  obtain ⟨i0, hi, hz0, hz1, hz2⟩ := info_parts infoP9
  have hsz := hb.size
  have kb : Kept (fun j => j < W.heap.size) W w1 := Kept.of_below hb fun j h => h
  have ka : Kept (fun j => j < W.heap.size) W (w1.alloc (.cells #[.pointer (some ⟨p, 0, none⟩)] 101)) := kb.alloc _
  have ho1 : w1.ownsRow (lo + 2) 101 1 v k xs := by
    refine ⟨hown.1, ?_⟩
    rcases hown.2 with h | ⟨g, cap, cur, h0, h1, h2, h3⟩
    · exact .inl h
    · exact .inr ⟨g, cap, cur, h0, h1, (hb.block g (Array.getElem?_eq_some_iff.1 h2).1).trans h2, h3⟩
  obtain ⟨v2, w2, hrun, ho2, hg2, _⟩ := run_append_own (P := Tryz.prog) (w := w1.alloc (.cells #[.pointer (some ⟨p, 0, none⟩)] 101)) (lo + 2) 98 98 101 i0 (.pointer none) 1 8 Tryz.underlying98 hi hz0 hz1 hz2 rfl (by decide) v k xs (ho1.alloc _) ⟨w1.heap.size, 0, none⟩ 1 1 [.pointer (some ⟨p, 0, none⟩)] rfl (cell_one_new _ _ _)
    (by intro u hu; simp at hu; subst hu; rfl) (by unfold maxLen; omega) (by omega) (by simp; omega)
  obtain ⟨g2, cp, rfl⟩ := ownsRow_succ ho2
  have hv4 : ∀ j, some j = v.ownBlock → lo + 2 ≤ j := fun j e => (hown.lt j e.symm).1
  have kw : Kept (fun j => j < lo + 2) W w2 := (ka.less (fun j _ h => by omega)).grown hg2 (fun j e _ h => by have := hv4 j e; omega)
  have c2 : w2.heap[b4]? = some (.cells #[v] 98 (0, 0)) := (kw.block b4 (by omega) (by omega)).trans hcell
  have ks : Kept (fun j => (j < lo ∧ j ∉ [b4]) ∨ (lo ≤ j ∧ j < lo + 2)) W (w2.setCell ⟨b4, 0, none⟩ (.slice (some ⟨g2, 0, none⟩) (k + 1) cp)) := (kw.less (fun j _ h => by rcases h with h | h <;> omega)).setCell b4 0 _ (fun _ h => h.elim (fun h => h.2 (by simp)) (fun h => by omega))
  refine ⟨g2, cp, w2, hrun, by simp [World.cell?, (kb.block b4 (by omega) (by omega)).trans hcell], by simp [World.cell?, c2], by simp [World.frozen?, c2], ks, ?_⟩
  have k2 : Kept (fun j => j ≠ b4) w2 (w2.setCell ⟨b4, 0, none⟩ (.slice (some ⟨g2, 0, none⟩) (k + 1) cp)) := (Kept.refl _ w2).setCell b4 0 _ (fun _ h => h rfl)
  -- a place of w1 is a place behind the append
  have kp : ∀ (b : Nat) (C : Array Value), lo + 2 ≤ b → w1.heap[b]? = some (.cells C 107 (0, 0)) → (w2.setCell ⟨b4, 0, none⟩ (.slice (some ⟨g2, 0, none⟩) (k + 1) cp)).heap[b]? = some (.cells C 107 (0, 0)) := by
    intro b C hlb hC
    have hne : some b ≠ v.ownBlock := by
      intro e
      rcases ho1.2 with ⟨rfl, _⟩ | ⟨g3, cap3, cur3, rfl, _, hg3, _⟩
      · cases e
      · cases e
        exact place_type hC hg3 rfl
    have e1 : w2.heap[b]? = (w1.alloc (.cells #[.pointer (some ⟨p, 0, none⟩)] 101)).heap[b]? := hg2.block b (by rw [World.size_alloc]; have := lit_lt hC; omega) hne
    exact (k2.block b (by have := hg2.size; rw [World.size_alloc] at this; have := lit_lt hC; omega) (show b ≠ b4 by omega)).trans (e1.trans (lit_old _ hC))
  have hxl : xs.length = k := by simpa using hown.1
  refine ⟨_, xs ++ [.pointer (some ⟨p, 0, none⟩)], ?_, own_kept ho2 k2 (fun j hj => by omega), fun i hik => ?_⟩
  · show (w2.heap.modify b4 _)[b4]? = _
    rw [Array.getElem?_modify, if_pos rfl, c2]
    rfl
  · by_cases hlt : i < k
    · obtain ⟨b, x', y', e1, e2, e3, e4, e5⟩ := hrows i hlt
      refine ⟨b, x', y', ?_, e2, kp b _ e2 ((hb.block b (lit_lt e3)).trans e3), e4, e5⟩
      rw [List.getElem?_append_left (by omega)]
      exact e1
    · obtain rfl : i = k := by omega
      refine ⟨p, x, y, ?_, by omega, kp p _ (by omega) hp, hx, hy⟩
      rw [← hxl, List.getElem?_concat_length]
set_option maxRecDepth 100000 in
set_option maxHeartbeats 4000000 in
theorem above_any (g : Nat → (List UInt8)) (hgl : ∀ k, (g k).length ≤ 32) (l m B cap : Nat) (w : World) (hg : Glob w) (hr : RowT g w l (2 * m) B) (hm : 1 ≤ m ∧ m ≤ 65536) (hcap : 2 * m ≤ cap) :
    Calls Tryz.prog 68 #[.slice (some ⟨B, 0, none⟩) (2 * m) cap] w fun e w' => ∃ B' cp, e = .returned (.slice (some ⟨B', 0, none⟩) m cp) ∧ m ≤ cp ∧ RowT g w' (l + 1) m B' ∧ Below w.heap.size w w' := by
  obtain ⟨b4, hb4⟩ : ∃ b4, b4 = w.heap.size := ⟨_, rfl⟩
  obtain ⟨w1, hw1⟩ : ∃ w1, w.alloc (.cells #[.slice none 0 0] 98) = w1 := ⟨_, rfl⟩
  have hz1 : w1.heap.size = b4 + 1 := by rw [← hw1, World.size_alloc, hb4]
  have hn1 : w1.heap[b4]? = some (.cells #[.slice none 0 0] 98 (0, 0)) := by rw [← hw1, hb4]; exact heap_alloc_new _ _
  have hb1 : Below b4 w w1 := by rw [← hw1]; exact (Below.refl _ _).alloc (by omega) _
  obtain ⟨w3, hw3⟩ : ∃ w3, (w1.alloc (.cells #[.slice (some ⟨B, 0, none⟩) (2 * m) cap] 98)).alloc (.cells #[.int .i64 2] 3) = w3 := ⟨_, rfl⟩
  have hz3 : w3.heap.size = b4 + 3 := by rw [← hw3, World.size_alloc, World.size_alloc, hz1]
  have hk3 : Below (b4 + 1) w1 w3 := by rw [← hw3]; exact ((Below.refl _ _).alloc (by omega) _).alloc (by simp; omega) _
  have hq1 : w3.cell? ⟨b4 + 1, 0, none⟩ = some (.slice (some ⟨B, 0, none⟩) (2 * m) cap) := by
    rw [← hw3, ← hz1]; exact (World.cell?_alloc_lt _ _ _ (by simp)).trans (by simp)
  have hq2 : w3.cell? ⟨b4 + 2, 0, none⟩ = some (.int .i64 2) := by
    rw [← hw3, show b4 + 2 = (w1.alloc (.cells #[.slice (some ⟨B, 0, none⟩) (2 * m) cap] 98)).heap.size by simp; omega]; simp
  have hb3 : Below b4 w w3 := hb1.trans (hk3.mono (by omega))
  have hn3 : w3.heap[b4]? = some (.cells #[.slice none 0 0] 98 (0, 0)) := (hk3.block _ (by omega)).trans hn1
  have hr3 : RowT g w3 l (2 * m) B := hr.below (by rw [← hb4]; exact hb3)
  have hBlt := hr.lt
  have HV := Lib.hid (chunk_any B (2 * m) cap w1)
  rw [hw3, hz1] at HV
  have HG3 : Hid (Glob w3 ∧ 2 ≤ b4) := Lib.hid ⟨hg.below hg.size (by rw [← hb4]; exact hb3), by have := hg.size; omega⟩
  have HW := Lib.hid (And.intro hb3 (And.intro hn3 (And.intro hr3 (And.intro hq1 hq2))))
  have HB := Lib.hid (And.intro hb4 (And.intro hBlt (And.intro hm hcap)))
  have HZ3 := Lib.hid hz3
  have hB' : w.heap.size = b4 := hb4.symm
  clear hb4 hb1 hb3 hn1 hn3 hr3 hq1 hq2 hk3 hw3 hz1 hz3 hr hBlt hm hcap hg
  refine calls_of_wp_marks Tryz.func68 rfl ?_
  simp only [Tryz.ntmps68, List.size_toArray, List.length_cons, List.length_nil, Nat.reduceAdd, Nat.reduceSub, Array.replicate_succ, Array.replicate_zero, List.push_toArray, List.append_toArray, List.nil_append, List.cons_append]
  go_wp2_with (go_at_call 100; refine HV.out.mono ?_; rintro e wx ⟨rfl, hwx⟩; have hwx := hwx.symm; subst hwx)
  obtain ⟨hb3, hn3, hr3, hq1, hq2⟩ := HW.out
  refine wp_rangeFunc_read (gf := 134) (lb := #[.pointer (some ⟨b4 + 1, 0, none⟩), .pointer (some ⟨b4 + 2, 0, none⟩)]) rfl (enters_of Tryz.func134 (by kernel_rfl) rfl)
    (chunk_hands (b4 + 1) (b4 + 2) B m cap HB.out.2.2.1.2 HB.out.2.2.2) (fun _ => rfl) (b4 + 3) HZ3.out [b4] ?ok
    (fun k W => AbAt g w3 l (b4 + 3) b4 k W ∧ Kept (fun j => j < b4 + 3 ∧ j ∉ [b4]) w3 W ∧ b4 + 3 ≤ W.heap.size) ?keep ?start
    (fun k => { tmps := #[.slice (some ⟨B, 0, none⟩) (2 * m) cap, undef, .slice none 0 0, .pointer (some ⟨b4, 0, none⟩), .slice (some ⟨B, 2 * k, none⟩) 2 2, .slice (some ⟨B, 0, none⟩) (2 * m) cap, .func (.func 134) #[] #[.pointer (some ⟨b4 + 1, 0, none⟩), .pointer (some ⟨b4 + 2, 0, none⟩)], .slice (some ⟨B, 2 * k, none⟩) 2 2, undef, undef, undef, undef, undef, undef, undef, undef], defers := [] }) ?assign ?body ?done
  case ok =>
    intro W' hW'
    have hz := HZ3.out
    exact ⟨(World.cell?_of_block (a := ⟨b4 + 1, 0, none⟩) (hW'.block (b4 + 1) (by omega) ⟨by omega, by simp⟩)).trans hq1, (World.cell?_of_block (a := ⟨b4 + 2, 0, none⟩) (hW'.block (b4 + 2) (by omega) ⟨by omega, by simp⟩)).trans hq2⟩
  case keep =>
    rintro k W W' ⟨h, h2, hz⟩ hk
    exact ⟨h.kept hk (.inl (by omega)) (fun j hj => .inr (by omega)), h2.trans (hk.less fun j _ hj => .inl hj.1), by have := hk.size; omega⟩
  case start => exact ⟨⟨.slice none 0 0, [], hn3, World.ownsRow_nil _ _ _ _, fun i hi => absurd hi (Nat.not_lt_zero _)⟩, Kept.refl _ _, by rw [HZ3.out]; omega⟩
  case assign =>
    intro l k W K hK
    gi_wp2
    exact hK
  case body =>
    rintro l' k W hkm hWz ⟨⟨v, vs, hcell, hown, hrows⟩, hkp3, hz⟩
    obtain ⟨x, hx0, hx⟩ := hr3.at_ (2 * k) (by omega)
    obtain ⟨y, hy0, hy⟩ := hr3.at_ (2 * k + 1) (by omega)
    have hB3 : B < b4 + 3 ∧ B ∉ [b4] := ⟨by have := HB.out.1; have := HB.out.2.1; omega, by simp; have := HB.out.1; have := HB.out.2.1; omega⟩
    have eB : W.heap[B]? = w3.heap[B]? := hkp3.block B hr3.lt hB3
    have cx : W.cell? ⟨B, 2 * k, none⟩ = some (.pointer (some ⟨x, 0, none⟩)) := (World.cell?_of_block (a := ⟨B, 2 * k, none⟩) eB).trans hx0
    have cy : W.cell? ⟨B, 2 * k + 1, none⟩ = some (.pointer (some ⟨y, 0, none⟩)) := (World.cell?_of_block (a := ⟨B, 2 * k + 1, none⟩) eB).trans hy0
    have hpl : ∀ (b : Nat) (C : Array Value), w3.heap[b]? = some (Obj.cells C 107 (0, 0)) → W.drew.heap[b]? = some (Obj.cells C 107 (0, 0)) := fun b C e => (hkp3.block b (lit_lt e) ⟨by have := lit_lt e; rw [HZ3.out] at this; exact this, by
      intro h
      rw [List.mem_singleton] at h
      subst h
      rw [e] at hn3
      cases hn3⟩).trans e
    have hPx : PlaceAt W.drew x (dg g l (2 * k)) := by obtain ⟨a, c, e⟩ := hx.blk; exact ⟨a, c, hpl _ _ e⟩
    have hPy : PlaceAt W.drew y (dg g l (2 * k + 1)) := by obtain ⟨a, c, e⟩ := hy.blk; exact ⟨a, c, hpl _ _ e⟩
    have hGW : Glob W.drew := HG3.out.1.below (B := 2) (Nat.le_refl _) ⟨hkp3.os, hkp3.tape, hkp3.output, hkp3.size, fun j hj => hkp3.block j (by rw [HZ3.out]; omega) ⟨by omega, by simp; have := HG3.out.2; omega⟩⟩
    have HND := Lib.hid (tnode_any x y _ _ W.drew hGW hPx hPy (dg_len hgl _ _) (dg_len hgl _ _))
    have hc4 : W.cell? ⟨b4, 0, none⟩ = some v := by simp [World.cell?, hcell]
    have HST := Lib.hid (fun (w1 : World) (b : Nat) (hbel : Below W.drew.heap.size W.drew w1) (hbc : w1.heap[b]? = some (.cells #[.string ⟨(dg g (l + 1) k).toArray⟩, .pointer (some ⟨x, 0, none⟩), .pointer (some ⟨y, 0, none⟩)] 107 (0, 0))) (hbs : W.drew.heap.size ≤ b) => ab_step (g := g) (w := w3) (l := l) (lo := b4 + 3) (b4 := b4) (k := k) (W := W.drew) (w1 := w1) (v := v) (xs := vs) (p := b) (x := x) (y := y) (by omega) hWz (by have := HB.out.2.2.1.2; omega) hcell (own_kept hown (S := fun _ => True) (Kept.refl _ W).drew (fun _ _ => trivial)) hrows hx hy hbel hbc hbs)
    have HFIN := Lib.hid (show ∀ W'', Kept (fun j => (j < b4 + 3 ∧ j ∉ [b4]) ∨ (b4 + 3 ≤ j ∧ j < b4 + 3 + 2)) W W'' → Kept (fun j => j < b4 + 3 ∧ j ∉ [b4]) w3 W'' ∧ b4 + 3 ≤ W''.heap.size from fun W'' h => ⟨hkp3.trans (h.less fun j _ hj => .inl hj), by have := h.size; omega⟩)
    have hAP : ∀ w : World, (Instr.arrayAt 105 (.slice (some ⟨B, 2 * k, none⟩) 2 2)).run Tryz.prog w = .ok (.pointer (some ⟨B, 2 * k, none⟩)) w := fun w => by
      simp [Instr.arrayAt, run_underlying Tryz.underlying105]
    have hmo : Tryz.prog.follows .mixedOrders = true := by kernel_rfl
    clear hown hcell hrows hx0 hy0 hx hy hPx hPy hGW hpl eB hB3 hkp3

    gi_wp2
    refine wpIn_region_any hmo ?_
    change wpAnyIn _ _ _ _ _ _ _ _ _ (World.drew _)
    refine wpAnyIn_ready (rs := [0, 1]) (by kernel_rfl) (by simp) (AllReadyIn.cons rfl (fun K hK => ?_) (AllReadyIn.cons rfl (fun K hK => ?_) AllReadyIn.nil))
    · go_simp
      refine hK _ _ ?_
      clear hK K
      refine wpAnyIn_ready (rs := [1]) (by kernel_rfl) (by simp) (AllReadyIn.cons rfl (fun K hK => ?_) AllReadyIn.nil)
      go_simp
      refine hK _ _ ?_
      clear hK K
      refine wpAnyIn_ready (rs := [2]) (by kernel_rfl) (by simp) (AllReadyIn.cons rfl (fun K hK => ?_) AllReadyIn.nil)
      go_simp
      refine hK _ _ ?_
      clear hK K
      refine wpAnyIn_ready (rs := [3]) (by kernel_rfl) (by simp) (AllReadyIn.cons rfl (fun K hK => ?_) AllReadyIn.nil)
      go_simp
      refine hK _ _ ?_
      clear hK K
      refine wpAnyIn_ready (rs := [4]) (by kernel_rfl) (by simp) (AllReadyIn.cons rfl (fun K hK => ?_) AllReadyIn.nil)
      go_simp
      refine ⟨trivial, rfl, (CallsIn.inRound l' (callsIn_wide.2 HND.out)).mono ?_⟩
      rintro e w1 ⟨b, rfl, hbc, hbs, hbel⟩
      obtain ⟨g2, cp, w2, hrun, e1, e2, e3, hkp, hat⟩ := HST.out w1 b hbel hbc hbs
      have HKP := Lib.hid ((Kept.refl _ W).drew.trans hkp)
      have HAT := Lib.hid hat
      have e4 : (w1.alloc (.cells #[.pointer (some ⟨b, 0, none⟩)] 101)).cell? ⟨b4, 0, none⟩ = some v := (World.cell?_alloc_lt _ _ _ (World.block_lt_of_cell? w1 _ e1)).trans e1
      clear hkp hat hbc hbs hbel
      refine hK _ _ ?_
      clear hK K
      refine wpAnyIn_ready (rs := [5]) (by kernel_rfl) (by simp) (AllReadyIn.cons rfl (fun K hK => ?_) AllReadyIn.nil)
      go_simp
      refine hK _ _ ?_
      clear hK K
      refine wpAnyIn_ready (rs := [6]) (by kernel_rfl) (by simp) (AllReadyIn.cons rfl (fun K hK => ?_) AllReadyIn.nil)
      refine step_append_in rfl _ _ 98 rfl rfl rfl hrun ?_
      go_frame
      refine hK _ _ ?_
      clear hK K
      refine wpAnyIn_ready (rs := [7]) (by kernel_rfl) (by simp) (AllReadyIn.cons rfl (fun K hK => ?_) AllReadyIn.nil)
      go_simp
      refine hK _ _ ?_
      clear hK K
      refine wpAnyIn_done (by kernel_rfl) ?_ _
      exact ⟨HKP.out, HAT.out, HFIN.out _ HKP.out⟩
    · go_simp
      refine hK _ _ ?_
      clear hK K
      refine wpAnyIn_ready (rs := [0, 2]) (by kernel_rfl) (by simp) (AllReadyIn.cons rfl (fun K hK => ?_) (AllReadyIn.cons rfl (fun K hK => ?_) AllReadyIn.nil))
      · go_simp
        refine hK _ _ ?_
        clear hK K
        refine wpAnyIn_ready (rs := [2]) (by kernel_rfl) (by simp) (AllReadyIn.cons rfl (fun K hK => ?_) AllReadyIn.nil)
        go_simp
        refine hK _ _ ?_
        clear hK K
        refine wpAnyIn_ready (rs := [3]) (by kernel_rfl) (by simp) (AllReadyIn.cons rfl (fun K hK => ?_) AllReadyIn.nil)
        go_simp
        refine hK _ _ ?_
        clear hK K
        refine wpAnyIn_ready (rs := [4]) (by kernel_rfl) (by simp) (AllReadyIn.cons rfl (fun K hK => ?_) AllReadyIn.nil)
        go_simp
        refine ⟨trivial, rfl, (CallsIn.inRound l' (callsIn_wide.2 HND.out)).mono ?_⟩
        rintro e w1 ⟨b, rfl, hbc, hbs, hbel⟩
        obtain ⟨g2, cp, w2, hrun, e1, e2, e3, hkp, hat⟩ := HST.out w1 b hbel hbc hbs
        have HKP := Lib.hid ((Kept.refl _ W).drew.trans hkp)
        have HAT := Lib.hid hat
        have e4 : (w1.alloc (.cells #[.pointer (some ⟨b, 0, none⟩)] 101)).cell? ⟨b4, 0, none⟩ = some v := (World.cell?_alloc_lt _ _ _ (World.block_lt_of_cell? w1 _ e1)).trans e1
        clear hkp hat hbc hbs hbel
        refine hK _ _ ?_
        clear hK K
        refine wpAnyIn_ready (rs := [5]) (by kernel_rfl) (by simp) (AllReadyIn.cons rfl (fun K hK => ?_) AllReadyIn.nil)
        go_simp
        refine hK _ _ ?_
        clear hK K
        refine wpAnyIn_ready (rs := [6]) (by kernel_rfl) (by simp) (AllReadyIn.cons rfl (fun K hK => ?_) AllReadyIn.nil)
        refine step_append_in rfl _ _ 98 rfl rfl rfl hrun ?_
        go_frame
        refine hK _ _ ?_
        clear hK K
        refine wpAnyIn_ready (rs := [7]) (by kernel_rfl) (by simp) (AllReadyIn.cons rfl (fun K hK => ?_) AllReadyIn.nil)
        go_simp
        refine hK _ _ ?_
        clear hK K
        refine wpAnyIn_done (by kernel_rfl) ?_ _
        exact ⟨HKP.out, HAT.out, HFIN.out _ HKP.out⟩
      · go_simp
        refine hK _ _ ?_
        clear hK K
        refine wpAnyIn_ready (rs := [0, 3]) (by kernel_rfl) (by simp) (AllReadyIn.cons rfl (fun K hK => ?_) (AllReadyIn.cons rfl (fun K hK => ?_) AllReadyIn.nil))
        · go_simp
          refine hK _ _ ?_
          clear hK K
          refine wpAnyIn_ready (rs := [3]) (by kernel_rfl) (by simp) (AllReadyIn.cons rfl (fun K hK => ?_) AllReadyIn.nil)
          go_simp
          refine hK _ _ ?_
          clear hK K
          refine wpAnyIn_ready (rs := [4]) (by kernel_rfl) (by simp) (AllReadyIn.cons rfl (fun K hK => ?_) AllReadyIn.nil)
          go_simp
          refine ⟨trivial, rfl, (CallsIn.inRound l' (callsIn_wide.2 HND.out)).mono ?_⟩
          rintro e w1 ⟨b, rfl, hbc, hbs, hbel⟩
          obtain ⟨g2, cp, w2, hrun, e1, e2, e3, hkp, hat⟩ := HST.out w1 b hbel hbc hbs
          have HKP := Lib.hid ((Kept.refl _ W).drew.trans hkp)
          have HAT := Lib.hid hat
          have e4 : (w1.alloc (.cells #[.pointer (some ⟨b, 0, none⟩)] 101)).cell? ⟨b4, 0, none⟩ = some v := (World.cell?_alloc_lt _ _ _ (World.block_lt_of_cell? w1 _ e1)).trans e1
          clear hkp hat hbc hbs hbel
          refine hK _ _ ?_
          clear hK K
          refine wpAnyIn_ready (rs := [5]) (by kernel_rfl) (by simp) (AllReadyIn.cons rfl (fun K hK => ?_) AllReadyIn.nil)
          go_simp
          refine hK _ _ ?_
          clear hK K
          refine wpAnyIn_ready (rs := [6]) (by kernel_rfl) (by simp) (AllReadyIn.cons rfl (fun K hK => ?_) AllReadyIn.nil)
          refine step_append_in rfl _ _ 98 rfl rfl rfl hrun ?_
          go_frame
          refine hK _ _ ?_
          clear hK K
          refine wpAnyIn_ready (rs := [7]) (by kernel_rfl) (by simp) (AllReadyIn.cons rfl (fun K hK => ?_) AllReadyIn.nil)
          go_simp
          refine hK _ _ ?_
          clear hK K
          refine wpAnyIn_done (by kernel_rfl) ?_ _
          exact ⟨HKP.out, HAT.out, HFIN.out _ HKP.out⟩
        · go_simp
          refine hK _ _ ?_
          clear hK K
          refine wpAnyIn_ready (rs := [0, 4]) (by kernel_rfl) (by simp) (AllReadyIn.cons rfl (fun K hK => ?_) (AllReadyIn.cons rfl (fun K hK => ?_) AllReadyIn.nil))
          · go_simp
            refine hK _ _ ?_
            clear hK K
            refine wpAnyIn_ready (rs := [4]) (by kernel_rfl) (by simp) (AllReadyIn.cons rfl (fun K hK => ?_) AllReadyIn.nil)
            go_simp
            refine ⟨trivial, rfl, (CallsIn.inRound l' (callsIn_wide.2 HND.out)).mono ?_⟩
            rintro e w1 ⟨b, rfl, hbc, hbs, hbel⟩
            obtain ⟨g2, cp, w2, hrun, e1, e2, e3, hkp, hat⟩ := HST.out w1 b hbel hbc hbs
            have HKP := Lib.hid ((Kept.refl _ W).drew.trans hkp)
            have HAT := Lib.hid hat
            have e4 : (w1.alloc (.cells #[.pointer (some ⟨b, 0, none⟩)] 101)).cell? ⟨b4, 0, none⟩ = some v := (World.cell?_alloc_lt _ _ _ (World.block_lt_of_cell? w1 _ e1)).trans e1
            clear hkp hat hbc hbs hbel
            refine hK _ _ ?_
            clear hK K
            refine wpAnyIn_ready (rs := [5]) (by kernel_rfl) (by simp) (AllReadyIn.cons rfl (fun K hK => ?_) AllReadyIn.nil)
            go_simp
            refine hK _ _ ?_
            clear hK K
            refine wpAnyIn_ready (rs := [6]) (by kernel_rfl) (by simp) (AllReadyIn.cons rfl (fun K hK => ?_) AllReadyIn.nil)
            refine step_append_in rfl _ _ 98 rfl rfl rfl hrun ?_
            go_frame
            refine hK _ _ ?_
            clear hK K
            refine wpAnyIn_ready (rs := [7]) (by kernel_rfl) (by simp) (AllReadyIn.cons rfl (fun K hK => ?_) AllReadyIn.nil)
            go_simp
            refine hK _ _ ?_
            clear hK K
            refine wpAnyIn_done (by kernel_rfl) ?_ _
            exact ⟨HKP.out, HAT.out, HFIN.out _ HKP.out⟩
          · go_simp
            refine ⟨trivial, rfl, (CallsIn.inRound l' (callsIn_wide.2 HND.out)).mono ?_⟩
            rintro e w1 ⟨b, rfl, hbc, hbs, hbel⟩
            obtain ⟨g2, cp, w2, hrun, e1, e2, e3, hkp, hat⟩ := HST.out w1 b hbel hbc hbs
            have HKP := Lib.hid ((Kept.refl _ W).drew.trans hkp)
            have HAT := Lib.hid hat
            have e4 : (w1.alloc (.cells #[.pointer (some ⟨b, 0, none⟩)] 101)).cell? ⟨b4, 0, none⟩ = some v := (World.cell?_alloc_lt _ _ _ (World.block_lt_of_cell? w1 _ e1)).trans e1
            clear hkp hat hbc hbs hbel
            refine hK _ _ ?_
            clear hK K
            refine wpAnyIn_ready (rs := [0, 5]) (by kernel_rfl) (by simp) (AllReadyIn.cons rfl (fun K hK => ?_) (AllReadyIn.cons rfl (fun K hK => ?_) AllReadyIn.nil))
            · go_simp
              refine hK _ _ ?_
              clear hK K
              refine wpAnyIn_ready (rs := [5]) (by kernel_rfl) (by simp) (AllReadyIn.cons rfl (fun K hK => ?_) AllReadyIn.nil)
              go_simp
              refine hK _ _ ?_
              clear hK K
              refine wpAnyIn_ready (rs := [6]) (by kernel_rfl) (by simp) (AllReadyIn.cons rfl (fun K hK => ?_) AllReadyIn.nil)
              refine step_append_in rfl _ _ 98 rfl rfl rfl hrun ?_
              go_frame
              refine hK _ _ ?_
              clear hK K
              refine wpAnyIn_ready (rs := [7]) (by kernel_rfl) (by simp) (AllReadyIn.cons rfl (fun K hK => ?_) AllReadyIn.nil)
              go_simp
              refine hK _ _ ?_
              clear hK K
              refine wpAnyIn_done (by kernel_rfl) ?_ _
              exact ⟨HKP.out, HAT.out, HFIN.out _ HKP.out⟩
            · go_simp
              refine hK _ _ ?_
              clear hK K
              refine wpAnyIn_ready (rs := [0]) (by kernel_rfl) (by simp) (AllReadyIn.cons rfl (fun K hK => ?_) AllReadyIn.nil)
              go_simp
              refine hK _ _ ?_
              clear hK K
              refine wpAnyIn_ready (rs := [6]) (by kernel_rfl) (by simp) (AllReadyIn.cons rfl (fun K hK => ?_) AllReadyIn.nil)
              refine step_append_in rfl _ _ 98 rfl rfl rfl hrun ?_
              go_frame
              refine hK _ _ ?_
              clear hK K
              refine wpAnyIn_ready (rs := [7]) (by kernel_rfl) (by simp) (AllReadyIn.cons rfl (fun K hK => ?_) AllReadyIn.nil)
              go_simp
              refine hK _ _ ?_
              clear hK K
              refine wpAnyIn_done (by kernel_rfl) ?_ _
              exact ⟨HKP.out, HAT.out, HFIN.out _ HKP.out⟩
  case done =>
    rintro W ⟨⟨v, xs, hcell, hown, hrows⟩, hkp3, hz⟩ hkept hdef
    have hc4 : W.cell? ⟨b4, 0, none⟩ = some v := by simp [World.cell?, hcell]
    have HR := Lib.hid (And.intro hown (And.intro hrows hkp3))
    have HH3 := Lib.hid hb3
    clear hcell hown hrows hkept hkp3
    go_wp2
    refine ⟨by simp, .inl ⟨_, _, rfl, run_takeDeferred hdef, ?_⟩⟩
    obtain ⟨hown, hrows, hkp3⟩ := HR.out
    have kp : Kept (fun j => j ≠ b4 + 3) W (W.putObj (b4 + 3) (.deferred none)) := Kept.putObj _ _ _ _ (by simp)
    have hbw := (hkp3.trans (kp.less (T := fun j => j < b4 + 3 ∧ j ∉ [b4]) fun j _ h => by omega)).below (B := b4) (by rw [HZ3.out]; omega) (fun j h => ⟨by omega, by simp; omega⟩)
    generalize hWe : W.putObj (b4 + 3) (.deferred none) = We at *
    obtain ⟨h1, ⟨h2, h3⟩ | ⟨g2, cp, cur, rfl, h3, h4, h5, h6, h7⟩⟩ := hown
    · exfalso
      have := HB.out.2.2.1.1
      omega
    refine ⟨_, results_tmp rfl _ _ _, g2, cp, rfl, ?_, ⟨⟨cur, (kp.block g2 (lit_lt h4) (show g2 ≠ b4 + 3 by omega)).trans h4, ?_⟩, fun k hk => ?_⟩, by rw [hB']; exact HH3.out.trans hbw⟩
    · exact h5
    · have := h7.1; omega
    · obtain ⟨b, x, y, e1, e2, e3, e4, e5⟩ := hrows k hk
      have kk : ∀ (c : Nat) (C : Array Value), w3.heap[c]? = some (Obj.cells C 107 (0, 0)) → We.heap[c]? = w3.heap[c]? := fun c C e => by
        have hlt := lit_lt e
        rw [HZ3.out] at hlt
        have hne : c ≠ b4 := by
          intro h
          subst h
          rw [e] at hn3
          cases hn3
        exact (kp.block c (by have := hkp3.size; rw [HZ3.out] at this; omega) (show c ≠ b4 + 3 by omega)).trans (hkp3.block c (by rw [HZ3.out]; exact hlt) ⟨hlt, by simp; exact hne⟩)
      refine ⟨b, ?_, x, y, (kp.block b (lit_lt e3) (show b ≠ b4 + 3 by omega)).trans e3, e4.keep kk, e5.keep kk⟩
      have e6 : (cur.toList.take (m * 1))[k]? = some (.pointer (some ⟨b, 0, none⟩)) := by rw [h7.2]; exact e1
      rw [List.getElem?_take_of_lt (by omega), Array.getElem?_toList] at e6
      exact (World.cell?_of_block (a := ⟨g2, k, none⟩) (kp.block g2 (lit_lt h4) (show g2 ≠ b4 + 3 by omega))).trans ((lit_cell h4 k).trans e6)
end Go.Proofs.YtmnklonoelpidaaGreatDoor
/- Build, and what is asked of a tree: Root, Depth, Len. -/
namespace Go.Proofs.YtmnklonoelpidaaGreatDoor
open Go.RowKit

/-- a tree in memory -/
structure TreeM (L : List (List UInt8)) (w : World) (t : Nat) : Prop where
  le : L.length ≤ 65536
  blk : ∃ r, w.heap[t]? = some (Obj.cells #[.pointer (some ⟨r, 0, none⟩), .int .i64 (L.length : Int)] 103 (0, 0)) ∧ InT (gl L (dep L.length)) w (dep L.length) 0 r
theorem TreeM.below {L : List (List UInt8)} {w w' : World} {t : Nat} (h : TreeM L w t) (hb : Below w.heap.size w w') : TreeM L w' t := by
  obtain ⟨r, h1, h2⟩ := h.blk
  exact ⟨h.le, r, (hb.block t (lit_lt h1)).trans h1, h2.below hb⟩
theorem TreeM.next {L : List (List UInt8)} {w w' : World} {t B : Nat} (h : TreeM L w t) (hB : w.heap.size ≤ B) (hb : Below B w w') : TreeM L w' t := h.below (hb.mono hB)
theorem isNone_any (L : List (List UInt8)) (t : Nat) (w : World) (h : TreeM L w t) : Calls Tryz.prog 69 #[.pointer (some ⟨t, 0, none⟩)] w fun e w' => e = .returned (.bool false) ∧ w = w' := by
  obtain ⟨r, h1, _⟩ := h.blk
  have c0 := (lit_cell h1 0).trans rfl
  clear h1
  go_enter Tryz.func69, Tryz.ntmps69
  go_wp2
  go_ret
  exact ⟨rfl, rfl⟩
/-- the root's digest -/
def rootD (L : List (List UInt8)) : (List UInt8) := dg (gl L (dep L.length)) (dep L.length) 0
theorem rootT_any (L : List (List UInt8)) (t : Nat) (w : World) (h : TreeM L w t) : Calls Tryz.prog 29 #[.pointer (some ⟨t, 0, none⟩)] w fun e w' => e = .returned (.string ⟨(rootD L).toArray⟩) ∧ w = w' := by
  have HN := Lib.hid (isNone_any L t w h)
  obtain ⟨r, h1, h2⟩ := h.blk
  obtain ⟨x, y, h3⟩ := h2.blk
  have c0 := (lit_cell h1 0).trans rfl
  have d0 := (lit_cell h3 0).trans rfl
  rw [show dg (gl L (dep L.length)) (dep L.length) 0 = rootD L from rfl] at d0
  clear h h1 h2 h3
  generalize rootD L = R at *
  go_enter Tryz.func29, Tryz.ntmps29
  go_wp2_with (go_at_call 69; refine HN.out.mono ?_; rintro e w' ⟨rfl, rfl⟩)
  go_ret
  exact ⟨rfl, rfl⟩
theorem depthT_any (L : List (List UInt8)) (t : Nat) (w : World) (h : TreeM L w t) : Calls Tryz.prog 116 #[.pointer (some ⟨t, 0, none⟩)] w fun e w' => e = .returned (.int .i64 (dep L.length : Int)) ∧ w = w' := by
  have HN := Lib.hid (isNone_any L t w h)
  have HD := Lib.hid (show Calls Tryz.prog 96 #[.int .i64 (L.length : Int)] w fun e w' => e = .returned (.int .i64 (dep L.length : Int)) ∧ w = w' from by
    have h2 := depth_any (L.length : Int) (by have := h.le; omega) w
    rwa [depthV, if_neg (by have := h.le; omega), Int.toNat_natCast] at h2)
  obtain ⟨r, h1, _⟩ := h.blk
  have c1 := (lit_cell h1 1).trans rfl
  clear h h1
  go_enter Tryz.func116, Tryz.ntmps116
  go_wp2_with (first | (go_at_call 69; refine HN.out.mono ?_; rintro e w' ⟨rfl, rfl⟩) | (go_at_call 96; refine HD.out.mono ?_; rintro e w' ⟨rfl, rfl⟩))
  go_ret
  exact ⟨rfl, rfl⟩
theorem lenT_any (L : List (List UInt8)) (t : Nat) (w : World) (h : TreeM L w t) : Calls Tryz.prog 118 #[.pointer (some ⟨t, 0, none⟩)] w fun e w' => e = .returned (.int .i64 (L.length : Int)) ∧ w = w' := by
  have HN := Lib.hid (isNone_any L t w h)
  obtain ⟨r, h1, _⟩ := h.blk
  have c1 := (lit_cell h1 1).trans rfl
  clear h h1
  go_enter Tryz.func118, Tryz.ntmps118
  go_wp2_with (go_at_call 69; refine HN.out.mono ?_; rintro e w' ⟨rfl, rfl⟩)
  go_ret
  exact ⟨rfl, rfl⟩
def sliceLen : Value → Nat
  | .slice _ n _ => n
  | _ => 0
set_option maxRecDepth 100000 in
set_option maxHeartbeats 1000000 in
theorem build_any (ao : Option Addr) (cap : Nat) (L : List (List UInt8)) (w : World) (hg : Glob w) (hs : Strs ao L w) (hL : L.length ≤ 65536) (hl : ∀ i (h : i < L.length), L[i].length ≤ 10000000) :
    Calls Tryz.prog 28 #[.slice ao L.length cap] w fun e w' => ∃ t, e = .returned (.tuple #[.pointer (some ⟨t, 0, none⟩), .int .i64 0]) ∧ TreeM L w' t ∧ w.heap.size ≤ t ∧ Below w.heap.size w w' := by
  have HL := Lib.hid (leaves_any ao cap L w hg hs hL hl)
  have hd := dep_le L.length hL
  have HA := Lib.hid (fun l m B cp wz (h : Below w.heap.size w wz) hr hm hc => above_any (gl L (dep L.length)) (gl_len L _) l m B cp wz (hg.below hg.size h) hr hm hc)
  have HF := Lib.hid (show ∀ t wz r, wz.heap[t]? = some (Obj.cells #[.pointer (some ⟨r, 0, none⟩), .int .i64 (L.length : Int)] 103 (0, 0)) → InT (gl L (dep L.length)) wz (dep L.length) 0 r → TreeM L wz t from fun t wz r h1 h2 => ⟨hL, r, h1, h2⟩)
  have h1 : ¬ (65536 : Int) < (L.length : Int) := by omega
  clear hg hs hL hl
  generalize gl L (dep L.length) = g at *
  generalize dep L.length = d at *
  go_enter Tryz.func28, Tryz.ntmps28
  go_upto_region 3 with fail
  go_wp2_with (go_at_call 67; refine HL.out.mono ?_; rintro e w1 ⟨B, rfl, hB, hr, hb1⟩)
  go_loopw [4] (fun s4 wr => ∃ (j B cp m : Nat), j ≤ d ∧ m = 2 ^ (d - j) ∧ s4 = .slice (some ⟨B, 0, none⟩) m cp ∧ Hid (m ≤ cp ∧ RowT g wr j m B ∧ Below w.heap.size w wr)) (fun s4 _ => sliceLen s4)
  case atStart => exact ⟨0, B, _, _, Nat.zero_le _, rfl, rfl, Lib.hid ⟨Nat.le_refl _, hr, hb1⟩⟩
  case round =>
    obtain ⟨j, B', cp, m, hj, hm, rfl, HK⟩ := hrel
    by_cases hlt : j < d
    · obtain ⟨q, hq⟩ : ∃ q, q = 2 ^ (d - (j + 1)) := ⟨_, rfl⟩
      have hmq : m = 2 * q := by rw [hm, hq, show d - j = (d - (j + 1)) + 1 by omega, Nat.pow_succ, Nat.mul_comm]
      have hq1 : 1 ≤ q := by rw [hq]; exact Nat.one_le_two_pow
      have hq2 : q ≤ 65536 := by rw [hq]; exact Nat.le_trans (Nat.pow_le_pow_right (by decide) (by omega)) (show 2 ^ 16 ≤ 65536 by decide)
      have HX := Lib.hid (show Calls Tryz.prog 68 #[.slice (some ⟨B', 0, none⟩) m cp] wr fun e w' => ∃ B2 cp2, e = .returned (.slice (some ⟨B2, 0, none⟩) q cp2) ∧ q ≤ cp2 ∧ RowT g w' (j + 1) q B2 ∧ Below wr.heap.size wr w' from by
        have h1 := HK.out.1
        have h2 := HK.out.2.1
        rw [hmq] at h1 h2 ⊢
        exact HA.out j q B' cp wr HK.out.2.2 h2 ⟨hq1, hq2⟩ h1)
      have k1 : (1 : Int) < (m : Int) := by omega
      have HQ := Lib.hid (And.intro hq (And.intro hq1 hmq))
      clear hq hq1 hq2 hmq hm
      go_wp2_with (go_at_call 68; refine HX.out.mono ?_; rintro e w2 ⟨B2, cp2, rfl, hc2, hr2, hb2⟩)
      go_roundw
      case rel => exact ⟨j + 1, B2, cp2, q, hlt, HQ.out.1, rfl, Lib.hid ⟨hc2, hr2, below_next HK.out.2.2 hb2⟩⟩
      case measure => simp [sliceLen]; have := HQ.out; omega
    · obtain rfl : j = d := by omega
      rw [Nat.sub_self, Nat.pow_zero] at hm
      subst hm
      have k1 : ¬ (1 : Int) < ((1 : Nat) : Int) := by omega
      obtain ⟨b, hb0, hbt⟩ := HK.out.2.1.at_ 0 (by omega)
      have HBT := Lib.hid hbt
      clear hbt
      go_wp2
      refine bodyPost_ret (v := .tuple #[.pointer (some ⟨wr.heap.size, 0, none⟩), .int .i64 0]) (by simp [results, Tryz.results28, go_sem]) rfl ⟨wr.heap.size, rfl, HF.out _ _ _ (heap_alloc_new wr _) (HBT.out.below (by0 wr _)), HK.out.2.2.size, below_alloc HK.out.2.2 _⟩
end Go.Proofs.YtmnklonoelpidaaGreatDoor
