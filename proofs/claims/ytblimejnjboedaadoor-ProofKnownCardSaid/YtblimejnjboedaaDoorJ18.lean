/- A row of the call's own, of up to a thousand numbers, sorted. -/
import Derived.Test.YtblimejnjboedaaDoorJ17
import Derived.Test.YtblimejnjboedaaDoorJ1
import Derived.Test.YtblimejnjboedaaDoorJ10
import Derived.Laws.MakeOwn
import Derived.Deep.Cut
import Derived.Deep.RegionHeld3
import Derived.Test.YtblimejnjboedaaDoorJ2
import Derived.Lib.ItoaNum
namespace Go.Proofs.YtblimejnjboedaaDoor
open Go.RowKit Go.Sort

theorem blen_le (n : Nat) (hn : n ≤ 1000) : Lib.bitLen n ≤ 100 := by
  rcases Nat.eq_zero_or_pos n with rfl | h
  · decide
  · obtain ⟨g1, g2, g3⟩ := Lib.bitLenAux_bounds 64 n (by omega) (by omega)
    have g2 : 2 ^ (Lib.bitLen n - 1) ≤ n := g2
    rcases Nat.lt_or_ge 100 (Lib.bitLen n) with c | c
    · have : 2 ^ 10 ≤ 2 ^ (Lib.bitLen n - 1) := Nat.pow_le_pow_right (by decide) (by omega)
      omega
    · exact c
set_option maxRecDepth 100000 in
theorem sortr_any (w0 : World) (b n cap : Nat) (c0 : Array Value) (hn : n ≤ 1000) (d : Array Nat) (w : World) (hR : Rw w0 b c0 n d w) :
    Calls Tryd.prog 65 #[.slice (some ⟨b, 0, none⟩) n cap] w fun e w' => ∃ e' : Array Nat, e = .returned (.tuple #[]) ∧ PermIn 0 n d e' ∧ Srt 0 n e' ∧ Rw w0 b c0 n e' w' := by
  have HP := Lib.hid (show Calls Tryd.prog 77 #[.slice (some ⟨b, 0, none⟩) n cap, .int .i64 0, .int .i64 (n : Int), .int .i64 (Lib.bitLen n : Int)] w _ from pdq_any w0 b n cap c0 (by omega) n d 0 n (Lib.bitLen n) w (Nat.le_refl _) (Nat.zero_le _) (Nat.le_refl _) (blen_le n hn) (.inl rfl) hR)
  have HL := Lib.hid (ylen_any n (by omega) w)
  have h49 : (n : Int) ≤ 1000 := by omega
  generalize Lib.bitLen n = k at *
  clear hR
  go_enter Tryd.func65, Tryd.ntmps65
  go_wp2_with (first | (go_at_call 31; refine HL.out.mono ?_; rintro e w' ⟨rfl, rfl⟩) | (go_at_call 77; refine HP.out.mono ?_; rintro e w' ⟨e', rfl, hp, hs, hr⟩))
  go_end0
  exact ⟨e', rfl, hp, hs, hr⟩
theorem put_same {X : List Nat} {cur : Array Value} (h : cur.toList.take X.length = X.map encU) : putCells encU 0 X.toArray cur = cur := by
  apply Array.ext
  · simp [putCells]
  · intro t h1 h2
    simp only [putCells, Array.getElem_mapIdx, Nat.zero_le, true_and, Nat.zero_add, Nat.sub_zero, List.size_toArray]
    by_cases c : t < X.length
    · rw [if_pos c]
      have e : (cur.toList.take X.length)[t]? = (X.map encU)[t]? := by rw [h]
      rw [List.getElem?_take_of_lt c, Array.getElem?_toList, Array.getElem?_eq_getElem h2, List.getElem?_map, List.getElem?_eq_getElem c] at e
      simp only [Option.map_some, Option.some.injEq] at e
      rw [e]
      simp [c]
    · rw [if_neg c]
theorem sort_row49 (base : Nat) (v : Value) (n : Nat) (X : List Nat) (w : World) (ho : w.ownsRow base 33 1 v n (X.map encU)) (hn : n ≤ 1000) (hX : X.Nodup) :
    Calls Tryd.prog 65 #[v] w fun e w' => e = .returned (.tuple #[]) ∧ w.grownBy w' v.ownBlock ∧ ∃ N : List Nat, N.Pairwise (· < ·) ∧ (∀ x, x ∈ N ↔ x ∈ X) ∧ w'.ownsRow base 33 1 v n (N.map encU) := by
  by_cases h12 : n ≤ 12
  · exact sort_row base v n X w ho h12 hX
  have hlen : X.length = n := by simpa using ho.1
  rcases ho.2 with ⟨rfl, hn0⟩ | ⟨g, cap0, cur, rfl, hbase, hb, h1, h2, h3, h4⟩
  · omega
  · have h4' : cur.toList.take X.length = X.map encU := by rw [hlen]; simpa using h4
    have hcs : n ≤ cur.size := by
      have := congrArg List.length h4'
      simp at this
      omega
    have hR : Rw w g cur n X.toArray w := ⟨by simpa using hlen, hcs, by rw [put_same h4']; exact hb, ⟨rfl, rfl, rfl, Nat.le_refl _, fun _ _ _ => rfl⟩, (Array.getElem?_eq_some_iff.1 hb).1⟩
    refine (sortr_any w g n cap0 cur hn X.toArray w hR).mono ?_
    rintro e w' ⟨e', rfl, hp, hs, hr⟩
    have hsz := hr.size
    have hp' : e'.toList.Perm X := by
      have hpp : PermIn 0 X.toArray.size X.toArray e' := by rw [show X.toArray.size = n by simpa using hlen]; exact hp
      simpa using permIn_list hpp
    have hsorted : e'.toList.Pairwise (· ≤ ·) := Up.pairwise (by rw [hsz]; exact fun p q a b => hs p q (Nat.zero_le _) a b)
    have hnd : e'.toList.Nodup := hp'.nodup_iff.2 hX
    refine ⟨rfl, hr.kept, e'.toList, ?_, fun x => hp'.mem_iff, ?_⟩
    · refine (hsorted.and hnd).imp fun h => ?_
      have := h.1
      have := h.2
      omega
    · refine ⟨by simp [hsz], .inr ⟨g, cap0, _, rfl, hbase, hr.blk, h1, h2, by simp [putCells, h3], ?_⟩⟩
      apply List.ext_getElem?
      intro j
      by_cases hj : j < n
      · rw [Nat.mul_one, List.getElem?_take_of_lt hj, Array.getElem?_toList]
        simp [putCells, hsz, hj, show j < cur.size by omega]
      · rw [Nat.mul_one, List.getElem?_take_eq_none (by omega), List.getElem?_eq_none (by simp; omega)]
end Go.Proofs.YtblimejnjboedaaDoor
/- What is needed of a set of up to a thousand. -/
namespace Go.Proofs.YtblimejnjboedaaDoor
open Go.RowKit Go.Sort

set_option maxRecDepth 100000 in
set_option maxHeartbeats 2000000 in
theorem needed49_any (b n : Nat) (K : List Nat) (w : World) (hs : SetU b n K w) (hn : n ≤ 1000) :
    Calls Tryd.prog 38 #[.map (some b)] w fun e w' => ∃ v N, e = .returned v ∧ Need K N ∧ N.length ≤ n ∧ w'.ownsRow w.heap.size 33 1 v N.length (N.map encU) ∧ Below w.heap.size w w' := by
  have HS := Lib.hid hs
  obtain ⟨B, hB⟩ : ∃ B, B = w.heap.size := ⟨_, rfl⟩
  have hbB : b < B := by have := hs.lt; omega
  clear hs
  go_enter Tryd.func38, Tryd.ntmps38
  go_wp2_with (at_range; refine wpList_range_set _ rfl _ 70 rfl 109 keyU Tryd.underlying70 b n K rfl HS.out ?_; intro w0 hrg0 hg0 hs0)
  rw [← hB] at hrg0 hs0 ⊢
  have HR0 := Lib.hid hrg0
  have HG0 := Lib.hid ((Below.refl B w).grown hg0 (by omega) (fun k e => by cases e))
  have hz0 : B + 1 ≤ w0.heap.size := by omega
  have HB := Lib.hid hB
  clear hrg0 hg0 hs0 hB
  go_frame
  go_loopw [3] (fun v wr => ∃ V : List Nat, Hid (RangeU b B n K V wr) ∧ Hid (wr.ownsRow (B + 1) 33 1 v (lacks K V).length ((lacks K V).map encU)) ∧ Hid (Below B w wr) ∧ Hid (B + 1 ≤ wr.heap.size)) (fun _ wr => wr.rangeLeft b B)
  case atStart => exact ⟨[], HR0, Lib.hid (World.ownsRow_nil _ _ _ _), HG0, Lib.hid hz0⟩
  case round =>
    obtain ⟨V, HR, HV, HL, HZ⟩ := hrel
    have HSH := Lib.hid HR.out.short
    go_wp2_with (at_next; refine wpList_next_set _ rfl _ rfl keyU Tryd.underlying33 b B n K V rfl HR.out ?_ ?_)
    · intro hdone
      have HD := Lib.hid hdone
      have HQ := Lib.hid (sort_row49 (B + 1) u3 _ (lacks K V) wr HV.out (by have := lacks_len K V; have := HSH.out.1; omega) (lacks_nodup K V HSH.out.2))
      clear hdone
      go_wp2_with (go_at_call 65; refine HQ.out.mono ?_; rintro e w2 ⟨rfl, hg2, N, hN1, hN2, hN3⟩; have HG2 := Lib.hid hg2; have HN := Lib.hid (And.intro hN1 (And.intro hN2 hN3)); clear hg2 hN1 hN2 hN3)
      go_ret
      have hlen : N.length = (lacks K V).length := by have := HN.out.2.2.1; simpa using this
      refine ⟨_, N, rfl, ⟨HN.out.1, fun x => (HN.out.2.1 x).trans (lacks_mem K V HD.out x)⟩, ?_, ?_, ?_⟩
      · have := lacks_len K V
        have := HSH.out.1
        omega
      · rw [hlen, ← HB.out]; exact row_base HN.out.2.2 (by omega)
      · rw [← HB.out]; exact HL.out.grown HG2.out (by have := HZ.out; omega) (fun k e => by have := row_low HV.out (Nat.le_refl _) k e; omega)
    · intro x w1 hx64 hxK hxV hrg1 hlt1 hgr1 hsz1 hen
      have HM := Lib.hid hlt1
      have HR1 := Lib.hid hrg1
      have HG1 := Lib.hid hgr1
      have HZ1 := Lib.hid (show B + 1 ≤ w1.heap.size by have := HZ.out; omega)
      have HV1 := Lib.hid (HV.out.kept hgr1 (.inr (ranges_row HR.out HV.out).2.symm))
      have HC := Lib.hid (sibling_any x hx64 w1)
      have hs64 := sib_lt64 hx64
      have HH := Lib.hid (has_any b n K (sib x) hs64 w1 hrg1.set)
      have HSN := Lib.hid (lacks_snoc K V x)
      have HL1 := Lib.hid (HL.out.grown hgr1 (by have := HZ.out; omega) (fun k e => by cases e; exact Nat.le_refl _))
      clear hlt1 hrg1 hgr1 hsz1 hxK hxV hx64 hs64
      generalize sib x = sx at *
      by_cases hm : sx ∈ K
      · rw [decide_eq_true hm] at HH
        rw [if_pos hm] at HSN
        clear hm
        go_wp2_with (first | (go_at_call 63; refine HC.out.mono ?_; rintro e w2 ⟨rfl, rfl⟩) | (go_at_call 64; refine HH.out.mono ?_; rintro e w2 ⟨rfl, hg2⟩; have HG2 := Lib.hid hg2; clear hg2))
        go_roundw
        case rel => exact ⟨V ++ [x], Lib.hid (HR1.out.kept HG2.out (by simp) (by simp)), Lib.hid (by rw [HSN.out]; exact HV1.out.kept HG2.out (Classical.em _)), Lib.hid (HL1.out.grown HG2.out (by have := HZ1.out; omega) (fun k e => by cases e)), Lib.hid (by have := HG2.out.size; have := HZ1.out; omega)⟩
        case measure =>
          rw [left_kept (HG2.out.block b (by have := HZ1.out; omega) (by simp)) (HG2.out.block B (by have := HZ1.out; omega) (by simp))]
          exact HM.out
      · rw [decide_eq_false hm] at HH
        rw [if_neg hm] at HSN
        clear hm
        go_wp2_with (first | (go_at_call 63; refine HC.out.mono ?_; rintro e w2 ⟨rfl, rfl⟩) | (go_at_call 64; refine HH.out.mono ?_; rintro e w2 ⟨rfl, hg2⟩; have HG2 := Lib.hid hg2; have HV2 := Lib.hid (HV1.out.kept hg2 (Classical.em _)); clear hg2) |
          (at_builtin; refine append_num rfl _ _ rfl rfl rfl HV2.out (by have := lacks_len K V; have := HSH.out.1; omega) (by have := HG2.out.size; have := HZ1.out; omega) ?_; intro v3 w3 ho3 hg3; have HO3 := Lib.hid ho3; have HG3 := Lib.hid hg3; clear ho3 hg3))
        go_roundw
        case rel =>
          have hrr := ranges_row (HR1.out.kept HG2.out (by simp) (by simp)) HV2.out
          exact ⟨V ++ [x], Lib.hid ((HR1.out.kept HG2.out (by simp) (by simp)).kept HG3.out hrr.1 hrr.2), Lib.hid (by rw [HSN.out]; exact HO3.out),
            Lib.hid ((HL1.out.grown HG2.out (by have := HZ1.out; omega) (fun k e => by cases e)).grown HG3.out (by have := HZ1.out; have := HG2.out.size; omega) (fun k e => by have := row_low HV2.out (Nat.le_refl _) k e; omega)), Lib.hid (by have := HG2.out.size; have := HG3.out.size; have := HZ1.out; omega)⟩
        case measure =>
          have hrr := ranges_row (HR1.out.kept HG2.out (by simp) (by simp)) HV2.out
          have hz := HZ1.out
          have h2 := HG2.out.size
          rw [left_kept (HG3.out.block b (by omega) hrr.1) (HG3.out.block B (by omega) hrr.2), left_kept (HG2.out.block b (by omega) (by simp)) (HG2.out.block B (by omega) (by simp))]
          exact HM.out
end Go.Proofs.YtblimejnjboedaaDoor
/- What is needed of up to a thousand leaves: the program's answer. -/
namespace Go.Proofs.YtblimejnjboedaaDoor
open Go.RowKit Go.Sort
attribute [local go_sem] Oper.semAt_some

def Need49 (K N : List Nat) : Prop := Need K N ∧ N.length ≤ 1000
/-- the needed ones of k levels: the variable at b4 holds a row of rows -/
def NeedsAt49 (base b4 : Nat) (L : List Nat) (k : Nat) (W : World) : Prop :=
  ∃ (v : Value) (vs : List Value) (Ms : List (List Nat)), W.heap[b4]? = some (.cells #[v] 42 (0, 0)) ∧ W.ownsRow base 22 1 v k vs ∧ Ms.length = k ∧
    ∀ (i : Nat) (x : Value) (N : List Nat), vs[i]? = some x → Ms[i]? = some N → W.ownsRow base 33 1 x N.length (N.map encU) ∧ Need49 (upTo L i) N
theorem NeedsAt49.kept {S : Nat → Prop} {base b4 : Nat} {L : List Nat} {k : Nat} {W W' : World} (h : NeedsAt49 base b4 L k W) (hk : Kept S W W') (h4 : S b4) (hS : ∀ j, base ≤ j → S j) : NeedsAt49 base b4 L k W' := by
  obtain ⟨v, vs, Ms, h1, h2, h3, h5⟩ := h
  exact ⟨v, vs, Ms, (hk.block b4 (Array.getElem?_eq_some_iff.1 h1).1 h4).trans h1, own_kept h2 hk hS, h3, fun i x N hx hN => ⟨own_kept (h5 i x N hx hN).1 hk hS, (h5 i x N hx hN).2⟩⟩
/-- one level more: what the append and the store leave -/
theorem needs_step49 {lo b4 k : Nat} {L : List Nat} {W w1 : World} {v x : Value} {vs : List Value} {Ms : List (List Nat)} {N : List Nat} (h4 : b4 < lo) (hz : lo + 3 ≤ W.heap.size) (hk : k ≤ 100)
    (hcell : W.heap[b4]? = some (.cells #[v] 42 (0, 0))) (hown : W.ownsRow (lo + 3) 22 1 v k vs) (hMs : Ms.length = k)
    (hrows : ∀ (i : Nat) (x : Value) (N : List Nat), vs[i]? = some x → Ms[i]? = some N → W.ownsRow (lo + 3) 33 1 x N.length (N.map encU) ∧ Need49 (upTo L i) N)
    (hb : Below W.heap.size W w1) (hx : w1.ownsRow W.heap.size 33 1 x N.length (N.map encU)) (hN : Need49 (upTo L k) N) :
    ∃ (g cp : Nat) (w2 : World), (Builtin.append_ #[42, 42] 42 #[v, .slice (some ⟨w1.heap.size, 0, none⟩) 1 1]).run Tryd.prog (w1.alloc (.cells #[x] 22)) = .ok (.slice (some ⟨g, 0, none⟩) (k + 1) cp) w2 ∧
      w1.cell? ⟨b4, 0, none⟩ = some v ∧ w2.cell? ⟨b4, 0, none⟩ = some v ∧ w2.frozen? ⟨b4, 0, none⟩ = false ∧
      Kept (fun j => (j < lo ∧ j ∉ [b4]) ∨ (lo ≤ j ∧ j < lo + 3)) W (w2.setCell ⟨b4, 0, none⟩ (.slice (some ⟨g, 0, none⟩) (k + 1) cp)) ∧
      NeedsAt49 (lo + 3) b4 L (k + 1) (w2.setCell ⟨b4, 0, none⟩ (.slice (some ⟨g, 0, none⟩) (k + 1) cp)) := by
  obtain ⟨i0, hi, hz0, hz1, hz2⟩ := info_parts infoW
  have hsz := hb.size
  have kb : Kept (fun j => j < W.heap.size) W w1 := Kept.of_below hb fun j h => h
  have ka : Kept (fun j => j < W.heap.size) W (w1.alloc (.cells #[x] 22)) := kb.alloc _
  have ho1 : w1.ownsRow (lo + 3) 22 1 v k vs := by
    refine ⟨hown.1, ?_⟩
    rcases hown.2 with h | ⟨g, cap, cur, h0, h1, h2, h3⟩
    · exact .inl h
    · exact .inr ⟨g, cap, cur, h0, h1, (hb.block g (Array.getElem?_eq_some_iff.1 h2).1).trans h2, h3⟩
  obtain ⟨v2, w2, hrun, ho2, hg2, _⟩ := run_append_own (P := Tryd.prog) (w := w1.alloc (.cells #[x] 22)) (lo + 3) 42 42 22 i0 (.slice none 0 0) 1 24 Tryd.underlying42 hi hz0 hz1 hz2 rfl (by decide) v k vs (ho1.alloc _) ⟨w1.heap.size, 0, none⟩ 1 1 [x] rfl (cell_one_new _ _ _)
    (by intro u hu; simp at hu; subst hu; exact own_one hx) (by unfold maxLen; omega) (by omega) (by simp; omega)
  obtain ⟨g, cp, rfl⟩ := ownsRow_succ ho2
  have hv4 : ∀ j, some j = v.ownBlock → lo + 3 ≤ j := fun j e => (hown.lt j e.symm).1
  have kw : Kept (fun j => j < lo + 3) W w2 := (ka.less (fun j _ h => by omega)).grown hg2 (fun j e _ h => by have := hv4 j e; omega)
  have c2 : w2.heap[b4]? = some (.cells #[v] 42 (0, 0)) := (kw.block b4 (by omega) (by omega)).trans hcell
  have ks : Kept (fun j => (j < lo ∧ j ∉ [b4]) ∨ (lo ≤ j ∧ j < lo + 3)) W (w2.setCell ⟨b4, 0, none⟩ (.slice (some ⟨g, 0, none⟩) (k + 1) cp)) := (kw.less (fun j _ h => by rcases h with h | h <;> omega)).setCell b4 0 _ (fun _ h => h.elim (fun h => h.2 (by simp)) (fun h => by omega))
  refine ⟨g, cp, w2, hrun, by simp [World.cell?, (kb.block b4 (by omega) (by omega)).trans hcell], by simp [World.cell?, c2], by simp [World.frozen?, c2], ks, ?_⟩
  have hset : ∀ j, j ≠ b4 → (w2.setCell ⟨b4, 0, none⟩ (.slice (some ⟨g, 0, none⟩) (k + 1) cp)).heap[j]? = w2.heap[j]? := fun j hj => Below.heap_setCell _ _ _ _ (show j ≠ b4 from hj)
  have k2 : Kept (fun j => j ≠ b4) w2 (w2.setCell ⟨b4, 0, none⟩ (.slice (some ⟨g, 0, none⟩) (k + 1) cp)) := (Kept.refl _ w2).setCell b4 0 _ (fun _ h => h rfl)
  refine ⟨_, vs ++ [x], Ms ++ [N], ?_, own_kept ho2 k2 (fun j hj => by omega), by simp [hMs], ?_⟩
  · show (w2.heap.modify b4 _)[b4]? = _
    rw [Array.getElem?_modify, if_pos rfl, c2]
    rfl
  · intro i y N' hy hN'
    by_cases hik : i < k
    · have hvl : vs.length = k := by simpa using hown.1
      rw [List.getElem?_append_left (by omega)] at hy hN'
      have := hrows i y N' hy hN'
      have hr1 : w1.ownsRow (lo + 3) 33 1 y N'.length (N'.map encU) := by
        refine ⟨this.1.1, ?_⟩
        rcases this.1.2 with h | ⟨g, cap, cur, h0, h1, h2, h3⟩
        · exact .inl h
        · exact .inr ⟨g, cap, cur, h0, h1, (hb.block g (Array.getElem?_eq_some_iff.1 h2).1).trans h2, h3⟩
      have hr2 := (hr1.alloc (.cells #[x] 22)).kept hg2 (own_apart (w := w1.alloc (.cells #[x] 22)) (ho1.alloc _) (hr1.alloc _) (by decide))
      exact ⟨own_kept hr2 k2 (fun j hj => by omega), this.2⟩
    · have hvl : vs.length = k := by simpa using hown.1
      have hi : i = k := by
        have h := (List.getElem?_eq_some_iff.1 hy).1
        simp at h; omega
      subst hi
      rw [← hvl, List.getElem?_concat_length] at hy
      rw [← hMs, List.getElem?_concat_length] at hN'
      cases hy
      cases hN'
      have hr2 := (hx.alloc (.cells #[x] 22)).kept hg2 (own_apart (w := w1.alloc (.cells #[x] 22)) (ho1.alloc _) (hx.alloc _) (by decide))
      exact ⟨own_kept (row_base hr2 hz) k2 (fun j hj => by omega), hN⟩
theorem needed49_sl (b n : Nat) (K : List Nat) (w : World) (hs : SetU b n K w) (hn : n ≤ 1000) :
    Calls Tryd.prog 38 #[.map (some b)] w fun e w' => ∃ (ao : Option Addr) (cp : Nat) (N : List Nat), e = .returned (.slice ao N.length cp) ∧ Need49 K N ∧ w'.ownsRow w.heap.size 33 1 (.slice ao N.length cp) N.length (N.map encU) ∧ Below w.heap.size w w' := by
  refine (needed49_any b n K w hs hn).mono ?_
  rintro e w' ⟨v, N, rfl, h1, h2, h3, h4⟩
  obtain ⟨ao, cp, rfl, _, _⟩ := nums_of_row h3
  exact ⟨ao, cp, N, rfl, ⟨h1, by omega⟩, h3, h4⟩
set_option maxRecDepth 100000 in
set_option maxHeartbeats 2000000 in
theorem needs49_any (ao : Option Addr) (cap : Nat) (L : List Nat) (d : Nat) (w : World) (hN : Nums ao L w) (hL : ∀ x ∈ L, x < 18446744073709551616) (h0 : L ≠ []) (hn : L.length ≤ 1000) (hs : ∀ x ∈ L, standsB x (d : Int) = true) (hd : d ≤ 16) :
    Calls Tryd.prog 18 #[.slice ao L.length cap, .int .i64 (d : Int)] w fun e w' => ∃ (v : Value) (vs : List Value) (Ms : List (List Nat)), e = .returned v ∧ w'.ownsRow w.heap.size 22 1 v d vs ∧ Ms.length = d ∧
      (∀ (i : Nat) (x : Value) (N : List Nat), vs[i]? = some x → Ms[i]? = some N → w'.ownsRow w.heap.size 33 1 x N.length (N.map encU) ∧ Need49 (upTo L i) N) ∧ Below w.heap.size w w' := by
  obtain ⟨B, hB⟩ : ∃ B, B = w.heap.size := ⟨_, rfl⟩
  have hlen : 0 < L.length := List.length_pos_iff.2 h0
  have hl0 : ((L.length : Int) == 0) = false := by rw [beq_eq_false_iff_ne]; omega
  obtain ⟨w1, hw1⟩ : ∃ w1, w.alloc (.cells #[.int .i64 (d : Int)] 3) = w1 := ⟨_, rfl⟩
  have hz1 : w1.heap.size = B + 1 := by rw [← hw1, World.size_alloc, hB]
  have hN1 : Nums ao L w1 := by rw [← hw1]; exact hN.grown (World.grownBy_alloc _ _ none) (fun _ _ _ => by simp)
  have hc1 : w1.cell? ⟨B, 0, none⟩ = some (.int .i64 (d : Int)) := by rw [← hw1, hB]; simp
  have hb1 : Below B w w1 := by rw [← hw1]; exact (Below.refl _ _).alloc (by omega) _
  obtain ⟨w2, hw2⟩ : ∃ w2, w1.alloc (.cells #[.slice none 0 0] 42) = w2 := ⟨_, rfl⟩
  have hz2 : w2.heap.size = B + 2 := by rw [← hw2, World.size_alloc, hz1]
  have hc2 : w2.cell? ⟨B, 0, none⟩ = some (.int .i64 (d : Int)) := by rw [← hw2]; exact (World.cell?_alloc_lt _ _ _ (by show B < _; omega)).trans hc1
  have hn2 : w2.heap[B + 1]? = some (.cells #[.slice none 0 0] 42 (0, 0)) := by rw [← hw2, ← hz1]; exact World.alloc_heap_new _ _
  have hb2 : Below B w w2 := by rw [← hw2]; exact hb1.alloc (by omega) _
  have hN2 : Nums ao L w2 := by rw [← hw2]; exact hN1.grown (World.grownBy_alloc _ _ none) (fun _ _ _ => by simp)
  obtain ⟨w3, hw3⟩ : ∃ w3, (w2.alloc (.cells #[.slice ao L.length cap] 22)).alloc (.cells #[.int .i64 (d : Int)] 3) = w3 := ⟨_, rfl⟩
  have hz3 : w3.heap.size = B + 4 := by rw [← hw3, World.size_alloc, World.size_alloc, hz2]
  have hk3 : Below (B + 2) w2 w3 := by rw [← hw3]; exact ((Below.refl _ _).alloc (by omega) _).alloc (by simp; omega) _
  have hq1 : w3.cell? ⟨B + 2, 0, none⟩ = some (.slice ao L.length cap) := by
    rw [← hw3, ← hz2]; exact (World.cell?_alloc_lt _ _ _ (by simp)).trans (by simp)
  have hq2 : w3.cell? ⟨B + 3, 0, none⟩ = some (.int .i64 (d : Int)) := by
    rw [← hw3, show B + 3 = (w2.alloc (.cells #[.slice ao L.length cap] 22)).heap.size by simp; omega]; simp
  have hb3 : Below B w w3 := hb2.trans (hk3.mono (by omega))
  have hn3 : w3.heap[B + 1]? = some (.cells #[.slice none 0 0] 42 (0, 0)) := (hk3.block _ (by omega)).trans hn2
  have hN3 : Nums ao L w3 := by
    rcases hN with h | ⟨b, off, rfl, h2, h3⟩
    · exact .inl h
    · exact .inr ⟨b, off, rfl, by omega, fun i hi => (hb3.cell (p := ⟨b, off + i, none⟩) (by show b < B; omega)).trans (h3 i hi)⟩
  have HC := Lib.hid (contains_any ao cap L B d w1 hN1 (by omega) hc1)
  have hany : (L.any fun x => !standsB x (d : Int)) = false := by
    rw [Bool.eq_false_iff]
    intro h
    obtain ⟨x, hx, hh⟩ := List.any_eq_true.1 h
    rw [hs x hx] at hh
    cases hh
  rw [hany] at HC
  have HV := Lib.hid (levels_any ao L.length cap (d : Int) w2)
  rw [hw3, hz2] at HV
  have HW := Lib.hid (And.intro hb3 (And.intro hn3 (And.intro hN3 (And.intro hq1 hq2))))
  have HB := Lib.hid hB
  have HZ3 := Lib.hid hz3
  have hB' : w.heap.size = B := hB.symm
  clear hany hN hN1 hN2 hN3 hb1 hb2 hb3 hn2 hn3 hq1 hq2 hk3 hc1 hw3 hB hz2 hz3
  refine calls_of_wp_marks Tryd.func18 rfl ?_
  simp only [Tryd.ntmps18, List.size_toArray, List.length_cons, List.length_nil, Nat.reduceAdd, Nat.reduceSub, Array.replicate_succ, Array.replicate_zero, List.push_toArray, List.append_toArray, List.nil_append, List.cons_append]
  go_wp2_with (first | (go_at_call 36; refine HC.out.mono ?_; rintro e w2 ⟨rfl, rfl⟩) | (go_at_call 37; refine HV.out.mono ?_; rintro e w2 ⟨rfl, rfl⟩))
  obtain ⟨hb3, hn3, hN3, hq1, hq2⟩ := HW.out
  refine wp_rangeFunc_own (gf := 60) (lb := #[.pointer (some ⟨B + 2, 0, none⟩), .pointer (some ⟨B + 3, 0, none⟩)]) rfl (enters_of Tryd.func60 (by kernel_rfl) rfl)
    (levels_hands (B + 2) (B + 3) ao cap L d hL (by omega) hd) (fun _ => rfl) (B + 4) HZ3.out ?ok (by simp) [B + 1] (by simp) (fun k W W' h e => h.block e)
    (fun k W => NeedsAt49 (B + 7) (B + 1) L k W ∧ B + 4 ≤ W.heap.size) ?keep ?start
    (fun m => { tmps := #[.slice ao L.length cap, .int .i64 (d : Int), undef, .pointer (some ⟨B, 0, none⟩), .slice none 0 0, .func (.func 34) #[] #[.pointer (some ⟨B, 0, none⟩)], .pointer (some ⟨B + 1, 0, none⟩), .map (some m),
      .func (.func 34) #[] #[.pointer (some ⟨B, 0, none⟩)], .slice ao L.length cap, .int .i64 (L.length : Int), .bool false, .bool false, .slice ao L.length cap, .func (.func 34) #[] #[.pointer (some ⟨B, 0, none⟩)], .bool false, .bool false,
      .slice ao L.length cap, .int .i64 (d : Int), .func (.func 60) #[] #[.pointer (some ⟨B + 2, 0, none⟩), .pointer (some ⟨B + 3, 0, none⟩)], .map (some m), undef, undef, undef, undef, undef, undef], defers := [] }) ?assign ?body ?done
  case ok =>
    intro W' hW'
    have hz := HZ3.out
    refine ⟨(hW'.cell (p := ⟨B + 2, 0, none⟩) (by show B + 2 < B + 4; omega)).trans hq1, (hW'.cell (p := ⟨B + 3, 0, none⟩) (by show B + 3 < B + 4; omega)).trans hq2, ?_⟩
    rcases hN3 with h | ⟨b, off, rfl, h2, h3⟩
    · exact .inl h
    · exact .inr ⟨b, off, rfl, by have := hW'.size; omega, fun i hi => (hW'.cell (p := ⟨b, off + i, none⟩) (by show b < B + 4; omega)).trans (h3 i hi)⟩
  case keep =>
    rintro k W W' ⟨h, hz⟩ hk
    exact ⟨h.kept hk (.inl (by omega)) (fun j hj => .inr (by omega)), by have := hk.size; omega⟩
  case start => exact ⟨⟨.slice none 0 0, [], [], hn3, World.ownsRow_nil _ _ _ _, rfl, fun i x N h => by simp at h⟩, by rw [HZ3.out]; omega⟩
  case assign =>
    intro l W K hK
    gi_wp2
    exact hK
  case body =>
    rintro l k W hkd hWz ⟨⟨v, vs, Ms, hcell, hown, hMs, hrows⟩, hz⟩ hset
    have hset2 : SetU (B + 4 + 2) L.length (upTo L k) W.drew := hset.block rfl
    have HND := Lib.hid (needed49_sl (B + 4 + 2) L.length (upTo L k) W.drew hset2 hn)
    have hc4 : W.cell? ⟨B + 1, 0, none⟩ = some v := by simp [World.cell?, hcell]
    have HST := Lib.hid (fun (w1 : World) (x : Value) (N : List Nat) => needs_step49 (lo := B + 4) (b4 := B + 1) (k := k) (L := L) (W := W.drew) (w1 := w1) (v := v) (x := x) (vs := vs) (Ms := Ms) (N := N) (by omega) hWz (by omega) hcell (own_kept hown (Kept.refl _ W).drew (fun _ _ => trivial)) hMs
      (fun i x N hx hN => ⟨own_kept (hrows i x N hx hN).1 (S := fun _ => True) (Kept.refl _ W).drew (fun _ _ => trivial), (hrows i x N hx hN).2⟩))
    have hmo : Tryd.prog.follows .mixedOrders = true := by kernel_rfl
    clear hset hset2 hrows hown hcell
    gi_wp2
    refine wpIn_region_any hmo ?_
    change wpAnyIn _ _ _ _ _ _ _ _ _ (World.drew _)
    refine wpAnyIn_ready (rs := [0, 1]) (by kernel_rfl) (by simp) (AllReadyIn.cons rfl (fun K hK => ?_) (AllReadyIn.cons rfl (fun K hK => ?_) AllReadyIn.nil))
    · go_simp
      refine hK _ _ ?_
      clear hK K
      refine wpAnyIn_ready (rs := [1]) (by kernel_rfl) (by simp) (AllReadyIn.cons rfl (fun K hK => ?_) AllReadyIn.nil)
      go_simp
      refine hK _ _ ?_
      clear hK K
      refine wpAnyIn_ready (rs := [2]) (by kernel_rfl) (by simp) (AllReadyIn.cons rfl (fun K hK => ?_) AllReadyIn.nil)
      go_simp
      refine ⟨trivial, rfl, (CallsIn.inRound l (callsIn_wide.2 HND.out)).mono ?_⟩
      rintro e w1 ⟨ax, cx, N, rfl, hneed, hxrow, hbel⟩
      obtain ⟨g, cp, w2, hrun, e1, e2, e3, hkp, hat⟩ := HST.out w1 _ N hbel hxrow hneed
      have HKP := Lib.hid ((Kept.refl _ W).drew.trans hkp)
      have HAT := Lib.hid hat
      have e4 : (w1.alloc (.cells #[.slice ax N.length cx] 22)).cell? ⟨B + 1, 0, none⟩ = some v := (World.cell?_alloc_lt _ _ _ (World.block_lt_of_cell? w1 _ e1)).trans e1
      clear hkp hat hneed hxrow hbel
      refine hK _ _ ?_
      clear hK K
      refine wpAnyIn_ready (rs := [3]) (by kernel_rfl) (by simp) (AllReadyIn.cons rfl (fun K hK => ?_) AllReadyIn.nil)
      go_simp
      refine hK _ _ ?_
      clear hK K
      refine wpAnyIn_ready (rs := [4]) (by kernel_rfl) (by simp) (AllReadyIn.cons rfl (fun K hK => ?_) AllReadyIn.nil)
      refine step_append_in rfl _ _ 42 rfl rfl rfl hrun ?_
      go_frame
      refine hK _ _ ?_
      clear hK K
      refine wpAnyIn_ready (rs := [5]) (by kernel_rfl) (by simp) (AllReadyIn.cons rfl (fun K hK => ?_) AllReadyIn.nil)
      go_simp
      refine hK _ _ ?_
      clear hK K
      refine wpAnyIn_done (by kernel_rfl) ?_ _
      exact ⟨HKP.out, HAT.out, by have := HKP.out.size; omega⟩
    · go_simp
      refine hK _ _ ?_
      clear hK K
      refine wpAnyIn_ready (rs := [0, 2]) (by kernel_rfl) (by simp) (AllReadyIn.cons rfl (fun K hK => ?_) (AllReadyIn.cons rfl (fun K hK => ?_) AllReadyIn.nil))
      · go_simp
        refine hK _ _ ?_
        clear hK K
        refine wpAnyIn_ready (rs := [2]) (by kernel_rfl) (by simp) (AllReadyIn.cons rfl (fun K hK => ?_) AllReadyIn.nil)
        go_simp
        refine ⟨trivial, rfl, (CallsIn.inRound l (callsIn_wide.2 HND.out)).mono ?_⟩
        rintro e w1 ⟨ax, cx, N, rfl, hneed, hxrow, hbel⟩
        obtain ⟨g, cp, w2, hrun, e1, e2, e3, hkp, hat⟩ := HST.out w1 _ N hbel hxrow hneed
        have HKP := Lib.hid ((Kept.refl _ W).drew.trans hkp)
        have HAT := Lib.hid hat
        have e4 : (w1.alloc (.cells #[.slice ax N.length cx] 22)).cell? ⟨B + 1, 0, none⟩ = some v := (World.cell?_alloc_lt _ _ _ (World.block_lt_of_cell? w1 _ e1)).trans e1
        clear hkp hat hneed hxrow hbel
        refine hK _ _ ?_
        clear hK K
        refine wpAnyIn_ready (rs := [3]) (by kernel_rfl) (by simp) (AllReadyIn.cons rfl (fun K hK => ?_) AllReadyIn.nil)
        go_simp
        refine hK _ _ ?_
        clear hK K
        refine wpAnyIn_ready (rs := [4]) (by kernel_rfl) (by simp) (AllReadyIn.cons rfl (fun K hK => ?_) AllReadyIn.nil)
        refine step_append_in rfl _ _ 42 rfl rfl rfl hrun ?_
        go_frame
        refine hK _ _ ?_
        clear hK K
        refine wpAnyIn_ready (rs := [5]) (by kernel_rfl) (by simp) (AllReadyIn.cons rfl (fun K hK => ?_) AllReadyIn.nil)
        go_simp
        refine hK _ _ ?_
        clear hK K
        refine wpAnyIn_done (by kernel_rfl) ?_ _
        exact ⟨HKP.out, HAT.out, by have := HKP.out.size; omega⟩
      · go_simp
        refine ⟨trivial, rfl, (CallsIn.inRound l (callsIn_wide.2 HND.out)).mono ?_⟩
        rintro e w1 ⟨ax, cx, N, rfl, hneed, hxrow, hbel⟩
        obtain ⟨g, cp, w2, hrun, e1, e2, e3, hkp, hat⟩ := HST.out w1 _ N hbel hxrow hneed
        have HKP := Lib.hid ((Kept.refl _ W).drew.trans hkp)
        have HAT := Lib.hid hat
        have e4 : (w1.alloc (.cells #[.slice ax N.length cx] 22)).cell? ⟨B + 1, 0, none⟩ = some v := (World.cell?_alloc_lt _ _ _ (World.block_lt_of_cell? w1 _ e1)).trans e1
        clear hkp hat hneed hxrow hbel
        refine hK _ _ ?_
        clear hK K
        refine wpAnyIn_ready (rs := [0, 3]) (by kernel_rfl) (by simp) (AllReadyIn.cons rfl (fun K hK => ?_) (AllReadyIn.cons rfl (fun K hK => ?_) AllReadyIn.nil))
        · go_simp
          refine hK _ _ ?_
          clear hK K
          refine wpAnyIn_ready (rs := [3]) (by kernel_rfl) (by simp) (AllReadyIn.cons rfl (fun K hK => ?_) AllReadyIn.nil)
          go_simp
          refine hK _ _ ?_
          clear hK K
          refine wpAnyIn_ready (rs := [4]) (by kernel_rfl) (by simp) (AllReadyIn.cons rfl (fun K hK => ?_) AllReadyIn.nil)
          refine step_append_in rfl _ _ 42 rfl rfl rfl hrun ?_
          go_frame
          refine hK _ _ ?_
          clear hK K
          refine wpAnyIn_ready (rs := [5]) (by kernel_rfl) (by simp) (AllReadyIn.cons rfl (fun K hK => ?_) AllReadyIn.nil)
          go_simp
          refine hK _ _ ?_
          clear hK K
          refine wpAnyIn_done (by kernel_rfl) ?_ _
          exact ⟨HKP.out, HAT.out, by have := HKP.out.size; omega⟩
        · go_simp
          refine hK _ _ ?_
          clear hK K
          refine wpAnyIn_ready (rs := [0]) (by kernel_rfl) (by simp) (AllReadyIn.cons rfl (fun K hK => ?_) AllReadyIn.nil)
          go_simp
          refine hK _ _ ?_
          clear hK K
          refine wpAnyIn_ready (rs := [4]) (by kernel_rfl) (by simp) (AllReadyIn.cons rfl (fun K hK => ?_) AllReadyIn.nil)
          refine step_append_in rfl _ _ 42 rfl rfl rfl hrun ?_
          go_frame
          refine hK _ _ ?_
          clear hK K
          refine wpAnyIn_ready (rs := [5]) (by kernel_rfl) (by simp) (AllReadyIn.cons rfl (fun K hK => ?_) AllReadyIn.nil)
          go_simp
          refine hK _ _ ?_
          clear hK K
          refine wpAnyIn_done (by kernel_rfl) ?_ _
          exact ⟨HKP.out, HAT.out, by have := HKP.out.size; omega⟩
  case done =>
    rintro W ⟨⟨v, vs, Ms, hcell, hown, hMs, hrows⟩, hz⟩ hkept hdef
    have hc4 : W.cell? ⟨B + 1, 0, none⟩ = some v := by simp [World.cell?, hcell]
    have HR := Lib.hid (And.intro hown (And.intro hMs hrows))
    have HK := Lib.hid hkept
    have HH3 := Lib.hid hb3
    clear hcell hown hrows hkept
    go_wp2
    refine ⟨by simp, .inl ⟨_, _, rfl, run_takeDeferred hdef, ?_⟩⟩
    obtain ⟨hown, hMs', hrows⟩ := HR.out
    have kp : Kept (fun j => j ≠ B + 4) W (W.putObj (B + 4) (.deferred none)) := Kept.putObj _ _ _ _ (by simp)
    have hbw := (HK.out.trans (kp.less (T := fun j => j < B + 4 ∧ j ∉ [B + 1]) fun j _ h => by omega)).below (B := B) (by rw [HZ3.out]; omega) (fun j h => ⟨by omega, by simp; omega⟩)
    refine ⟨_, results_tmp rfl _ _ _, v, vs, Ms, rfl, row_base (own_kept hown kp fun j h => by omega) (by have := HB.out; omega), hMs', fun i x N hx hN => ⟨row_base (own_kept (hrows i x N hx hN).1 kp fun j h => by omega) (by have := HB.out; omega), (hrows i x N hx hN).2⟩, ?_⟩
    rw [← HB.out]
    exact HH3.out.trans hbw

theorem needs49_law (ao : Option Addr) (cap : Nat) (L : List Nat) (d : Nat) (w : World) (hN : Nums ao L w) (hL : ∀ x ∈ L, x < 18446744073709551616) (h0 : L ≠ []) (hn : L.length ≤ 1000) (hs : ∀ x ∈ L, standsB x (d : Int) = true) (hd : d ≤ 16) :
    Calls Tryd.prog 18 #[.slice ao L.length cap, .int .i64 (d : Int)] w fun e w' => ∃ (bo : Option Addr) (cp : Nat) (Ms : List (List Nat)), e = .returned (.slice bo Ms.length cp) ∧ Needs L d Ms ∧ (∀ N ∈ Ms, N.length ≤ 1000) ∧ Rows2 bo Ms w' ∧ Below w.heap.size w w' := by
  refine (needs49_any ao cap L d w hN hL h0 hn hs hd).mono ?_
  rintro e w' ⟨v, vs, Ms, rfl, hown, hMs, hrows, hb⟩
  have hvl : vs.length = d := by simpa using hown.1
  have hall : ∀ i N, Ms[i]? = some N → ∃ x, vs[i]? = some x ∧ w'.ownsRow w.heap.size 33 1 x N.length (N.map encU) ∧ Need49 (upTo L i) N := by
    intro i N hN'
    have hi := (List.getElem?_eq_some_iff.1 hN').1
    obtain ⟨x, hx⟩ : ∃ x, vs[i]? = some x := ⟨_, List.getElem?_eq_getElem (by omega)⟩
    exact ⟨x, hx, hrows i x N hx hN'⟩
  have hNd : Needs L d Ms := ⟨hMs, fun i N h => by obtain ⟨x, _, _, h3⟩ := hall i N h; exact h3.1⟩
  have h49 : ∀ N ∈ Ms, N.length ≤ 1000 := fun N h => by
    obtain ⟨i, hi⟩ := List.getElem?_of_mem h
    obtain ⟨x, _, _, h3⟩ := hall i N hi
    exact h3.2
  have hown0 := hown
  rcases hown.2 with ⟨rfl, hd0⟩ | ⟨g, cp, cur, rfl, h1, h2, h3, h4, h5, h6⟩
  · exact ⟨none, 0, Ms, by rw [hMs, hd0], hNd, h49, .inl (List.length_eq_zero_iff.1 (by omega)), hb⟩
  · refine ⟨_, cp, Ms, by rw [hMs], hNd, h49, .inr ⟨g, 0, rfl, fun i hi => ?_⟩, hb⟩
    obtain ⟨x, hx, hrow, _⟩ := hall i Ms[i] (List.getElem?_eq_getElem hi)
    obtain ⟨ai, ci, rfl, hn3, _⟩ := nums_of_row hrow
    refine ⟨ai, ci, ?_, hn3⟩
    rw [Nat.zero_add]
    exact (hown0.cellAt i (by omega)).trans hx
end Go.Proofs.YtblimejnjboedaaDoor
/- Rising lists; made rows of numbers. -/
namespace Go.Proofs.YtblimejnjboedaaDoor
open Go.RowKit Go.Sort

theorem adj_lt {P : List Nat} (h : ∀ t (ht : t + 1 < P.length), P[t] < P[t + 1]) : P.Pairwise (· < ·) := by
  rw [List.pairwise_iff_getElem]
  intro i j hi hj hij
  obtain ⟨k, rfl⟩ : ∃ k, j = i + k + 1 := ⟨j - i - 1, by omega⟩
  induction k with
  | zero => exact h i hj
  | succ k ih => exact Nat.lt_trans (ih (by omega) (by omega)) (h (i + k + 1) (by omega))
theorem lt_adj {P : List Nat} (h : P.Pairwise (· < ·)) (t : Nat) (ht : t + 1 < P.length) : P[t] < P[t + 1] := by
  rw [List.pairwise_iff_getElem] at h
  exact h t (t + 1) (by omega) ht (by omega)
/-- a made row of numbers, the first ones of which are laid -/
def ups (V : List Nat) (n : Nat) : List Value := V.map encU ++ List.replicate (n - V.length) (.int .u64 0)
theorem ups_len {V : List Nat} {n : Nat} (h : V.length ≤ n) : (ups V n).length = n := by simp [ups]; omega
theorem ups_put {V : List Nat} {n x : Nat} (h : V.length < n) : (ups V n).toArray.setIfInBounds V.length (encU x) = (ups (V ++ [x]) n).toArray := by
  obtain ⟨m, hm⟩ : ∃ m, n - V.length = m + 1 := ⟨n - V.length - 1, by omega⟩
  simp only [ups, hm, List.replicate_succ, List.setIfInBounds_toArray, List.map_append, List.map_cons, List.map_nil, List.length_append, List.length_cons, List.length_nil, List.append_assoc, List.cons_append, List.nil_append]
  rw [show n - (V.length + (0 + 1)) = m by omega]
  congr 1
  rw [List.set_append_right _ _ (by simp)]
  simp
theorem ups_all {V : List Nat} : ups V V.length = V.map encU := by simp [ups]
theorem nums_ups {w : World} {B : Nat} {V : List Nat} {fr : Nat × Nat} (h : w.heap[B]? = some (.cells (ups V V.length).toArray 33 fr)) : Nums (some ⟨B, 0, none⟩) V w := nums_lit h (by rw [ups_all])
theorem made_nums (n : Nat) : madeCells (Value.int .u64 0).cells n = (ups [] n).toArray := by
  apply Array.ext
  · simp [madeCells, ups]
  · intro i h1 h2
    simp [madeCells, Value.cells, Nat.mod_one, ups]
end Go.Proofs.YtblimejnjboedaaDoor
/- Depths: the least power that holds them. -/
namespace Go.Proofs.YtblimejnjboedaaDoor
open Go.RowKit

/-- the depth is the least of those that hold them -/
theorem dep_spec (n : Nat) (hn : n ≤ 65536) : n ≤ 2 ^ dep n ∧ ∀ j, j < dep n → 2 ^ j < n := by
  unfold dep
  by_cases h : n ≤ 1
  · have e : max n 1 - 1 = 0 := by omega
    rw [e, show Lib.bitLen 0 = 0 from rfl]
    exact ⟨by simpa using h, fun j hj => by omega⟩
  · obtain ⟨x, hx⟩ : ∃ x, n = x + 1 := ⟨n - 1, by omega⟩
    have e : max n 1 - 1 = x := by omega
    rw [e]
    obtain ⟨g1, g2, g3⟩ := Lib.bitLenAux_bounds 64 x (by omega) (by omega)
    have g1 : 1 ≤ Lib.bitLen x := g1
    have g2 : 2 ^ (Lib.bitLen x - 1) ≤ x := g2
    have g3 : x < 2 ^ Lib.bitLen x := g3
    refine ⟨by omega, fun j hj => ?_⟩
    have : 2 ^ j ≤ 2 ^ (Lib.bitLen x - 1) := Nat.pow_le_pow_right (by decide) (by omega)
    omega
theorem dep_le (n : Nat) (hn : n ≤ 65536) : dep n ≤ 16 := by
  rcases Nat.lt_or_ge 16 (dep n) with h | h
  · have := (dep_spec n hn).2 16 h
    omega
  · exact h
end Go.Proofs.YtblimejnjboedaaDoor
