/- The law's few: a list that is cut, in new memory. -/
import Derived.Test.YtjfhcckadibhgaaDoorAn
namespace Go.Proofs.YtjfhcckadibhgaaDoor
open Go.RowKit

def cutTo (L : List (List UInt8)) (k : Nat) : List (List UInt8) := (L.take k).map (·.take 60)
theorem cutTo_len (L : List (List UInt8)) (k : Nat) : (cutTo L k).length ≤ k ∧ (cutTo L k).length ≤ L.length := by rw [cutTo, List.length_map, List.length_take]; omega
theorem cutTo_short (L : List (List UInt8)) (k i : Nat) (h : i < (cutTo L k).length) : (cutTo L k)[i].length ≤ 60 := by
  simp only [cutTo, List.getElem_map, List.length_take]
  omega
theorem cut_text (X : (List UInt8)) : (∃ m : Nat, min (X.length : Int) 60 = (m : Int) ∧ m ≤ X.length ∧ (⟨X.toArray⟩ : ByteArray).extract 0 m = ⟨(X.take 60).toArray⟩) := by
  refine ⟨min X.length 60, by omega, by omega, ?_⟩
  rw [extract_list, List.drop_zero]
  congr 2
  by_cases h : X.length ≤ 60
  · rw [Nat.min_eq_left h, List.take_of_length_le (Nat.le_refl _), List.take_of_length_le h]
  · rw [Nat.min_eq_right (by omega)]
theorem cut_snoc (L : List (List UInt8)) (k : Nat) (X : (List UInt8)) (h : k < L.length) (hX : L[k] = X) : strC (cutTo L k) ++ [.string ⟨(X.take 60).toArray⟩] = strC (cutTo L (k + 1)) := by
  subst hX
  rw [cutTo, cutTo, List.take_succ_eq_append_getElem h, List.map_append, strC, strC, List.map_append]
  rfl
theorem few9_none (ao : Option Addr) (cap n : Nat) (w : World) :
    Calls Tryd.prog 8 #[.slice ao 0 cap, .int .i64 (n : Int)] w fun e w' => e = .returned (.slice none 0 0) ∧ w = w' := by
  go_enter Tryd.func8, Tryd.ntmps8
  go_wp2
  refine wp_loop_rounds 1 ?_
  rw [rounds_succ]
  go_wp2
  go_ret
  exact ⟨rfl, rfl⟩
set_option maxRecDepth 100000 in
set_option maxHeartbeats 1000000 in
theorem few9_some (b off cap n : Nat) (L : List (List UInt8)) (w : World) (hn : n ≤ 1000) (hL : L.length ≤ maxLen) (hl : ∀ i (h : i < L.length), L[i].length ≤ maxLen) (hb : b < w.heap.size)
    (hc : ∀ i (h : i < L.length), w.cell? ⟨b, off + i, none⟩ = some (.string ⟨L[i].toArray⟩)) :
    Calls Tryd.prog 8 #[.slice (some ⟨b, off, none⟩) L.length cap, .int .i64 (n : Int)] w fun e w' => ∃ v, e = .returned v ∧ w'.ownsRow w.heap.size 9 1 v (cutTo L n).length (strC (cutTo L n)) ∧ Below w.heap.size w w' := by
  obtain ⟨i0, hi, hz0, hz1, hz2⟩ := info_parts info_str
  unfold maxLen at hL
  have HC := Lib.hid hc
  have HL := Lib.hid hl
  clear hc hl
  go_enter Tryd.func8, Tryd.ntmps8
  go_wp2
  go_loopw [5, 6] (fun v i wr => ∃ k : Nat, k ≤ L.length ∧ k ≤ n ∧ i = .int .i64 (k : Int) ∧ wr.ownsRow w.heap.size 9 1 v k (strC (cutTo L k)) ∧ Below w.heap.size w wr)
    (fun _ i _ => L.length - (intOf i).toNat)
  case atStart => exact ⟨0, by omega, by omega, rfl, World.ownsRow_nil _ _ _ _, Below.refl _ _⟩
  case round =>
    obtain ⟨k, hk, hk20, rfl, hown, hbe⟩ := hrel
    have hz := hbe.size
    by_cases hlt : k < L.length ∧ k < n
    · obtain ⟨hlt1, hlt2⟩ := hlt
      have hlk := HL.out k hlt1
      unfold maxLen at hlk
      have hcell := (hbe.cell (p := ⟨b, off + k, none⟩) hb).trans (HC.out k hlt1)
      obtain ⟨X, hX⟩ : ∃ X, L[k] = X := ⟨_, rfl⟩
      have HO := Lib.hid (cut_snoc L k X hlt1 hX)
      rw [hX] at hlk hcell
      have HX := Lib.hid hX
      clear hX
      have k0 : (0 : Int) ≤ (k : Int) := by omega
      have k1 : (k : Int) < (L.length : Int) := by omega
      have k2 : (k : Int) < (n : Int) := by omega
      obtain ⟨m, hm1, hm2, hm3⟩ := cut_text X
      have m0 : (0 : Int) ≤ (m : Int) := by omega
      have m1 : (m : Int) ≤ (X.length : Int) := by omega
      have Hm3 := Lib.hid hm3
      clear hm3
      go_wp2
      have q1 : k + 1 ≤ maxLen := by unfold maxLen; omega
      have q2 : (k + 1) * 16 ≤ 140737488355328 := by omega
      have q3 : w.heap.size ≤ ((wr.alloc (Obj.cells #[Value.string ((⟨X.toArray⟩ : ByteArray).extract 0 m)] 9)).drew).heap.size := by simp; omega
      have q4 : ((wr.alloc (Obj.cells #[Value.string ((⟨X.toArray⟩ : ByteArray).extract 0 m)] 9)).drew).heap.size = wr.heap.size + 1 := by simp
      have Q1 := Lib.hid q1
      have Q2 := Lib.hid q2
      have Q3 := Lib.hid q3
      have Q4 := Lib.hid q4
      clear q1 q2 q3 q4
      go_region_law (refine step_append_lies _ (by rfl) (.tmp 18) (.tmp 30) 22 (by rfl) w.heap.size 9 i0 _ 1 16 Tryd.underlying22 hi hz0 hz1 hz2 rfl (by omega) u5 k _ (by rfl) ((hown.alloc _).drew) ⟨wr.heap.size, 0, none⟩ 1 1 [.string ((⟨X.toArray⟩ : ByteArray).extract 0 m)] (by rfl) (by rfl) (news_new wr _ _) (by simp [Value.oneCell']) (by omega) Q1.out Q2.out Q3.out (wr.heap.size + 1) Q4.out ?_; intro gg cp w1 hown1 hgrow hat hgl)
      all_goals
        rw [Hm3.out, HO.out] at hown1
        have hbe1 : Below w.heap.size w w1 := ((hbe.alloc hz _).drew).grown hgrow (by simp; omega) (fun k' e => (hown.lt k' e).1)
        clear hown hgrow hat
        go_wp2
        go_roundw
        case rel => exact ⟨k + 1, by omega, by omega, by go_num, hown1, hbe1⟩
        case measure => simp [intOf]; omega
    · have hfin : cutTo L n = cutTo L k := by
        by_cases h : k < n
        · have : k = L.length := by omega
          subst this
          rw [cutTo, cutTo, List.take_of_length_le (by omega), List.take_of_length_le (Nat.le_refl _)]
        · have : k = n := by omega
          rw [this]
      have hln : (cutTo L k).length = k := by rw [cutTo, List.length_map, List.length_take]; omega
      have HF := Lib.hid hfin
      have HN := Lib.hid hln
      clear hfin hln
      by_cases hlt1 : k < L.length
      · have hlt2 : ¬ (k : Int) < (n : Int) := fun h => hlt ⟨hlt1, by omega⟩
        clear hlt
        go_wp2
        go_ret
        exact ⟨u5, rfl, by rw [HF.out, HN.out]; exact hown, hbe⟩
      · clear hlt
        go_wp2
        go_ret
        exact ⟨u5, rfl, by rw [HF.out, HN.out]; exact hown, hbe⟩
/-- a list in new memory -/
def FewP (L : List (List UInt8)) (lo : Nat) (ao : Option Addr) (cp : Nat) (w : World) : Prop := (L = [] ∧ ao = none ∧ cp = 0) ∨ (L ≠ [] ∧ ∃ g cs, ao = some ⟨g, 0, none⟩ ∧ lo ≤ g ∧ w.heap[g]? = some (Obj.cells cs 9 (0, 0)) ∧ L.length ≤ cp ∧ ∀ i (h : i < L.length), cs[i]? = some (.string ⟨L[i].toArray⟩))
theorem FewP.strs {L : List (List UInt8)} {lo : Nat} {ao : Option Addr} {cp : Nat} {w : World} (h : FewP L lo ao cp w) : Strs ao L w := by
  rcases h with ⟨rfl, _⟩ | ⟨_, g, cs, rfl, _, h, _, hc⟩
  · exact .inl rfl
  · refine .inr ⟨g, 0, rfl, lit_lt h, fun i hi => ?_⟩
    rw [Nat.zero_add, lit_cell h]
    exact hc i hi
theorem FewP.below {L : List (List UInt8)} {lo : Nat} {ao : Option Addr} {cp : Nat} {w w' : World} (h : FewP L lo ao cp w) (hb : Below w.heap.size w w') : FewP L lo ao cp w' := by
  rcases h with h | ⟨h0, g, cs, e, h1, h2, h3, h4⟩
  · exact .inl h
  · exact .inr ⟨h0, g, cs, e, h1, (hb.block g (lit_lt h2)).trans h2, h3, h4⟩
theorem FewP.two {L : List (List UInt8)} {lo : Nat} {ao : Option Addr} {cp : Nat} {w : World} (h : FewP L lo ao cp w) : (L = [] ∧ ao = none ∧ cp = 0) ∨ (L ≠ [] ∧ Strs ao L w) := by
  rcases h with h | ⟨h0, h1⟩
  · exact .inl h
  · exact .inr ⟨h0, FewP.strs (lo := lo) (cp := cp) (.inr ⟨h0, h1⟩)⟩
theorem few9_any (ao : Option Addr) (cap n : Nat) (L : List (List UInt8)) (w : World) (hn : 1 ≤ n ∧ n ≤ 1000) (hL : L.length ≤ maxLen) (hl : ∀ i (h : i < L.length), L[i].length ≤ maxLen) (hs : Strs ao L w) :
    Calls Tryd.prog 8 #[.slice ao L.length cap, .int .i64 (n : Int)] w fun e w' => ∃ ao' cp, e = .returned (.slice ao' (cutTo L n).length cp) ∧ FewP (cutTo L n) w.heap.size ao' cp w' ∧ Below w.heap.size w w' := by
  by_cases hL0 : L = []
  · subst hL0
    exact (few9_none ao cap n w).mono fun e w' ⟨he, hw⟩ => ⟨none, 0, by rw [he]; simp [cutTo], .inl ⟨by simp [cutTo], rfl, rfl⟩, hw ▸ Below.refl _ _⟩
  rcases hs with rfl | ⟨b, off, rfl, hb, hc⟩
  · exact absurd rfl hL0
  · refine (few9_some b off cap n L w hn.2 hL hl hb hc).mono fun e w' ⟨v, he, ho, hB⟩ => ?_
    have hpos : 0 < (cutTo L n).length := by rw [cutTo, List.length_map, List.length_take]; have := List.length_pos_iff.2 hL0; omega
    obtain ⟨h1, ⟨rfl, h3⟩ | ⟨g, cp, cur, rfl, h3, h4, h5, h6, h7⟩⟩ := ho
    · omega
    · refine ⟨_, cp, he, .inr ⟨List.length_pos_iff.1 hpos, g, cur, rfl, h3, h4, h5, fun i hi => ?_⟩, hB⟩
      have e : (cur.toList.take ((cutTo L n).length * 1))[i]? = (strC (cutTo L n))[i]? := by rw [h7.2]
      rw [List.getElem?_take_of_lt (by omega), Array.getElem?_toList] at e
      rw [e]
      exact strC_get hi
end Go.Proofs.YtjfhcckadibhgaaDoor
