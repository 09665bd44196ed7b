/- The law's cut; is and fails. -/
import Derived.Test.YtblimejnjboedaaDoorJ23
import Derived.Test.YtblimejnjboedaaDoorJ19
import Derived.Laws.AppendOwnNone
import Derived.Deep.AppendLies
namespace Go.Proofs.YtblimejnjboedaaDoor
open Go.RowKit Go.Sort

theorem FewP.cap {L : List (List UInt8)} {lo : Nat} {ao : Option Addr} {cp : Nat} {w : World} (h : FewP L lo ao cp w) : L.length ≤ cp := by
  rcases h with ⟨rfl, _, rfl⟩ | ⟨_, _, _, _, _, _, h, _⟩
  · exact Nat.le_refl _
  · exact h
theorem cut11_none (ao : Option Addr) (cap n : Nat) (w : World) :
    Calls Tryd.prog 6 #[.slice ao 0 cap, .int .i64 (n : Int)] w fun e w' => e = .returned (.slice none 0 0) ∧ w = w' := by
  go_enter Tryd.func6, Tryd.ntmps6
  go_wp2
  refine wp_loop_rounds 1 ?_
  rw [rounds_succ]
  go_wp2
  go_ret
  exact ⟨rfl, rfl⟩
set_option maxRecDepth 100000 in
set_option maxHeartbeats 1000000 in
theorem cut11_some (b off cap n : Nat) (hn : n ≤ 1000) (L : List (List UInt8)) (w : World) (hL : L.length ≤ maxLen) (hl : ∀ i (h : i < L.length), L[i].length ≤ maxLen) (hb : b < w.heap.size)
    (hc : ∀ i (h : i < L.length), w.cell? ⟨b, off + i, none⟩ = some (.string ⟨L[i].toArray⟩)) :
    Calls Tryd.prog 6 #[.slice (some ⟨b, off, none⟩) L.length cap, .int .i64 (n : Int)] w fun e w' => ∃ v, e = .returned v ∧ w'.ownsRow w.heap.size 9 1 v (cutBy L n 60).length (strC (cutBy L n 60)) ∧ Below w.heap.size w w' := by
  obtain ⟨i0, hi, hz0, hz1, hz2⟩ := info_parts info_str
  unfold maxLen at hL
  have HC := Lib.hid hc
  have HL := Lib.hid hl
  clear hc hl
  go_enter Tryd.func6, Tryd.ntmps6
  go_wp2
  go_loopw [5, 6] (fun v i wr => ∃ k : Nat, k ≤ L.length ∧ k ≤ n ∧ i = .int .i64 (k : Int) ∧ wr.ownsRow w.heap.size 9 1 v k (strC (cutBy L k 60)) ∧ Below w.heap.size w wr)
    (fun _ i _ => L.length - (intOf i).toNat)
  case atStart => exact ⟨0, by omega, by omega, rfl, World.ownsRow_nil _ _ _ _, Below.refl _ _⟩
  case round =>
    obtain ⟨k, hk, hk20, rfl, hown, hbe⟩ := hrel
    have hz := hbe.size
    by_cases hlt : k < L.length ∧ k < n
    · obtain ⟨hlt1, hlt2⟩ := hlt
      have hlk := HL.out k hlt1
      unfold maxLen at hlk
      have hcell := (hbe.cell (p := ⟨b, off + k, none⟩) hb).trans (HC.out k hlt1)
      obtain ⟨X, hX⟩ : ∃ X, L[k] = X := ⟨_, rfl⟩
      have HO := Lib.hid (cutBy_snoc L k 60 X hlt1 hX)
      rw [hX] at hlk hcell
      have HX := Lib.hid hX
      clear hX
      have k0 : (0 : Int) ≤ (k : Int) := by omega
      have k1 : (k : Int) < (L.length : Int) := by omega
      have k2 : (k : Int) < (n : Int) := by omega
      obtain ⟨m, hm1, hm2, hm3⟩ := extract_take X 60
      rw [show ((60 : Nat) : Int) = 60 from rfl] at hm1
      have m0 : (0 : Int) ≤ (m : Int) := by omega
      have m1 : (m : Int) ≤ (X.length : Int) := by omega
      have Hm3 := Lib.hid hm3
      clear hm3
      go_wp2
      have q1 : k + 1 ≤ maxLen := by unfold maxLen; omega
      have q2 : (k + 1) * 16 ≤ 140737488355328 := by omega
      have q3 : w.heap.size ≤ ((wr.alloc (Obj.cells #[Value.string ((⟨X.toArray⟩ : ByteArray).extract 0 m)] 9)).drew).heap.size := by simp; omega
      have q4 : ((wr.alloc (Obj.cells #[Value.string ((⟨X.toArray⟩ : ByteArray).extract 0 m)] 9)).drew).heap.size = wr.heap.size + 1 := by simp
      have Q1 := Lib.hid q1
      have Q2 := Lib.hid q2
      have Q3 := Lib.hid q3
      have Q4 := Lib.hid q4
      clear q1 q2 q3 q4
      go_region_law (refine step_append_lies _ (by rfl) (.tmp 18) (.tmp 30) 23 (by rfl) w.heap.size 9 i0 _ 1 16 Tryd.underlying23 hi hz0 hz1 hz2 rfl (by omega) u5 k _ (by rfl) ((hown.alloc _).drew) ⟨wr.heap.size, 0, none⟩ 1 1 [.string ((⟨X.toArray⟩ : ByteArray).extract 0 m)] (by rfl) (by rfl) (news_new wr _ _) (by simp [Value.oneCell']) (by omega) Q1.out Q2.out Q3.out (wr.heap.size + 1) Q4.out ?_; intro gg cp w1 hown1 hgrow hat hgl)
      all_goals
        rw [Hm3.out, HO.out] at hown1
        have hbe1 : Below w.heap.size w w1 := ((hbe.alloc hz _).drew).grown hgrow (by simp; omega) (fun k' e => (hown.lt k' e).1)
        clear hown hgrow hat
        go_wp2
        go_roundw
        case rel => exact ⟨k + 1, by omega, by omega, by go_num, hown1, hbe1⟩
        case measure => simp [intOf]; omega
    · have hfin : cutBy L n 60 = cutBy L k 60 := by
        by_cases h : k < n
        · have : k = L.length := by omega
          subst this
          rw [cutBy, cutBy, List.take_of_length_le (by omega), List.take_of_length_le (Nat.le_refl _)]
        · have : k = n := by omega
          rw [this]
      have hln : (cutBy L k 60).length = k := by rw [cutBy, List.length_map, List.length_take]; omega
      have HF := Lib.hid hfin
      have HN := Lib.hid hln
      clear hfin hln
      by_cases hlt1 : k < L.length
      · have hlt2 : ¬ (k : Int) < (n : Int) := fun h => hlt ⟨hlt1, by omega⟩
        clear hlt
        go_wp2
        go_ret
        exact ⟨u5, rfl, by rw [HF.out, HN.out]; exact hown, hbe⟩
      · clear hlt
        go_wp2
        go_ret
        exact ⟨u5, rfl, by rw [HF.out, HN.out]; exact hown, hbe⟩
theorem cut11_any (ao : Option Addr) (cap n : Nat) (hn : 0 < n ∧ n ≤ 1000) (L : List (List UInt8)) (w : World) (hL : L.length ≤ maxLen) (hl : ∀ i (h : i < L.length), L[i].length ≤ maxLen) (hs : Strs ao L w) :
    Calls Tryd.prog 6 #[.slice ao L.length cap, .int .i64 (n : Int)] w fun e w' => ∃ ao' cp, e = .returned (.slice ao' (cutBy L n 60).length cp) ∧ FewP (cutBy L n 60) w.heap.size ao' cp w' ∧ Below w.heap.size w w' := by
  by_cases hL0 : L = []
  · subst hL0
    exact (cut11_none ao cap n w).mono fun e w' ⟨he, hw⟩ => ⟨none, 0, by rw [he]; simp [cutBy], .inl ⟨by simp [cutBy], rfl, rfl⟩, hw ▸ Below.refl _ _⟩
  rcases hs with rfl | ⟨b, off, rfl, hb, hc⟩
  · exact absurd rfl hL0
  · refine (cut11_some b off cap n hn.2 L w hL hl hb hc).mono fun e w' ⟨v, he, ho, hB⟩ => ?_
    have hne : cutBy L n 60 ≠ [] := fun e => by
      have := congrArg List.length e
      rw [cutBy, List.length_map, List.length_take, List.length_nil] at this
      have := List.length_pos_iff.2 hL0
      omega
    obtain ⟨ao', cp, rfl, h⟩ := few_of_row ho hne
    exact ⟨ao', cp, he, h, hB⟩
theorem is_any (want : (List UInt8)) (n : Int) (hn : -9223372036854775808 ≤ n ∧ n ≤ 9223372036854775807) (P : List Nat) (E R : List (List UInt8)) (ao bo po : Option Addr) (ca cb cp : Nat) (w : World) (hg : Glob w) (hP : Nums ao P w) (hE : Strs bo E w) (hR : Strs po R w) (hpn : P.length ≤ 1000) (hen : E.length ≤ 100000) (hcp : R.length ≤ cp) (hrn : R.length ≤ 100000) (he : ∀ i (h : i < E.length), E[i].length ≤ 10000000) (hr : ∀ i (h : i < R.length), R[i].length ≤ 1000000000) :
    Calls Tryd.prog 11 #[.string ⟨want.toArray⟩, .int .i64 n, .slice ao P.length ca, .slice bo E.length cb, .slice po R.length cp] w fun e w' => e = .returned (.bool (decide (rootV n P E R = (want, 0)))) ∧ Below w.heap.size w w' := by
  have HC := Lib.hid (oroot_any n hn P E R ao bo po ca cb cp w hg hP hE hR hpn hen hcp hrn he hr)
  generalize rootV n P E R = V at *
  obtain ⟨Z, z⟩ := V
  simp only at HC
  have HV := Lib.hid (show ∀ b : Bool, (b = true ↔ Z = want ∧ z = 0) → decide ((Z, z) = (want, (0 : Int))) = b from fun b h => by
    rw [Bool.eq_iff_iff, h, decide_eq_true_eq]
    simp)
  generalize decide ((Z, z) = (want, (0 : Int))) = c at *
  clear hg hP hE hR hen hcp hrn he hr
  by_cases hz : z = 0
  · have hzb : (z == 0) = true := by simp [hz]
    by_cases hr : Z = want
    · have hrb : (Z == want) = true := by simp [hr]
      have HE := Lib.hid (show c = true from HV.out true (by simp [hz, hr]))
      clear hz hr
      go_enter Tryd.func11, Tryd.ntmps11
      go_wp2_with (go_at_call 5; refine HC.out.mono ?_; rintro e w1 ⟨rfl, hb1⟩)
      go_ret
      exact ⟨by rw [HE.out]; rfl, hb1⟩
    · have hrb : (Z == want) = false := by simp [hr]
      have HE := Lib.hid (show c = false from HV.out false (by simp [hr]))
      clear hz hr
      go_enter Tryd.func11, Tryd.ntmps11
      go_wp2_with (go_at_call 5; refine HC.out.mono ?_; rintro e w1 ⟨rfl, hb1⟩)
      go_ret
      exact ⟨by rw [HE.out]; rfl, hb1⟩
  · have hzb : (z == 0) = false := by simp [hz]
    have HE := Lib.hid (show c = false from HV.out false (by simp [hz]))
    clear hz
    go_enter Tryd.func11, Tryd.ntmps11
    go_wp2_with (go_at_call 5; refine HC.out.mono ?_; rintro e w1 ⟨rfl, hb1⟩)
    go_ret
    exact ⟨by rw [HE.out]; rfl, hb1⟩
theorem fails_any (want : Int) (n : Int) (hn : -9223372036854775808 ≤ n ∧ n ≤ 9223372036854775807) (P : List Nat) (E R : List (List UInt8)) (ao bo po : Option Addr) (ca cb cp : Nat) (w : World) (hg : Glob w) (hP : Nums ao P w) (hE : Strs bo E w) (hR : Strs po R w) (hpn : P.length ≤ 1000) (hen : E.length ≤ 100000) (hcp : R.length ≤ cp) (hrn : R.length ≤ 100000) (he : ∀ i (h : i < E.length), E[i].length ≤ 10000000) (hr : ∀ i (h : i < R.length), R[i].length ≤ 1000000000) (hw : rootV n P E R = ([], want)) :
    Calls Tryd.prog 10 #[.int .i64 want, .int .i64 n, .slice ao P.length ca, .slice bo E.length cb, .slice po R.length cp] w fun e w' => e = .returned (.bool true) ∧ Below w.heap.size w w' := by
  have HC := Lib.hid (oroot_any n hn P E R ao bo po ca cb cp w hg hP hE hR hpn hen hcp hrn he hr)
  rw [hw] at HC
  clear hg hP hE hR hen hcp hrn he hr hw
  go_enter Tryd.func10, Tryd.ntmps10
  go_wp2_with (go_at_call 5; refine HC.out.mono ?_; rintro e w1 ⟨rfl, hb1⟩)
  go_ret
  exact ⟨rfl, hb1⟩
end Go.Proofs.YtblimejnjboedaaDoor
