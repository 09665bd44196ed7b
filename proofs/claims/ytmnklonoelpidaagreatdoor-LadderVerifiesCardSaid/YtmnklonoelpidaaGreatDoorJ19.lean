/- A row of the call's own, of up to a thousand numbers, sorted. -/
import Derived.Test.YtmnklonoelpidaaGreatDoorJ18
namespace Go.Proofs.YtmnklonoelpidaaGreatDoor
open Go.RowKit Go.Sort

theorem blen_le (n : Nat) (hn : n ≤ 1000) : Lib.bitLen n ≤ 100 := by
  rcases Nat.eq_zero_or_pos n with rfl | h
  · decide
  · obtain ⟨g1, g2, g3⟩ := Lib.bitLenAux_bounds 64 n (by omega) (by omega)
    have g2 : 2 ^ (Lib.bitLen n - 1) ≤ n := g2
    rcases Nat.lt_or_ge 100 (Lib.bitLen n) with c | c
    · have : 2 ^ 10 ≤ 2 ^ (Lib.bitLen n - 1) := Nat.pow_le_pow_right (by decide) (by omega)
      omega
    · exact c
set_option maxRecDepth 100000 in
theorem sortr_any (w0 : World) (b n cap : Nat) (c0 : Array Value) (hn : n ≤ 1000) (d : Array Nat) (w : World) (hR : Rw w0 b c0 n d w) :
    Calls Tryz.prog 182 #[.slice (some ⟨b, 0, none⟩) n cap] w fun e w' => ∃ e' : Array Nat, e = .returned (.tuple #[]) ∧ PermIn 0 n d e' ∧ Srt 0 n e' ∧ Rw w0 b c0 n e' w' := by
  have HP := Lib.hid (show Calls Tryz.prog 185 #[.slice (some ⟨b, 0, none⟩) n cap, .int .i64 0, .int .i64 (n : Int), .int .i64 (Lib.bitLen n : Int)] w _ from pdq_any w0 b n cap c0 (by omega) n d 0 n (Lib.bitLen n) w (Nat.le_refl _) (Nat.zero_le _) (Nat.le_refl _) (blen_le n hn) (.inl rfl) hR)
  have HL := Lib.hid (ylen_any n (by omega) w)
  have h49 : (n : Int) ≤ 1000 := by omega
  generalize Lib.bitLen n = k at *
  clear hR
  go_enter Tryz.func182, Tryz.ntmps182
  go_wp2_with (first | (go_at_call 131; refine HL.out.mono ?_; rintro e w' ⟨rfl, rfl⟩) | (go_at_call 185; refine HP.out.mono ?_; rintro e w' ⟨e', rfl, hp, hs, hr⟩))
  go_end0
  exact ⟨e', rfl, hp, hs, hr⟩
theorem put_same {X : List Nat} {cur : Array Value} (h : cur.toList.take X.length = X.map encU) : putCells encU 0 X.toArray cur = cur := by
  apply Array.ext
  · simp [putCells]
  · intro t h1 h2
    simp only [putCells, Array.getElem_mapIdx, Nat.zero_le, true_and, Nat.zero_add, Nat.sub_zero, List.size_toArray]
    by_cases c : t < X.length
    · rw [if_pos c]
      have e : (cur.toList.take X.length)[t]? = (X.map encU)[t]? := by rw [h]
      rw [List.getElem?_take_of_lt c, Array.getElem?_toList, Array.getElem?_eq_getElem h2, List.getElem?_map, List.getElem?_eq_getElem c] at e
      simp only [Option.map_some, Option.some.injEq] at e
      rw [e]
      simp [c]
    · rw [if_neg c]
theorem sort_row49 (base : Nat) (v : Value) (n : Nat) (X : List Nat) (w : World) (ho : w.ownsRow base 22 1 v n (X.map encU)) (hn : n ≤ 1000) (hX : X.Nodup) :
    Calls Tryz.prog 182 #[v] w fun e w' => e = .returned (.tuple #[]) ∧ w.grownBy w' v.ownBlock ∧ ∃ N : List Nat, N.Pairwise (· < ·) ∧ (∀ x, x ∈ N ↔ x ∈ X) ∧ w'.ownsRow base 22 1 v n (N.map encU) := by
  by_cases h12 : n ≤ 12
  · exact sort_row base v n X w ho h12 hX
  have hlen : X.length = n := by simpa using ho.1
  rcases ho.2 with ⟨rfl, hn0⟩ | ⟨g, cap0, cur, rfl, hbase, hb, h1, h2, h3, h4⟩
  · omega
  · have h4' : cur.toList.take X.length = X.map encU := by rw [hlen]; simpa using h4
    have hcs : n ≤ cur.size := by
      have := congrArg List.length h4'
      simp at this
      omega
    have hR : Rw w g cur n X.toArray w := ⟨by simpa using hlen, hcs, by rw [put_same h4']; exact hb, ⟨rfl, rfl, rfl, Nat.le_refl _, fun _ _ _ => rfl⟩, (Array.getElem?_eq_some_iff.1 hb).1⟩
    refine (sortr_any w g n cap0 cur hn X.toArray w hR).mono ?_
    rintro e w' ⟨e', rfl, hp, hs, hr⟩
    have hsz := hr.size
    have hp' : e'.toList.Perm X := by
      have hpp : PermIn 0 X.toArray.size X.toArray e' := by rw [show X.toArray.size = n by simpa using hlen]; exact hp
      simpa using permIn_list hpp
    have hsorted : e'.toList.Pairwise (· ≤ ·) := Up.pairwise (by rw [hsz]; exact fun p q a b => hs p q (Nat.zero_le _) a b)
    have hnd : e'.toList.Nodup := hp'.nodup_iff.2 hX
    refine ⟨rfl, hr.kept, e'.toList, ?_, fun x => hp'.mem_iff, ?_⟩
    · refine (hsorted.and hnd).imp fun h => ?_
      have := h.1
      have := h.2
      omega
    · refine ⟨by simp [hsz], .inr ⟨g, cap0, _, rfl, hbase, hr.blk, h1, h2, by simp [putCells, h3], ?_⟩⟩
      apply List.ext_getElem?
      intro j
      by_cases hj : j < n
      · rw [Nat.mul_one, List.getElem?_take_of_lt hj, Array.getElem?_toList]
        simp [putCells, hsz, hj, show j < cur.size by omega]
      · rw [Nat.mul_one, List.getElem?_take_eq_none (by omega), List.getElem?_eq_none (by simp; omega)]
end Go.Proofs.YtmnklonoelpidaaGreatDoor
