/- A row of the call's own, sorted; the depth. -/
import Derived.Test.YtcobflhnphikaaaHi
import Derived.Laws.AppendOwn
namespace Go.Proofs.Ytcobflhnphikaaa
open Go.RowKit Go.Sort

theorem ins_nil (w : World) : Calls Try.prog 43 #[.slice none 0 0, .int .i64 0, .int .i64 ((0 : Nat) : Int)] w fun e w' => e = .returned (.tuple #[]) ∧ w = w' := by
  go_enter Try.func43, Try.ntmps43
  go_wp2
  refine wp_loop_rounds 1 ?_
  rw [rounds_succ]
  go_wp2
  go_end0
  exact ⟨rfl, rfl⟩
theorem holds_row {w : World} {g cap : Nat} {cur : Array Value} {e : TypeId} {X : List Nat} (hb : w.heap[g]? = some (.cells cur e (0, 0))) (ht : cur.toList.take X.length = X.map encU) (_hc : X.length ≤ cap) : Holds encU w g 0 X.toArray := by
  intro j hj
  have hj' : j < X.length := by simpa using hj
  refine ⟨?_, by simp [World.frozen?, hb]⟩
  have h1 : (cur.toList.take X.length)[j]? = (X.map encU)[j]? := by rw [ht]
  rw [List.getElem?_take_of_lt hj', Array.getElem?_toList] at h1
  simp only [World.cell?, hb, Nat.zero_add]
  simp only [Option.isSome_none, Bool.false_eq_true, if_false]
  rw [h1]
  simp [hj']
theorem sort_row (base : Nat) (v : Value) (n : Nat) (X : List Nat) (w : World) (ho : w.ownsRow base 22 1 v n (X.map encU)) (hn : n ≤ 12) (hX : X.Nodup) :
    Calls Try.prog 40 #[v] w fun e w' => e = .returned (.tuple #[]) ∧ w.grownBy w' v.ownBlock ∧ ∃ N : List Nat, N.Pairwise (· < ·) ∧ (∀ x, x ∈ N ↔ x ∈ X) ∧ w'.ownsRow base 22 1 v n (N.map encU) := by
  have hlen : X.length = n := by simpa using ho.1
  rcases ho.2 with ⟨rfl, hn0⟩ | ⟨g, cap0, cur, rfl, hbase, hb, h1, h2, h3, h4⟩
  · have hX0 : X = [] := List.length_eq_zero_iff.1 (by omega)
    subst hX0
    subst hn0
    refine (sort_of none 0 0 (by omega) w (fun _ w' => w = w') (ins_nil w)).mono ?_
    rintro e w' ⟨rfl, rfl⟩
    exact ⟨rfl, ⟨rfl, rfl, rfl, Nat.le_refl _, fun _ _ _ => rfl⟩, [], by simp, by simp, ho⟩
  · have hH : Holds encU w g 0 X.toArray := holds_row hb (by rw [hlen]; simpa using h4) (hlen ▸ h1)
    have hI := ins_any g 0 cap0 X.toArray w hH (by simp; omega)
    simp only [List.size_toArray, hlen] at hI
    refine (sort_of _ n cap0 hn w (fun _ w' => ∃ dk, Ord w g 0 X.toArray dk w' ∧ Up dk n) hI).mono ?_
    rintro e w' ⟨rfl, dk, hO, hU⟩
    have hsz : dk.size = n := by rw [hO.size]; simpa using hlen
    obtain ⟨m, hw⟩ := hO.w
    have hp : dk.toList.Perm X := by simpa using permIn_list hO.p
    have hsorted : dk.toList.Pairwise (· ≤ ·) := Up.pairwise (by rw [hsz]; exact hU)
    have hnd : dk.toList.Nodup := hp.nodup_iff.2 hX
    have hb' : w'.heap[g]? = some (.cells (putCells encU 0 dk cur) 22 (0, 0)) := by
      rw [hw]
      simp [putRow, mapBlock, Sort.ahead, Array.getElem?_modify, hb, onCells]
    refine ⟨rfl, ?_, dk.toList, ?_, fun x => hp.mem_iff, ?_⟩
    · rw [hw]
      refine ⟨rfl, rfl, rfl, by simp, fun k hk hne => ?_⟩
      have : g ≠ k := fun e => hne (by rw [e]; rfl)
      simp [putRow, mapBlock, Sort.ahead, Array.getElem?_modify, this]
    · refine (hsorted.and hnd).imp fun h => ?_
      have := h.1
      have := h.2
      omega
    · refine ⟨by simp [hsz], .inr ⟨g, cap0, _, rfl, hbase, hb', h1, h2, by simp [putCells, h3], ?_⟩⟩
      apply List.ext_getElem?
      intro j
      by_cases hj : j < n
      · rw [Nat.mul_one, List.getElem?_take_of_lt hj, Array.getElem?_toList]
        simp [putCells, hsz, hj, show j < cur.size by omega]
      · rw [Nat.mul_one, List.getElem?_take_eq_none (by omega), List.getElem?_eq_none (by simp; omega)]
end Go.Proofs.Ytcobflhnphikaaa
