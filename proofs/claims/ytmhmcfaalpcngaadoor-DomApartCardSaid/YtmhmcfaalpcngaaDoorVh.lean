/- A frame is taken apart into its tag and its parts. -/
import Derived.Test.YtmhmcfaalpcngaaDoorVf
namespace Go.Proofs.YtmhmcfaalpcngaaDoor
open Go.RowKit

/-- what is left of the parts' bytes -/
def restL (TS : List (List UInt8)) (k : Nat) : List UInt8 := (TS.drop k).flatMap partL
theorem restL_step (TS : List (List UInt8)) (k : Nat) (h : k < TS.length) : restL TS k = numL TS[k].length ++ (TS[k] ++ restL TS (k + 1)) := by
  rw [restL, List.drop_eq_getElem_cons h, List.flatMap_cons, partL, List.append_assoc]; rfl
theorem restL_end (TS : List (List UInt8)) (k : Nat) (h : TS.length ≤ k) : restL TS k = [] := by
  rw [restL, List.drop_of_length_le h]; rfl
theorem restL_le (TS : List (List UInt8)) (k : Nat) : (restL TS k).length ≤ (restL TS 0).length := by
  have e : restL TS 0 = (TS.take k).flatMap partL ++ restL TS k := by
    rw [restL, restL, List.drop_zero, ← List.flatMap_append, List.take_append_drop]
  rw [e, List.length_append]; omega

theorem cut3 (N X R : List UInt8) (hN : N.length = 8) : (⟨(N ++ (X ++ R)).toArray⟩ : ByteArray).extract 0 8 = ⟨N.toArray⟩ ∧ (⟨(N ++ (X ++ R)).toArray⟩ : ByteArray).extract 8 (8 + X.length) = ⟨X.toArray⟩ ∧
    (⟨(N ++ (X ++ R)).toArray⟩ : ByteArray).extract (8 + X.length) (N ++ (X ++ R)).length = ⟨R.toArray⟩ := by
  refine ⟨?_, ?_, ?_⟩
  · rw [extract_list, List.drop_zero, List.take_left' hN]
  · rw [extract_list, ← List.append_assoc, List.take_left' (by rw [List.length_append]; omega), List.drop_left' hN]
  · rw [extract_list, List.take_length, ← List.append_assoc, List.drop_left' (by rw [List.length_append]; omega)]
theorem cutF (c : UInt8) (tag R : List UInt8) : (⟨(c :: (tag ++ R)).toArray⟩ : ByteArray).extract 1 (1 + tag.length) = ⟨tag.toArray⟩ ∧ (⟨(c :: (tag ++ R)).toArray⟩ : ByteArray).extract (1 + tag.length) (c :: (tag ++ R)).length = ⟨R.toArray⟩ := by
  refine ⟨?_, ?_⟩
  · rw [extract_list, Nat.add_comm 1, List.take_succ_cons, List.drop_succ_cons, List.drop_zero, List.take_left' rfl]
  · rw [extract_list, List.take_length, Nat.add_comm 1, List.drop_succ_cons, List.drop_left' rfl]

set_option maxRecDepth 100000 in
set_option maxHeartbeats 2000000 in
theorem taken_any (tag : List UInt8) (TS : List (List UInt8)) (w : World) (h1 : 1 ≤ tag.length) (h16 : tag.length ≤ 16) (h8 : TS.length ≤ 8) (hlen : (framed tag TS).length ≤ 2000) :
    Calls Tryd.prog 15 #[.string ⟨(framed tag TS).toArray⟩] w fun e w' => ∃ ao cp, e = .returned (.tuple #[.string ⟨tag.toArray⟩, .slice ao TS.length cp, .bool true]) ∧ Strs ao TS w' ∧ Below w.heap.size w w' := by
  obtain ⟨i0, hi, hz0, hz1, hz2⟩ := info_parts Tryd.info9
  obtain ⟨F, hF⟩ : ∃ F, framed tag TS = F := ⟨_, rfl⟩
  have hFe : F = UInt8.ofNat tag.length :: (tag ++ restL TS 0) := by rw [← hF, framed, restL, List.drop_zero]
  have hFl : F.length = 1 + tag.length + (restL TS 0).length := by rw [hFe]; simp; omega
  rw [hF] at hlen ⊢
  obtain ⟨x1, x2⟩ := cutF (UInt8.ofNat tag.length) tag (restL TS 0)
  rw [← hFe] at x1 x2
  have hx : ∀ w, (Instr.index 9 (.string ⟨F.toArray⟩) (.int .i64 0)).run Tryd.prog w = .ok (.int .u8 (tag.length : Int)) w := by
    intro w
    rw [run_index_string w 9 _ _ _ Tryd.underlying9, dif_pos ⟨by omega, by show (0 : Int) < (F.length : Int); omega⟩]
    have e : F[0]? = some (UInt8.ofNat tag.length) := by rw [hFe]; rfl
    have e2 : (F[0]'(by omega)).toNat = tag.length := by
      rw [List.getElem?_eq_getElem (by omega), Option.some.injEq] at e
      rw [e, UInt8.toNat_ofNat']; omega
    exact congrArg (fun y : Nat => Result.ok (Value.int .u8 (y : Int)) w) e2
  have hne : F.isEmpty = false := by rw [hFe]; rfl
  have a1 : IntKind.i64.wrap (1 + (tag.length : Int)) = 1 + (tag.length : Int) := IntWalk.i64_in _ (by omega)
  have a2 : (1 + (tag.length : Int)).toNat = 1 + tag.length := by omega
  have a3 : 1 + (tag.length : Int) ≤ (F.length : Int) := by omega
  have X1 := Lib.hid x1
  have X2 := Lib.hid x2
  have hR0 : (restL TS 0).length ≤ 2000 := by omega
  clear hF hFe x1 x2 hFl
  go_enter Tryd.func15, Tryd.ntmps15
  go_wp2
  clear hx hne a1 a2 a3
  go_loopw [0, 6, 7] (fun s v _ wr => ∃ k : Nat, ∃ R : List UInt8, k ≤ TS.length ∧ s = .string ⟨R.toArray⟩ ∧ Hid (restL TS k = R) ∧ wr.ownsRow w.heap.size 9 1 v k (strCells (TS.take k)) ∧ Below w.heap.size w wr)
    (fun s _ _ _ => strLen s)
  case atStart => exact ⟨0, _, by omega, congrArg Value.string X2.out, Lib.hid rfl, World.ownsRow_nil _ _ _ _, Below.refl _ _⟩
  case round =>
    obtain ⟨k, R, hk, rfl, HR, hown, hb⟩ := hrel
    have hRl := restL_le TS k
    rw [HR.out] at hRl
    have hz := hb.size
    by_cases hlt : k < TS.length
    · have hst := restL_step TS k hlt
      obtain ⟨X, hX⟩ : ∃ X, TS[k] = X := ⟨_, rfl⟩
      obtain ⟨R', hR'⟩ : ∃ R', restL TS (k + 1) = R' := ⟨_, rfl⟩
      rw [hX, hR', HR.out] at hst
      have HR2 := Lib.hid hR'
      have HO := Lib.hid (show strCells (TS.take k) ++ [.string ⟨X.toArray⟩] = strCells (TS.take (k + 1)) by
        rw [List.take_succ_eq_append_getElem hlt, hX, strCells, strCells, List.map_append]; rfl)
      obtain ⟨x1, x2, x3⟩ := cut3 (numL X.length) X R' (numL_length _)
      rw [← hst] at x1 x2 x3
      have hl2 : R.length = 8 + (X.length + R'.length) := by rw [hst, List.length_append, numL_length, List.length_append]
      have hne : R.isEmpty = false := by cases R with | nil => exfalso; rw [List.length_nil] at hl2; omega | cons _ _ => rfl
      clear hX hR' hst
      have a0 : (8 : Int) ≤ (R.length : Int) := by omega
      have a1 : IntKind.i64.wrap (8 + (X.length : Int)) = 8 + (X.length : Int) := IntWalk.i64_in _ (by omega)
      have a2 : (8 + (X.length : Int)).toNat = 8 + X.length := by omega
      have a3 : 8 + (X.length : Int) ≤ (R.length : Int) := by omega
      have a4 : (8 : Int) ≤ 8 + (X.length : Int) := by omega
      have a5 : (0 : Int) ≤ 8 + (X.length : Int) := by omega
      have hN : numberL (numL X.length) = X.length := numberL_numL _ (by omega)
      have a6 : ¬ ((R.length : Int) < 8) := by omega
      have a7 : ¬ ((X.length : Int) > (R.length : Int) - 8) := by omega
      have a8 : (0 : Int) ≤ (R.length : Int) - 8 := by omega
      have HL2 := Lib.hid hl2
      clear hl2
      go_wp2_with fail
      refine (number_any (numL X.length) wr (by rw [numL_length]; omega)).mono ?_
      rintro e w1 ⟨rfl, rfl⟩
      rw [hN]
      go_wp2_with fail
      refine (number_any (numL X.length) wr (by rw [numL_length]; omega)).mono ?_
      rintro e w1 ⟨rfl, rfl⟩
      rw [hN]
      have q1 : k + 1 ≤ maxLen := by unfold maxLen; omega
      have q2 : (k + 1) * 16 ≤ 140737488355328 := by omega
      have Q1 := Lib.hid q1
      have Q2 := Lib.hid q2
      clear q1 q2
      go_wp2_with (at_builtin; refine wpList_append_own _ rfl (.tmp 62) (.tmp 67) 22 rfl w.heap.size 9 i0 (.string ⟨#[]⟩) 1 16 Tryd.underlying22 hi hz0 hz1 hz2 rfl (by decide) u6 k _ rfl (hown.alloc _) ⟨wr.heap.size, 0, none⟩ 1 1 [.string ⟨X.toArray⟩] rfl rfl (news_new wr _ _) (by simp [Value.oneCell']) Q1.out Q2.out (by simp; omega) ?_)
      intro v' w1 hown1 hgrow _
      rw [HO.out] at hown1
      have hb1 : Below w.heap.size w w1 := (hb.alloc hz _).grown hgrow (by simp; omega) (fun k' e => (hown.lt k' e).1)
      clear hown hgrow
      go_wp2
      go_roundw
      case rel => exact ⟨k + 1, R', by omega, rfl, HR2, hown1, hb1⟩
      case measure =>
        show R'.length < R.length
        have := HL2.out
        omega
    · have ek : k = TS.length := by omega
      have hR : R = [] := by rw [← HR.out]; exact restL_end TS k (by omega)
      subst hR
      have htk : TS.take k = TS := by rw [ek, List.take_length]
      rw [htk] at hown
      obtain ⟨ao, cp, hv, hst⟩ := strs_of_owns hown ek.symm
      subst hv
      clear htk
      have HE := Lib.hid ek
      clear ek
      go_wp2
      go_ret3
      exact ⟨ao, cp, by rw [X1.out, HE.out]; rfl, hst, hb⟩
end Go.Proofs.YtmhmcfaalpcngaaDoor
