/- The text of a thing; things of the five sorts. -/
import Derived.Test.YtgdlfbphfogphaaDoorPc
import Derived.Below
namespace Go.Proofs.YtgdlfbphfogphaaDoor
open Go.RowKit

theorem Tryd.info5 : (Tryd.prog.info? 5).map (fun i => (i.zero, i.size, i.bytes)) = some (some (.int .u8 0), 1, 1) := by kernel_rfl
def textP (S : List UInt8) (z : Nat) : List UInt8 := S.take 700 ++ (if 70000 < z then [] else List.replicate z 0)
theorem textP_len (S : List UInt8) (z : Nat) : (textP S z).length ≤ 70700 := by
  unfold textP
  rw [List.length_append, List.length_take]
  split
  · simp; omega
  · rw [List.length_replicate]; omega

set_option maxRecDepth 100000 in
set_option maxHeartbeats 2000000 in
theorem ptext_any (s n : Int) (S : List UInt8) (z : Nat) (w : World) (hS : S.length ≤ 9223372036854775807) (hz : z < 4294967296) :
    Calls Tryd.prog 11 #[.agg #[.int .i64 s, .int .u64 n, .string ⟨S.toArray⟩, .int .u32 (z : Int)]] w fun e w' => e = .returned (.string ⟨(textP S z).toArray⟩) ∧ Below w.heap.size w w' := by
  obtain ⟨i0, hi, hz0, hz1, hz2⟩ := info_parts Tryd.info5
  have hT : (S.take 700).length ≤ 700 := by rw [List.length_take]; omega
  have HE := Lib.hid (show textP S z = S.take 700 ++ (if 70000 < z then [] else List.replicate z 0) from rfl)
  have hx : (if S.length ≤ 700 then (⟨S.toArray⟩ : ByteArray).extract 0 S.length else (⟨S.toArray⟩ : ByteArray).extract 0 700) = ⟨(S.take 700).toArray⟩ := by
    split
    · rw [extract_list, List.drop_zero, List.take_of_length_le (Nat.le_refl _), List.take_of_length_le (by omega)]
    · rw [extract_list, List.drop_zero]
  obtain ⟨T, hTT⟩ : ∃ T, S.take 700 = T := ⟨_, rfl⟩
  rw [hTT] at hx hT HE
  clear hTT
  by_cases h7 : S.length ≤ 700
  · rw [if_pos h7] at hx
    have h8 : (S.length : Int) ≤ 700 := by omega
    clear h7
    by_cases hb : 70000 < z
    · have HE := Lib.hid (show textP S z = T by rw [HE.out, if_pos hb, List.append_nil])
      have hb2 : (70000 : Int) < (z : Int) := by omega
      clear hb
      go_enter Tryd.func11, Tryd.ntmps11
      go_wp2
      go_ret
      exact ⟨by rw [HE.out]; rfl, (Below.refl _ _).alloc (Nat.le_refl _) _⟩
    · have HE := Lib.hid (show textP S z = T ++ List.replicate z 0 by rw [HE.out, if_neg hb])
      have hb2 : ¬ (70000 : Int) < (z : Int) := by omega
      have hm3 : 1 * z ≤ 281474976710656 := by omega
      have hm4 : z ≤ maxLen := by unfold maxLen; omega
      have w1 : IntKind.i64.wrap (z : Int) = (z : Int) := IntWalk.i64_in _ (by omega)
      have hcat := run_cat T (List.replicate z 0) (by rw [List.length_replicate]; omega)
      clear hb
      go_enter Tryd.func11, Tryd.ntmps11
      go_wp2_with (at_make; refine wpList_make_full _ rfl _ _ 48 rfl w.heap.size 5 i0 (.int .u8 0) 1 Tryd.underlying48 hi hz0 hz1 _ _ _ _ z rfl rfl rfl rfl (by rw [hz2]; exact hm3) hm4 (by rw [World.size_alloc]; omega) ?_)
      intro w2 hown hgrow
      have hbe : Below w.heap.size w w2 := ((Below.refl _ _).alloc (Nat.le_refl _) _).grown hgrow (by rw [World.size_alloc]; omega) (fun k e => by cases e)
      rw [toList_madeCells_one] at hown
      have hconv := run_convert_bytes_back (P := Tryd.prog) w2 48 9 5 ⟨w.heap.size + 1, 0, none⟩ z (List.replicate z 0) Tryd.underlying48 Tryd.underlying5 Tryd.underlying9 (fun j hj => by
        rw [List.length_replicate] at hj
        have k := hown.cellAt j (by omega)
        rw [List.getElem?_replicate, if_pos hj] at k
        rw [Addr.add_mid, Nat.zero_add, k, List.getElem_replicate]
        rfl)
      rw [List.length_replicate] at hconv
      clear hown hgrow hi hz0 hz1 hz2 hm3 hm4
      go_wp2
      go_ret
      exact ⟨by rw [HE.out]; rfl, hbe⟩
  · rw [if_neg h7] at hx
    have h8 : (700 : Int) < (S.length : Int) := by omega
    clear h7
    by_cases hb : 70000 < z
    · have HE := Lib.hid (show textP S z = T by rw [HE.out, if_pos hb, List.append_nil])
      have hb2 : (70000 : Int) < (z : Int) := by omega
      clear hb
      go_enter Tryd.func11, Tryd.ntmps11
      go_wp2
      go_ret
      exact ⟨by rw [HE.out]; rfl, (Below.refl _ _).alloc (Nat.le_refl _) _⟩
    · have HE := Lib.hid (show textP S z = T ++ List.replicate z 0 by rw [HE.out, if_neg hb])
      have hb2 : ¬ (70000 : Int) < (z : Int) := by omega
      have hm3 : 1 * z ≤ 281474976710656 := by omega
      have hm4 : z ≤ maxLen := by unfold maxLen; omega
      have w1 : IntKind.i64.wrap (z : Int) = (z : Int) := IntWalk.i64_in _ (by omega)
      have hcat := run_cat T (List.replicate z 0) (by rw [List.length_replicate]; omega)
      clear hb
      go_enter Tryd.func11, Tryd.ntmps11
      go_wp2_with (at_make; refine wpList_make_full _ rfl _ _ 48 rfl w.heap.size 5 i0 (.int .u8 0) 1 Tryd.underlying48 hi hz0 hz1 _ _ _ _ z rfl rfl rfl rfl (by rw [hz2]; exact hm3) hm4 (by rw [World.size_alloc]; omega) ?_)
      intro w2 hown hgrow
      have hbe : Below w.heap.size w w2 := ((Below.refl _ _).alloc (Nat.le_refl _) _).grown hgrow (by rw [World.size_alloc]; omega) (fun k e => by cases e)
      rw [toList_madeCells_one] at hown
      have hconv := run_convert_bytes_back (P := Tryd.prog) w2 48 9 5 ⟨w.heap.size + 1, 0, none⟩ z (List.replicate z 0) Tryd.underlying48 Tryd.underlying5 Tryd.underlying9 (fun j hj => by
        rw [List.length_replicate] at hj
        have k := hown.cellAt j (by omega)
        rw [List.getElem?_replicate, if_pos hj] at k
        rw [Addr.add_mid, Nat.zero_add, k, List.getElem_replicate]
        rfl)
      rw [List.length_replicate] at hconv
      clear hown hgrow hi hz0 hz1 hz2 hm3 hm4
      go_wp2
      go_ret
      exact ⟨by rw [HE.out]; rfl, hbe⟩
end Go.Proofs.YtgdlfbphfogphaaDoor
