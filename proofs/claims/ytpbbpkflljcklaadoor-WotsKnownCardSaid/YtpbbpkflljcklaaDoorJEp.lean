/- The program's Walk; all that is asked of its Digits and Walk. -/
import Derived.Test.YtpbbpkflljcklaaDoorJEp3
namespace Go.Proofs.YtpbbpkflljcklaaDoor
open Go.RowKit
attribute [local go_sem] Oper.semAt_some

set_option maxRecDepth 100000 in
theorem steps_calls (i a b : Nat) (x : (List UInt8)) (w : World) : Calls Tryd.prog 36 #[.int .i64 (i : Int), .int .i64 (a : Int), .int .i64 (b : Int), .string ⟨x.toArray⟩] w fun e w' =>
    e = .returned (.func (.func 46) #[] #[.pointer (some ⟨w.heap.size + 1 + 1 + 1, 0, none⟩), .pointer (some ⟨w.heap.size + 1, 0, none⟩), .pointer (some ⟨w.heap.size + 1 + 1, 0, none⟩), .pointer (some ⟨w.heap.size, 0, none⟩)]) ∧
    w' = (((w.alloc (.cells #[.int .i64 (i : Int)] 3)).alloc (.cells #[.int .i64 (a : Int)] 3)).alloc (.cells #[.int .i64 (b : Int)] 3)).alloc (.cells #[.string ⟨x.toArray⟩] 9) := by
  go_enter Tryd.func36, Tryd.ntmps36
  go_wp2
  go_ret
  exact ⟨rfl, rfl⟩
theorem steps_any (i a b : Nat) (x : (List UInt8)) (w : World) (z : Nat) (hz : w.heap.size = z) (hg : Glob w) : Calls Tryd.prog 36 #[.int .i64 (i : Int), .int .i64 (a : Int), .int .i64 (b : Int), .string ⟨x.toArray⟩] w fun e w' =>
    e = .returned (.func (.func 46) #[] #[.pointer (some ⟨z + 3, 0, none⟩), .pointer (some ⟨z + 1, 0, none⟩), .pointer (some ⟨z + 2, 0, none⟩), .pointer (some ⟨z, 0, none⟩)]) ∧ w'.heap.size = z + 4 ∧ StepsOk (z + 3) (z + 2) (z + 1) z i a b x w' ∧ Below z w w' := by
  subst hz
  refine (steps_calls i a b x w).mono ?_
  rintro e w' ⟨h1, rfl⟩
  have hb : Below w.heap.size w ((((w.alloc (.cells #[.int .i64 (i : Int)] 3)).alloc (.cells #[.int .i64 (a : Int)] 3)).alloc (.cells #[.int .i64 (b : Int)] 3)).alloc (.cells #[.string ⟨x.toArray⟩] 9)) := (((by0 w _).alloc (by simp) _).alloc (by simp; omega) _).alloc (by simp; omega) _
  have n1 := heap_alloc_new w (.cells #[.int .i64 (i : Int)] 3)
  have n2 := heap_alloc_new (w.alloc (.cells #[.int .i64 (i : Int)] 3)) (.cells #[.int .i64 (a : Int)] 3)
  have n3 := heap_alloc_new ((w.alloc (.cells #[.int .i64 (i : Int)] 3)).alloc (.cells #[.int .i64 (a : Int)] 3)) (.cells #[.int .i64 (b : Int)] 3)
  have n4 := heap_alloc_new (((w.alloc (.cells #[.int .i64 (i : Int)] 3)).alloc (.cells #[.int .i64 (a : Int)] 3)).alloc (.cells #[.int .i64 (b : Int)] 3)) (.cells #[.string ⟨x.toArray⟩] 9)
  have n1' := lit_old (.cells #[.string ⟨x.toArray⟩] 9) (lit_old (.cells #[.int .i64 (b : Int)] 3) (lit_old (.cells #[.int .i64 (a : Int)] 3) n1))
  have n2' := lit_old (.cells #[.string ⟨x.toArray⟩] 9) (lit_old (.cells #[.int .i64 (b : Int)] 3) n2)
  have n3' := lit_old (.cells #[.string ⟨x.toArray⟩] 9) n3
  simp only [World.size_alloc] at n2' n3' n4
  exact ⟨h1, by simp, ⟨⟨lit_cell n4 0, lit_cell n3' 0, lit_cell n2' 0, lit_cell n1' 0⟩, hg.below hg.size hb⟩, hb⟩
set_option maxRecDepth 100000 in
set_option maxHeartbeats 2000000 in
theorem walk_any (i a b : Int) (x : (List UInt8)) (w : World) (hg : Glob w) (hx : x.length ≤ 10000000) :
    Calls Tryd.prog 19 #[.int .i64 i, .int .i64 a, .int .i64 b, .string ⟨x.toArray⟩] w fun e w' => e = .returned (.string ⟨(walkV i a b x).toArray⟩) ∧ Below w.heap.size w w' := by
  by_cases hin : 0 ≤ i ∧ i ≤ 66 ∧ 0 ≤ a ∧ a ≤ b ∧ b ≤ 15
  · obtain ⟨h1, h2, h3, h4, h5⟩ := hin
    obtain ⟨i, rfl⟩ := Int.eq_ofNat_of_zero_le h1
    obtain ⟨a, rfl⟩ := Int.eq_ofNat_of_zero_le h3
    obtain ⟨b, rfl⟩ := Int.eq_ofNat_of_zero_le (Int.le_trans h3 h4)
    have hab : a ≤ b := by omega
    have hb15 : b ≤ 15 := by omega
    have hi66 : i ≤ 66 := by omega
    have HE := Lib.hid (walkV_nat i a b x hi66 hab hb15)
    rw [HE.out]
    have HIC := Lib.hid (fun w => isChain_yes i hi66 w)
    have HIW := Lib.hid (fun w => isWalk_yes a b hab hb15 w)
    have HSH := Lib.hid (fun bx bb ba bi => steps_hands bx bb ba bi i a b x hi66 hab hb15 hx)
    obtain ⟨z, hz⟩ : ∃ z, w.heap.size = z := ⟨_, rfl⟩
    have HZ := Lib.hid hz
    have HN1 := Lib.hid (heap_alloc_new w (.cells #[.string ⟨x.toArray⟩] 9))
    have HST := Lib.hid (steps_any i a b x (w.alloc (.cells #[.string ⟨x.toArray⟩] 9)) (z + 1) (by rw [World.size_alloc, hz]) (hg.below hg.size (by0 w _)))
    have HB1 := Lib.hid (by0 w (.cells #[.string ⟨x.toArray⟩] 9))
    have HGS := Lib.hid hg.size
    rw [hz] at HN1 HB1 HGS ⊢
    clear h1 h2 h3 h4 h5 hx hg hab hb15 hi66 HE
    refine calls_of_wp_marks Tryd.func19 rfl ?_
    simp only [Tryd.ntmps19, List.size_toArray, List.length_cons, List.length_nil, Nat.reduceAdd, Nat.reduceSub, Array.replicate_succ, Array.replicate_zero, List.push_toArray, List.append_toArray, List.nil_append, List.cons_append]
    go_wp2_with (first | (go_at_call 34; refine (HIC.out _).mono ?_; rintro e w1 ⟨rfl, hw1⟩; have hw1 := hw1.symm; subst hw1) | (go_at_call 35; refine (HIW.out _).mono ?_; rintro e w1 ⟨rfl, hw1⟩; have hw1 := hw1.symm; subst hw1))
    refine HST.out.mono ?_
    rintro e w3 ⟨rfl, hz3, hok3, hb3⟩
    have hn3 := (hb3.block z (Nat.lt_succ_self z)).trans HN1.out
    have HB3 := Lib.hid (HB1.out.trans (hb3.mono (Nat.le_succ z)))
    have HN3 := Lib.hid hn3
    have HZ3 := Lib.hid (show w3.heap.size = z + 5 by rw [hz3])
    have HOK3 := Lib.hid hok3
    clear hb3 hn3 hz3 hok3 HST HN1 HB1 hz
    go_wp2
    refine wp_rangeFunc_read (gf := 46) (lb := #[.pointer (some ⟨z + 1 + 3, 0, none⟩), .pointer (some ⟨z + 1 + 1, 0, none⟩), .pointer (some ⟨z + 1 + 2, 0, none⟩), .pointer (some ⟨z + 1, 0, none⟩)]) rfl (enters_of Tryd.func46 (by kernel_rfl) rfl)
      (HSH.out (z + 1 + 3) (z + 1 + 2) (z + 1 + 1) (z + 1)) (fun _ => rfl) (z + 5) HZ3.out [z] ?ok
      (fun k W => W.heap[z]? = some (.cells #[.string ⟨(walkF i a k x).toArray⟩] 9 (0, 0)) ∧ Kept (fun j => j < z + 5 ∧ j ∉ [z]) w3 W ∧ z + 5 ≤ W.heap.size) ?keep ?start
      (fun k => { tmps := #[.int .i64 (i : Int), .int .i64 (a : Int), .int .i64 (b : Int), .string ⟨x.toArray⟩, undef, undef, undef, undef, .string ⟨#[]⟩, .pointer (some ⟨z, 0, none⟩), .string ⟨(walkF i a (k + 1) x).toArray⟩, .int .i64 (i : Int), .bool true, .bool false, .bool false, .int .i64 (a : Int), .int .i64 (b : Int), .bool true, .bool false, .bool false, .string ⟨x.toArray⟩, .int .i64 (i : Int), .int .i64 (a : Int), .int .i64 (b : Int), .string ⟨x.toArray⟩, .func (.func 46) #[] #[.pointer (some ⟨z + 1 + 3, 0, none⟩), .pointer (some ⟨z + 1 + 1, 0, none⟩), .pointer (some ⟨z + 1 + 2, 0, none⟩), .pointer (some ⟨z + 1, 0, none⟩)], .string ⟨(walkF i a (k + 1) x).toArray⟩, undef, undef], defers := [] }) ?assign ?body ?done
    case ok =>
      intro W' hW'
      obtain ⟨⟨h1, h2, h3, h4⟩, hg⟩ := HOK3.out
      have hz5 := HZ3.out
      have hzz := HGS.out
      exact ⟨⟨(World.cell?_of_block (a := ⟨z + 1 + 3, 0, none⟩) (hW'.block (z + 1 + 3) (by omega) ⟨by omega, by simp; omega⟩)).trans h1, (World.cell?_of_block (a := ⟨z + 1 + 2, 0, none⟩) (hW'.block (z + 1 + 2) (by omega) ⟨by omega, by simp; omega⟩)).trans h2, (World.cell?_of_block (a := ⟨z + 1 + 1, 0, none⟩) (hW'.block (z + 1 + 1) (by omega) ⟨by omega, by simp; omega⟩)).trans h3, (World.cell?_of_block (a := ⟨z + 1, 0, none⟩) (hW'.block (z + 1) (by omega) ⟨by omega, by simp⟩)).trans h4⟩,
        hg.below (B := z) hzz ⟨hW'.os, hW'.tape, hW'.output, hW'.size, fun j hj => hW'.block j (by omega) ⟨by omega, by simp; omega⟩⟩⟩
    case keep =>
      rintro k W W' ⟨h, h2, hz⟩ hk
      exact ⟨(hk.block z (by omega) (.inl (by omega))).trans h, h2.trans (hk.less fun j _ hj => .inl hj.1), by have := hk.size; omega⟩
    case start => exact ⟨HN3.out, Kept.refl _ _, by rw [HZ3.out]; omega⟩
    case assign =>
      intro l k W K hK
      generalize walkF i a (k + 1) x = X at *
      gi_wp2
      exact hK
    case body =>
      rintro l' k W hkm hWz ⟨hcell, hkp3, hz⟩
      have hc0 : W.cell? ⟨z, 0, none⟩ = some (.string ⟨(walkF i a k x).toArray⟩) := by rw [lit_cell hcell]; rfl
      have hf0 := lit_free hcell 0
      have HFIN := Lib.hid (show Kept (fun j => (j < z + 5 ∧ j ∉ [z]) ∨ (z + 5 ≤ j ∧ j < z + 5 + 2)) W (W.setCell ⟨z, 0, none⟩ (.string ⟨(walkF i a (k + 1) x).toArray⟩)) from (Kept.refl _ W).setCell z 0 _ (fun _ => by simp; omega))
      have HSET := Lib.hid (lit_set (k := 0) (.string ⟨(walkF i a (k + 1) x).toArray⟩) hcell)
      have HKP := Lib.hid hkp3
      clear hcell hkp3
      generalize walkF i a (k + 1) x = X at *
      generalize walkF i a k x = Y at *
      gi_wp2
      refine ⟨HFIN.out, HSET.out, HKP.out.trans (HFIN.out.less fun j _ hj => .inl hj), by have := HFIN.out.size; omega⟩
    case done =>
      rintro W ⟨hcell, hkp3, hz⟩ hkept hdef
      have hc0 : W.cell? ⟨z, 0, none⟩ = some (.string ⟨(walkF i a (b - a) x).toArray⟩) := by rw [lit_cell hcell]; rfl
      have HKP := Lib.hid hkp3
      clear hcell hkept hkp3
      go_wp2
      refine ⟨by simp, .inl ⟨_, _, rfl, run_takeDeferred hdef, ?_⟩⟩
      have kp : Kept (fun j => j ≠ z + 5) W (W.putObj (z + 5) (.deferred none)) := Kept.putObj _ _ _ _ (by simp)
      have hbw := (HKP.out.trans (kp.less (T := fun j => j < z + 5 ∧ j ∉ [z]) fun j _ h => by omega)).below (B := z) (by rw [HZ3.out]; omega) (fun j h => ⟨by omega, by simp; omega⟩)
      exact ⟨_, results_tmp rfl _ _ _, rfl, HB3.out.trans hbw⟩
  · have HE := Lib.hid (show walkV i a b x = [] from if_neg hin)
    rw [HE.out]
    by_cases h1 : 0 ≤ i ∧ i ≤ 66
    · obtain ⟨i, rfl⟩ := Int.eq_ofNat_of_zero_le h1.1
      have HIC := Lib.hid (fun w => isChain_yes i (by omega) w)
      have HIW := Lib.hid (fun w => isWalk_no a b (by omega) w)
      clear h1 hin hg hx HE
      go_enter Tryd.func19, Tryd.ntmps19
      go_wp2_with (first | (go_at_call 34; refine (HIC.out _).mono ?_; rintro e w1 ⟨rfl, hw1⟩; have hw1 := hw1.symm; subst hw1) | (go_at_call 35; refine (HIW.out _).mono ?_; rintro e w1 ⟨rfl, hw1⟩; have hw1 := hw1.symm; subst hw1))
      go_wp2
      exact bodyPost_ret (v := .string ⟨#[]⟩) (by simp [results, Tryd.results19, go_sem]) rfl ⟨rfl, Below.refl _ _⟩
    · have HIC := Lib.hid (fun w => isChain_no i h1 w)
      clear h1 hin hg hx HE
      go_enter Tryd.func19, Tryd.ntmps19
      go_wp2_with (go_at_call 34; refine (HIC.out _).mono ?_; rintro e w1 ⟨rfl, hw1⟩; have hw1 := hw1.symm; subst hw1)
      go_wp2
      exact bodyPost_ret (v := .string ⟨#[]⟩) (by simp [results, Tryd.results19, go_sem]) rfl ⟨rfl, Below.refl _ _⟩
theorem chainC : ChainC := ⟨fun s w _ _ => digits_any s w, fun i a b x w hg hx => walk_any i a b x w hg hx⟩
end Go.Proofs.YtpbbpkflljcklaaDoor
