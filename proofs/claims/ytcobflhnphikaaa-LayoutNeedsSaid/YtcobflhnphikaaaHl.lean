/- The parents of a set. -/
import Derived.Test.YtcobflhnphikaaaHk
namespace Go.Proofs.Ytcobflhnphikaaa
open Go.RowKit Go.Sort

theorem nums_of_row {base : Nat} {v : Value} {L : List Nat} {w : World} (h : w.ownsRow base 22 1 v L.length (L.map encU)) : ∃ ao cap, v = .slice ao L.length cap ∧ Nums ao L w ∧ (∀ b off, ao = some ⟨b, off, none⟩ → base ≤ b ∧ some b = v.ownBlock) := by
  have h0 := h
  rcases h.2 with ⟨rfl, hl⟩ | ⟨g, cap, cur, rfl, h1, h2, h3, h4, h5, h6⟩
  · exact ⟨none, 0, by rw [hl], .inl (List.length_eq_zero_iff.1 hl), fun b off e => by cases e⟩
  · refine ⟨_, cap, rfl, .inr ⟨g, 0, rfl, (Array.getElem?_eq_some_iff.1 h2).1, fun i hi => ?_⟩, fun b off e => by cases e; exact ⟨h1, rfl⟩⟩
    have := h0.cellAt i (by simpa using hi)
    rw [Nat.zero_add]
    refine this.trans ?_
    simp [encU, hi]
set_option maxRecDepth 100000 in
set_option maxHeartbeats 2000000 in
theorem parents_any (b n : Nat) (K : List Nat) (w : World) (hs : SetU b n K w) (hn : n ≤ 100000) :
    Calls Try.prog 38 #[.map (some b)] w fun e w' => ∃ (v : Value) (L : List Nat), e = .returned v ∧ (∀ x, x ∈ L ↔ ∃ k ∈ K, k / 2 = x) ∧ (∀ x ∈ L, x < 18446744073709551616) ∧ L.length ≤ n ∧ w'.ownsRow w.heap.size 22 1 v L.length (L.map encU) ∧ Below w.heap.size w w' := by
  have HS := Lib.hid hs
  obtain ⟨B, hB⟩ : ∃ B, B = w.heap.size := ⟨_, rfl⟩
  have hbB : b < B := by have := hs.lt; omega
  obtain ⟨D, hown, hD⟩ := hs
  obtain ⟨i0, hi, hz0, hz1, hz2⟩ := info_parts infoU
  have hsz := hown.size_le
  obtain ⟨c, hc⟩ : ∃ c, Maps.size D = c := ⟨_, rfl⟩
  obtain ⟨w1, hrun, ho1, hg1⟩ := run_make_own (P := Try.prog) w B 28 22 i0 (.int .u64 0) 1 Try.underlying28 hi hz0 hz1 .i64 .i64 c (by rw [hz2]; omega) (by unfold maxLen; omega) (by omega)
  have HO1 := Lib.hid ho1
  have HG1 := Lib.hid hg1
  have HS1 := Lib.hid (HS.out.kept hg1 (by simp))
  clear hD hsz ho1 hg1 hi hz0 hz1 hz2
  go_enter Try.func38, Try.ntmps38
  go_wp2_with (first | (at_len; refine wpList_len_own _ rfl _ 48 rfl 22 58 Try.underlying48 unitElem b n D rfl hown ?_; rw [hc]) | (at_range; refine wpList_range_set _ rfl _ 48 rfl 58 keyU Try.underlying48 b n K rfl HS1.out ?_; intro w0 hrg0 hg0 hs0))
  obtain ⟨r, hr⟩ : ∃ r, r = w1.heap.size := ⟨_, rfl⟩
  rw [← hr] at hrg0 hs0 ⊢
  have hBr : B ≤ r := by have := HG1.out.size; omega
  have HR0 := Lib.hid hrg0
  have HG0 := Lib.hid (((Below.refl B w).grown HG1.out (by omega) (fun k e => by cases e)).grown hg0 (by omega) (fun k e => by cases e))
  have HV0 := Lib.hid (HO1.out.kept hg0 (Classical.em _))
  have hz0 : B ≤ w0.heap.size := by omega
  have HB := Lib.hid hB
  clear hrg0 hg0 hs0 hB hr hrun hown hc
  go_frame
  go_loopw [3] (fun v wr => ∃ V : List Nat, Hid (RangeU b r n K V wr) ∧ Hid (wr.ownsRow B 22 1 v (V.map (· / 2)).length ((V.map (· / 2)).map encU)) ∧ Hid (Below B w wr) ∧ Hid (B ≤ wr.heap.size)) (fun _ wr => wr.rangeLeft b r)
  case atStart => exact ⟨[], HR0, HV0, HG0, Lib.hid hz0⟩
  case round =>
    obtain ⟨V, HR, HV, HL, HZ⟩ := hrel
    have HSH := Lib.hid HR.out.short
    go_wp2_with (at_next; refine wpList_next_set _ rfl _ rfl keyU Try.underlying22 b r n K V rfl HR.out ?_ ?_)
    · intro hdone
      have HD := Lib.hid hdone
      clear hdone
      go_wp2
      go_ret
      refine ⟨_, V.map (· / 2), rfl, fun x => ?_, fun x hx => ?_, by rw [List.length_map]; exact HSH.out.1, by rw [← HB.out]; exact HV.out, by rw [← HB.out]; exact HL.out⟩
      · simp [HD.out]
      · obtain ⟨_, _, _, _, _, _, _, _, h6, _⟩ := HR.out
        obtain ⟨k, hk, rfl⟩ := List.mem_map.1 hx
        have := h6 k hk
        omega
    · intro x w2 hx64 hxK hxV hrg2 hlt2 hgr2 hsz2 hen
      have HM := Lib.hid hlt2
      have HR2 := Lib.hid hrg2
      have HZ2 := Lib.hid (show B ≤ w2.heap.size by have := HZ.out; omega)
      have HV2 := Lib.hid (HV.out.kept hgr2 (.inr (ranges_row HR.out HV.out).2.symm))
      have HC := Lib.hid (parent_any x hx64 w2)
      have HL2 := Lib.hid (HL.out.grown hgr2 (by have := HZ.out; omega) (fun k e => by cases e; exact hBr))
      have HE := Lib.hid (show V.map (· / 2) ++ [x / 2] = (V ++ [x]).map (· / 2) by simp)
      clear hlt2 hrg2 hgr2 hsz2 hxK hxV hx64
      generalize x / 2 = px at *
      go_wp2_with (first | (go_at_call 16; refine HC.out.mono ?_; rintro e w2 ⟨rfl, rfl⟩) |
          (at_builtin; refine append_num rfl _ _ rfl rfl rfl HV2.out (by have := HSH.out.1; rw [List.length_map]; omega) HZ2.out ?_; intro v3 w3 ho3 hg3; have HO3 := Lib.hid ho3; have HG3 := Lib.hid hg3; clear ho3 hg3))
      go_roundw
      case rel =>
        have hrr := ranges_row HR2.out HV2.out
        exact ⟨V ++ [x], Lib.hid (HR2.out.kept HG3.out hrr.1 hrr.2), Lib.hid (by rw [← HE.out]; exact HO3.out), Lib.hid (HL2.out.grown HG3.out HZ2.out (fun k e => row_low HV2.out (Nat.le_refl _) k e)), Lib.hid (by have := HG3.out.size; have := HZ2.out; omega)⟩
      case measure =>
        have hrr := ranges_row HR2.out HV2.out
        have hz := HR2.out
        have h1 : b < w2.heap.size := HR2.out.set.lt
        have h2 : r < w2.heap.size := by obtain ⟨_, _, _, h, _⟩ := HR2.out; exact h.lt
        rw [left_kept (HG3.out.block b h1 hrr.1) (HG3.out.block r h2 hrr.2)]
        exact HM.out
end Go.Proofs.Ytcobflhnphikaaa
