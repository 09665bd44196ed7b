/- From known and needed places all parents come, and without any one they do not: the stage's law. -/
import Derived.Test.YtcobflhnphikaaaHv
import Derived.Test.YtcobflhnphikaaaBc
import Derived.Deep.RegionLaw
namespace Go.Proofs.Ytcobflhnphikaaa
open Go.RowKit Go.Sort

/-- append of one number, in a region that draws -/
theorem step_append_num {ops : Array Oper} {o : Oper} {a : Act} {K : Act → World → Prop} {Q : Exit → Act → World → Prop} {E : Prop} {w1 : World} {base b1 : Nat} {X : List Nat} {v : Value} {c : Nat} (hgd : o.guard = none) (s x : Operand)
    (ho : o.op = .call { callee := .builtin .append, args := #[s, x], argTypes := #[28, 28] })
    (hs : a.eval s = v) (hx : a.eval x = .slice (some ⟨b1, 0, none⟩) 1 1) (hc : w1.cell? ⟨b1, 0, none⟩ = some (.int .u64 (c : Int))) (hown : w1.ownsRow base 22 1 v X.length (X.map encU)) (hn : X.length ≤ 100000) (h0 : base ≤ w1.heap.size)
    (h : ∀ v' w', w'.ownsRow base 22 1 v' (X ++ [c]).length ((X ++ [c]).map encU) → w1.grownBy w' v.ownBlock → K (a.put o.dst v') w') :
    if Region.wanted o (yielded ops a.tmps) = true then Oper.wp Try.prog o a w1 K Q else E := by
  obtain ⟨i0, hi, hz0, hz1, hz2⟩ := info_parts infoU
  have hw : Region.wanted o (yielded ops a.tmps) = true := by simp [Region.wanted, hgd]
  rw [if_pos hw]
  refine wp_append_own _ s x 28 ho base 22 i0 (.int .u64 0) 1 8 Try.underlying28 hi hz0 hz1 hz2 rfl (by decide) v X.length _ hs hown ⟨b1, 0, none⟩ 1 1 [.int .u64 (c : Int)] hx rfl ?_ ?_ (by unfold maxLen; omega) (by omega) h0 ?_
  · intro j u hj
    match j, hj with
    | 0, hj => simp at hj; subst hj; simpa [Addr.add] using hc
  · intro u hu; simp at hu; subst hu; rfl
  · intro v' w' hown' hg _
    exact h v' w' (by simpa [encU] using hown') hg
/-- the leaves that the law makes -/
def leafs (l : List UInt8) (D : Nat) : List Nat := (l.take 12).map fun x => x.toNat % D
theorem leafs_len (l : List UInt8) (D : Nat) : (leafs l D).length = min 12 l.length := by simp [leafs]
set_option maxRecDepth 100000 in
set_option maxHeartbeats 1000000 in
theorem suffices_any (ao : Option Addr) (cp : Nat) (l : List UInt8) (hlm : l.length ≤ maxLen) (w0 : World) (hl : Byts ao l w0) (n1 : Nat) (hn1 : n1 < 256) (n2 : Nat) (hn2 : n2 < 256) :
    Calls Try.prog 6 #[.slice ao l.length cp, .int .u8 (n1 : Int), .int .u8 (n2 : Int)] w0 fun e w' => e = .returned (.bool true) ∧ Below w0.heap.size w0 w' := by
  unfold maxLen at hlm
  obtain ⟨d, hd⟩ : ∃ d, d = n1 % 8 := ⟨_, rfl⟩
  have hd7 : d ≤ 7 := by omega
  have hdi : (n1 : Int) % 8 = (d : Int) := by omega
  obtain ⟨D, hD⟩ : ∃ D, D = 2 ^ d := ⟨_, rfl⟩
  have hD7 : D ≤ 2 ^ 7 := by rw [hD]; exact Nat.pow_le_pow_right (by decide) hd7
  have hD0 : 0 < D := by rw [hD]; exact Nat.pow_pos (by decide)
  have hw : IntKind.u64.wrap ((2 : Int) ^ d) = (D : Int) := by
    rw [show ((2 : Int) ^ d) = ((2 ^ d : Nat) : Int) by simp, ← hD, IntKind.wrap_u64]
    omega
  have hDz : ¬ (D : Int) = 0 := by omega
  have HW := Lib.hid (works_any w0)
  have HL := Lib.hid hl
  have HD := Lib.hid hD
  have HLL := Lib.hid (leafs_len l D)
  clear hl hd hD
  go_enter Try.func6, Try.ntmps6
  go_wp2_with (go_at_call 17; refine HW.out.mono ?_; rintro e w1 ⟨rfl, hb⟩)
  have HB := Lib.hid hb
  clear hb hdi
  go_loopw [8, 9] (fun v vi wr => ∃ k : Nat, k ≤ l.length ∧ k ≤ 12 ∧ vi = .int .i64 (k : Int) ∧ Hid (wr.ownsRow w0.heap.size 22 1 v ((leafs l D).take k).length (((leafs l D).take k).map encU)) ∧ Hid (Below w0.heap.size w0 wr)) (fun _ vi _ => 12 - (intOf vi).toNat)
  case atStart => exact ⟨0, Nat.zero_le _, by omega, rfl, Lib.hid (World.ownsRow_nil _ _ _ _), HB⟩
  case round =>
    obtain ⟨k, hk, hk12, rfl, HT, HB⟩ := hrel
    by_cases hkl : k < l.length ∧ k < 12
    · obtain ⟨hkl, hk2⟩ := hkl
      have hi1 : decide (k < l.length) = true := by simpa using hkl
      have hi2 : (k : Int) < 12 := by omega
      have i0 : (0 : Int) ≤ (k : Int) := by omega
      obtain ⟨bb, off, rfl, hcell0⟩ := HL.out.cell k hkl
      have hcell : wr.cell? ⟨bb, off + k, none⟩ = some (.int .u8 (l[k].toNat : Int)) := (HB.out.cell (p := ⟨bb, off + k, none⟩) (World.block_lt_of_cell? _ _ hcell0)).trans hcell0
      obtain ⟨x, hx⟩ : ∃ x, l[k].toNat = x := ⟨_, rfl⟩
      have hx256 : x < 256 := by rw [← hx]; exact UInt8.toNat_lt _
      rw [hx] at hcell
      obtain ⟨y, hy⟩ : ∃ y, x % D = y := ⟨_, rfl⟩
      have hyx : (x : Int) % (D : Int) = (y : Int) := by rw [← hy]; exact (Int.natCast_emod _ _).symm
      have hyt : (x : Int).tmod (D : Int) = (y : Int) := by rw [Int.tmod_eq_emod_of_nonneg (by omega)]; exact hyx
      have hwx : IntKind.u64.wrap (x : Int) = (x : Int) := by rw [IntKind.wrap_u64]; omega
      have hDn : ¬ D = 0 := by omega
      have HY := Lib.hid (show (leafs l D)[k]? = some y by simp [leafs, hk2, hkl, hx, hy])
      clear hcell0 hx hy
      go_wp2
      go_region_law (refine step_append_num rfl (.tmp 28) (.tmp 37) rfl rfl rfl (c := y) (by simp) ((HT.out.alloc _).drew) (by rw [List.length_take]; omega) (by have := HB.out.size; simp; omega) ?_; intro v3 w3 ho3 hg3; have HO3 := Lib.hid ho3; have HG3 := Lib.hid hg3; clear ho3 hg3)
      go_wp2
      go_roundw
      case rel =>
        refine ⟨k + 1, hkl, hk2, by go_num, Lib.hid ?_, Lib.hid ?_⟩
        · have h := HO3.out
          have e : (leafs l D).take (k + 1) = (leafs l D).take k ++ [y] := by rw [List.take_add_one, HY.out]; rfl
          rw [e]; exact h
        · exact (((HB.out).alloc HB.out.size _).drew).grown HG3.out (by have := HB.out.size; simp; omega) (fun j e => row_low HT.out (Nat.le_refl _) j e)
      case measure => simp [intOf] <;> omega
    · obtain ⟨Lf, hLf⟩ : ∃ Lf, Lf = leafs l D := ⟨_, rfl⟩
      have hkm : k = min 12 l.length := by omega
      have HT2 := Lib.hid (show wr.ownsRow w0.heap.size 22 1 u8 Lf.length (Lf.map encU) by
        have := HT.out
        rw [List.take_of_length_le (by rw [HLL.out, hkm]; exact Nat.le_refl _), ← hLf] at this
        exact this)
      have hn12 : Lf.length ≤ 12 := by rw [hLf, HLL.out]; omega
      have HDl := Lib.hid (show ∀ x ∈ Lf, x < 2 ^ d from fun x hx => by
        rw [hLf, leafs] at hx
        obtain ⟨z, _, rfl⟩ := List.mem_map.1 hx
        rw [← HD.out]
        exact Nat.mod_lt _ hD0)
      obtain ⟨a2, c2, rfl, hN2, _⟩ := nums_of_row HT2.out
      have HN2 := Lib.hid hN2
      have hnI : (Lf.length : Int) ≤ 12 := by omega
      clear hLf hN2 HT HT2
      have hcond : (decide (k < l.length) = false) ∨ (decide (k < l.length) = true ∧ ¬ (k : Int) < 12) := by
        by_cases h : k < l.length
        · exact .inr ⟨by simpa using h, by omega⟩
        · exact .inl (by simpa using h)
      clear hkl hkm
      by_cases he : Lf = []
      · subst he
        have HC := Lib.hid (needs_none a2 c2 [] d wr HN2.out (by simp) (.inl rfl))
        have hz : ((([] : List Nat).length : Int) == 0) = true := by simp
        rcases hcond with hi1 | ⟨hi1, hi2⟩
        all_goals
          go_wp2_with (go_at_call 19; refine HC.out.mono ?_; rintro e w2 ⟨rfl, hb2⟩; have HB2 := Lib.hid hb2; clear hb2)
          go_ret
          exact ⟨rfl, HB.out.trans (HB2.out.mono HB.out.size)⟩
      · have HE := Lib.hid he
        have HC := Lib.hid (needs_law a2 c2 Lf d wr HN2.out (fun x hx => by have := HDl.out x hx; have := Nat.pow_le_pow_right (n := 2) (by decide) hd7; omega) he hn12 (fun x hx => by
          have := HDl.out x hx
          simp [standsB, this]; omega) (by omega))
        have hl0 : 0 < Lf.length := List.length_pos_iff.2 he
        have hlz : ((Lf.length : Int) == 0) = false := by rw [beq_eq_false_iff_ne]; omega
        clear he
        rcases hcond with hi1 | ⟨hi1, hi2⟩
        all_goals
          go_wp2_with (go_at_call 19; refine HC.out.mono ?_; rintro e w2 ⟨bo, cb, Ms, rfl, h1, h2, h3, h4⟩; have H1 := Lib.hid h1; have H2 := Lib.hid h2; have H3 := Lib.hid h3; have H4 := Lib.hid h4; have hMd : ((Ms.length : Int) != (d : Int)) = false := (by have := h1.1; simp [this]); clear h1 h2 h3 h4)
          have HB3 := Lib.hid (HB.out.trans (H4.out.mono HB.out.size))
          have HN3 := Lib.hid (nums_next HN2.out H4.out)
          clear hMd
          go_loopw [11, 12] (fun va vi wr2 => ∃ i : Nat, i ≤ d ∧ va = .int .i64 (pre Ms i : Int) ∧ vi = .int .i64 (i : Int) ∧ w2 = wr2) (fun _ vi _ => d - (intOf vi).toNat)
          case atStart => exact ⟨0, Nat.zero_le _, rfl, rfl, rfl⟩
          case round =>
            obtain ⟨i, hi, rfl, rfl, rfl⟩ := hrel
            by_cases hid : i = d
            · subst hid
              have hl : ¬ (i : Int) < (i : Int) := by omega
              have HM1 := Lib.hid (show Calls Try.prog 21 #[.slice a2 Lf.length c2, .slice bo Ms.length cb, .int .i64 (i : Int), .int .i64 (-1)] w2 fun e w' => e = .returned (.bool true) ∧ Below w2.heap.size w2 w' by
                have := comes_any a2 bo c2 cb Lf Ms i (-1) w2 HN3.out H3.out H1.out H2.out HE.out hn12 HDl.out hd7
                rwa [show outB (-1) (pre Ms i) = true by simp [outB]] at this)
              have hp := pre_le H2.out i (by have := H1.out.1; omega)
              by_cases hz : pre Ms i = 0
              · go_wp2_with (go_at_call 21; refine HM1.out.mono ?_; rintro e w3 ⟨rfl, hb3⟩; have HB4 := Lib.hid hb3; clear hb3)
                go_ret
                exact ⟨rfl, HB3.out.trans (HB4.out.mono HB3.out.size)⟩
              · obtain ⟨r, hr⟩ : ∃ r, r = n2 % pre Ms i := ⟨_, rfl⟩
                have hrq : (n2 : Int) % (pre Ms i : Int) = (r : Int) := by rw [hr]; exact (Int.natCast_emod _ _).symm
                have hrl : r < pre Ms i := by rw [hr]; exact Nat.mod_lt _ (by omega)
                have HM2 := Lib.hid (show ∀ w3, Below w2.heap.size w2 w3 → Calls Try.prog 21 #[.slice a2 Lf.length c2, .slice bo Ms.length cb, .int .i64 (i : Int), .int .i64 (r : Int)] w3 fun e w' => e = .returned (.bool false) ∧ Below w3.heap.size w3 w' from fun w3 hb => by
                  have := comes_any a2 bo c2 cb Lf Ms i (r : Int) w3 (nums_next HN3.out hb) (rows_next H3.out hb) H1.out H2.out HE.out hn12 HDl.out hd7
                  rwa [show outB (r : Int) (pre Ms i) = false by simp [outB]; omega] at this)
                have hzi : ((pre Ms i : Int) == 0) = false := by rw [beq_eq_false_iff_ne]; omega
                clear hr
                go_wp2_with (first
                  | (go_at_call 21; (with_reducible refine HM1.out.mono ?_); rintro e w3 ⟨rfl, hb3⟩; have HB4 := Lib.hid hb3; clear hb3)
                  | (go_at_call 21; (with_reducible refine (HM2.out _ HB4.out).mono ?_); rintro e w4 ⟨rfl, hb4⟩; have HB5 := Lib.hid hb4; clear hb4))
                go_ret
                exact ⟨rfl, (HB3.out.trans (HB4.out.mono HB3.out.size)).trans (HB5.out.mono (Nat.le_trans HB3.out.size HB4.out.size))⟩
            · have hid2 : i < d := by omega
              have hl : (i : Int) < (d : Int) := by omega
              have i0 : (0 : Int) ≤ (i : Int) := by omega
              have hiM : i < Ms.length := by have := H1.out.1; omega
              have hiM2 : (i : Int) < (Ms.length : Int) := by omega
              obtain ⟨b1, o1, a1, c1, rfl, e1, m1⟩ := rows_at H3.out i hiM
              have hp := pre_le H2.out i (by omega)
              have hs12 := H2.out _ (List.getElem_mem hiM)
              have HP := Lib.hid (pre_succ hiM)
              generalize Ms[i] = N at *
              have b1' : (pre Ms i : Int) ≤ 84 := by omega
              have b2' : (N.length : Int) ≤ 12 := by omega
              clear m1
              go_wp2
              go_roundw
              case rel => exact ⟨i + 1, hid2, by rw [HP.out]; go_num, by go_num, trivial⟩
              case measure => simp [intOf] <;> omega
end Go.Proofs.Ytcobflhnphikaaa
