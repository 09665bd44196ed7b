/- Are two rows of rows alike? -/
import Derived.Test.YtcobflhnphikaaaHp
namespace Go.Proofs.Ytcobflhnphikaaa
open Go.RowKit Go.Sort

/-- the slice at ao lays the rows M -/
def Rows2 (ao : Option Addr) (M : List (List Nat)) (w : World) : Prop :=
  M = [] ∨ ∃ b off, ao = some ⟨b, off, none⟩ ∧ ∀ i (h : i < M.length), ∃ ai ci, w.cell? ⟨b, off + i, none⟩ = some (.slice ai (M[i]).length ci) ∧ Nums ai M[i] w
theorem drewN_add (w : World) (a b : Nat) : (w.drewN a).drewN b = w.drewN (a + b) := by simp [World.drewN, Nat.add_assoc]
theorem nums_drawn {ao : Option Addr} {L : List Nat} {w : World} (h : Nums ao L w) (q : Nat) : Nums ao L (w.drewN q) := h
theorem rows_drawn {ao : Option Addr} {M : List (List Nat)} {w : World} (h : Rows2 ao M w) (q : Nat) : Rows2 ao M (w.drewN q) := h
theorem nums_at {ao : Option Addr} {L : List Nat} {w : World} (h : Nums ao L w) (k : Nat) (hk : k < L.length) : ∃ b off, ao = some ⟨b, off, none⟩ ∧ w.cell? ⟨b, off + k, none⟩ = some (.int .u64 (L[k] : Int)) := by
  rcases h with h | ⟨b, off, h1, _, h3⟩
  · subst h; simp at hk
  · exact ⟨b, off, h1, h3 k hk⟩
theorem rows_at {ao : Option Addr} {M : List (List Nat)} {w : World} (h : Rows2 ao M w) (k : Nat) (hk : k < M.length) : ∃ b off ai ci, ao = some ⟨b, off, none⟩ ∧ w.cell? ⟨b, off + k, none⟩ = some (.slice ai (M[k]).length ci) ∧ Nums ai M[k] w := by
  rcases h with h | ⟨b, off, h1, h3⟩
  · subst h; simp at hk
  · obtain ⟨ai, ci, h4, h5⟩ := h3 k hk
    exact ⟨b, off, ai, ci, h1, h4, h5⟩
set_option maxRecDepth 100000 in
set_option maxHeartbeats 4000000 in
theorem same_any (ao bo : Option Addr) (ca cb : Nat) (A B : List (List Nat)) (w : World) (hA : Rows2 ao A w) (hB : Rows2 bo B w) (nA : A.length ≤ 1000) (nB : B.length ≤ 1000) (sA : ∀ x ∈ A, x.length ≤ 1000) (sB : ∀ x ∈ B, x.length ≤ 1000) :
    Calls Try.prog 18 #[.slice ao A.length ca, .slice bo B.length cb] w fun e w' => e = .returned (.bool (decide (A = B))) ∧ ∃ q, w' = w.drewN q := by
  have HA := Lib.hid hA
  have HB := Lib.hid hB
  have SA := Lib.hid sA
  have SB := Lib.hid sB
  have n1 : (A.length : Int) ≤ 1000 := by omega
  have n2 : (B.length : Int) ≤ 1000 := by omega
  clear hA hB sA sB nA nB
  by_cases hab : A.length = B.length
  · have hl : ((A.length : Int) == (B.length : Int)) = true := by rw [hab]; simp
    rw [← hab] at n2 ⊢
    have HAB := Lib.hid hab
    clear hab hl
    go_enter Try.func18, Try.ntmps18
    go_wp2
    go_loopw [5] (fun i wr => ∃ k : Nat, k ≤ A.length ∧ i = .int .i64 (k : Int) ∧ Hid (A.take k = B.take k) ∧ Hid (∃ q, wr = w.drewN q)) (fun i _ => (A.length : Int).toNat - (intOf i).toNat)
    case atStart => exact ⟨0, Nat.zero_le _, rfl, Lib.hid (by simp), Lib.hid ⟨0, rfl⟩⟩
    case round =>
      obtain ⟨k, hk, rfl, HT, HW⟩ := hrel
      by_cases hke : k = A.length
      · have hl : ¬ (k : Int) < (A.length : Int) := by omega
        have HE := Lib.hid (show A = B by have := HT.out; rw [hke, List.take_length, HAB.out, List.take_length] at this; exact this)
        clear hke hk
        go_wp2
        go_ret
        exact ⟨by rw [decide_eq_true HE.out]; rfl, HW.out⟩
      · have hkl : k < A.length := by omega
        have hkb : k < B.length := by have := HAB.out; omega
        have hl : (k : Int) < (A.length : Int) := by omega
        have i0 : (0 : Int) ≤ (k : Int) := by omega
        obtain ⟨b1, o1, a1, c1, rfl, e1, m1⟩ := rows_at HA.out k hkl
        obtain ⟨b2, o2, a2, c2, rfl, e2, m2⟩ := rows_at HB.out k hkb
        obtain ⟨q, hq⟩ := HW.out
        have f1 : wr.cell? ⟨b1, o1 + k, none⟩ = some (.slice a1 (A[k]).length c1) := by rw [hq]; exact e1
        have f2 : wr.cell? ⟨b2, o2 + k, none⟩ = some (.slice a2 (B[k]).length c2) := by rw [hq]; exact e2
        have hx : (A[k]).length ≤ 1000 := SA.out _ (List.getElem_mem hkl)
        have hy : (B[k]).length ≤ 1000 := SB.out _ (List.getElem_mem hkb)
        obtain ⟨X, hX⟩ : ∃ X, A[k] = X := ⟨_, rfl⟩
        obtain ⟨Y, hY⟩ : ∃ Y, B[k] = Y := ⟨_, rfl⟩
        rw [hX] at f1 m1 hx
        rw [hY] at f2 m2 hy
        have HX := Lib.hid hX
        have HY := Lib.hid hY
        have M1 := Lib.hid m1
        have M2 := Lib.hid m2
        have HQ := Lib.hid hq
        have nx : (X.length : Int) ≤ 1000 := by omega
        have ny : (Y.length : Int) ≤ 1000 := by omega
        clear e1 e2 m1 m2 hX hY hq hke hk hx hy
        by_cases hxy : X.length = Y.length
        · have HXY := Lib.hid hxy
          have hne : ((X.length : Int) != (Y.length : Int)) = false := by simp [hxy]
          go_wp2
          go_quiet (fail)
          go_wp2
          go_loopw [6] (fun i wr2 => ∃ p : Nat, p ≤ X.length ∧ i = .int .i64 (p : Int) ∧ Hid (X.take p = Y.take p) ∧ Hid (∃ q, wr2 = w.drewN q)) (fun i _ => (X.length : Int).toNat - (intOf i).toNat)
          case atStart => exact ⟨0, Nat.zero_le _, rfl, Lib.hid (by simp), Lib.hid ⟨q + nq, by rw [HQ.out]; exact drewN_add _ _ _⟩⟩
          case round =>
            obtain ⟨p, hp, rfl, HP, HV⟩ := hrel
            obtain ⟨q2, hq2⟩ := HV.out
            have g1 : wr.cell? ⟨b1, o1 + k, none⟩ = some (.slice a1 X.length c1) := by rw [hq2]; have := f1; rw [HQ.out] at this; exact this
            have g2 : wr.cell? ⟨b2, o2 + k, none⟩ = some (.slice a2 Y.length c2) := by rw [hq2]; have := f2; rw [HQ.out] at this; exact this
            by_cases hpe : p = X.length
            · have hl2 : ¬ (p : Int) < (X.length : Int) := by omega
              have HE := Lib.hid (show A.take (k + 1) = B.take (k + 1) by
                have hxe : X = Y := by have := HP.out; rw [hpe, List.take_length, HXY.out, List.take_length] at this; exact this
                rw [← List.take_append_getElem hkl, ← List.take_append_getElem hkb, HT.out, HX.out, HY.out, hxe])
              clear hpe hp hq2
              go_wp2
              go_roundw
              case rel => exact ⟨k + 1, hkl, by go_num, HE, HV⟩
              case measure => simp [intOf] <;> omega
            · have hpl : p < X.length := by omega
              have hpm : p < Y.length := by omega
              have hl2 : (p : Int) < (X.length : Int) := by omega
              have hl3 : (p : Int) < (Y.length : Int) := by omega
              have p0 : (0 : Int) ≤ (p : Int) := by omega
              obtain ⟨d1, r1, rfl, h1⟩ := nums_at M1.out p hpl
              obtain ⟨d2, r2, rfl, h2⟩ := nums_at M2.out p hpm
              have j1 : wr.cell? ⟨d1, r1 + p, none⟩ = some (.int .u64 (X[p] : Int)) := by rw [hq2]; exact h1
              have j2 : wr.cell? ⟨d2, r2 + p, none⟩ = some (.int .u64 (Y[p] : Int)) := by rw [hq2]; exact h2
              obtain ⟨x, hx⟩ : ∃ x, X[p] = x := ⟨_, rfl⟩
              obtain ⟨y, hy⟩ : ∃ y, Y[p] = y := ⟨_, rfl⟩
              rw [hx] at j1
              rw [hy] at j2
              have HX2 := Lib.hid hx
              have HY2 := Lib.hid hy
              have HQ2 := Lib.hid hq2
              clear h1 h2 hx hy hq2 hpe hp f1 f2
              by_cases hxy2 : x = y
              · subst hxy2
                have hne2 : ((x : Int) != (x : Int)) = false := by simp
                go_wp2
                go_quiet (fail)
                go_wp2
                go_roundw
                case rel => exact ⟨p + 1, hpl, by go_num, Lib.hid (by rw [← List.take_append_getElem hpl, ← List.take_append_getElem hpm, HP.out, HX2.out, HY2.out]), Lib.hid ⟨q2 + nq, by rw [HQ2.out]; exact drewN_add _ _ _⟩⟩
                case measure => simp [intOf] <;> omega
              · have hne2 : ((x : Int) != (y : Int)) = true := by rw [bne_iff_ne]; omega
                have HNE := Lib.hid (show A ≠ B by
                  intro e
                  subst e
                  have e1 : X = Y := HX.out.symm.trans HY.out
                  subst e1
                  exact hxy2 (HX2.out.symm.trans HY2.out))
                clear hxy2
                go_wp2
                go_quiet (fail)
                go_wp2
                go_ret
                exact ⟨by rw [decide_eq_false HNE.out]; rfl, q2 + nq, by rw [HQ2.out]; exact drewN_add _ _ _⟩
        · have hne : ((X.length : Int) != (Y.length : Int)) = true := by rw [bne_iff_ne]; omega
          have HNE := Lib.hid (show A ≠ B by
            intro e
            subst e
            have e1 : X = Y := HX.out.symm.trans HY.out
            subst e1
            exact hxy rfl)
          clear hxy
          go_wp2
          go_quiet (fail)
          go_wp2
          go_ret
          exact ⟨by rw [decide_eq_false HNE.out]; rfl, q + nq, by rw [HQ.out]; exact drewN_add _ _ _⟩
  · have hl : ((A.length : Int) != (B.length : Int)) = true := by rw [bne_iff_ne]; omega
    have HNE := Lib.hid (show A ≠ B from fun e => hab (by rw [e]))
    clear hab
    go_enter Try.func18, Try.ntmps18
    go_wp2
    go_ret
    exact ⟨by rw [decide_eq_false HNE.out]; rfl, 0, rfl⟩
end Go.Proofs.Ytcobflhnphikaaa
