/- Do known leaves and needed places come to the root? The law's own search. -/
import Derived.Test.YtcobflhnphikaaaHu
import Derived.Maps.OwnOps
namespace Go.Proofs.Ytcobflhnphikaaa
open Go.RowKit Go.Sort Go.WideShapes Go.MapKept
open Go.Maps (Keyed)

abbrev OnesU (b n : Nat) (K : List Nat) (w : World) : Prop := OnesAt Try.prog 22 3 b n K w
theorem OnesU.look_in {b n : Nat} {K : List Nat} {w : World} (h : OnesU b n K w) {k : Nat} (hk : k < 18446744073709551616) (hm : k ∈ K) : (Instr.lookup 52 (.map (some b)) (.int .u64 (k : Int)) false).run Try.prog w = .ok (.int .i64 1) w := by
  obtain ⟨D, hown, hD⟩ := h
  obtain ⟨c, hrun, hat, _⟩ := hown.lookup_int keyU Try.underlying52 Try.underlying3 (Try.zeroValue3 _) (key_of hk)
  have := hD k
  rw [if_pos hm, hat] at this
  cases this
  exact hrun
theorem OnesU.look_out {b n : Nat} {K : List Nat} {w : World} (h : OnesU b n K w) {k : Nat} (hk : k < 18446744073709551616) (hm : k ∉ K) : (Instr.lookup 52 (.map (some b)) (.int .u64 (k : Int)) false).run Try.prog w = .ok (.int .i64 0) w := by
  obtain ⟨D, hown, hD⟩ := h
  obtain ⟨c, hrun, hat, _⟩ := hown.lookup_int keyU Try.underlying52 Try.underlying3 (Try.zeroValue3 _) (key_of hk)
  have := hD k
  rw [if_neg hm, hat] at this
  cases this
  exact hrun
theorem OnesU.put {b n : Nat} {K : List Nat} {w : World} (h : OnesU b n K w) (hn : n ≤ 100000) {x : Nat} (hx : x < 18446744073709551616) :
    ∃ w', (Instr.mapUpdate 52 (.map (some b)) (.int .u64 (x : Int)) (.int .i64 1)).run Try.prog w = .ok () w' ∧ OnesU b (n + 1) (K ++ [x]) w' ∧ w.grownBy w' (some b) := by
  obtain ⟨D, hown, hD⟩ := h
  obtain ⟨w', h1, h2, h3⟩ := hown.update keyU Try.underlying52 (by unfold maxLen; omega) (key_of hx) (plainElem_int Try.underlying3 (show (Lit.int .i64 1).wf = true by decide))
  exact ⟨w', h1, OnesAt.push hown hD h2, h3⟩
/-- was none of so many left out? -/
def outB (q : Int) (n : Nat) : Bool := decide (q < 0 ∨ (n : Int) ≤ q)
/-- how many needed places lie on the first i levels -/
def pre (M : List (List Nat)) (i : Nat) : Nat := ((M.take i).map List.length).sum
theorem pre_succ {M : List (List Nat)} {i : Nat} (h : i < M.length) : pre M (i + 1) = pre M i + (M[i]).length := by
  unfold pre
  rw [← List.take_append_getElem h, List.map_append, List.sum_append]
  simp
theorem pre_le {M : List (List Nat)} (h : ∀ N ∈ M, N.length ≤ 12) : ∀ i, i ≤ M.length → pre M i ≤ 12 * i
  | 0, _ => by simp [pre]
  | i + 1, hi => by
    have := pre_le h i (by omega)
    have := h _ (List.getElem_mem (show i < M.length by omega))
    rw [pre_succ (by omega)]
    omega
theorem below_row {w w1 w2 : World} {b : Nat} (h : Below w.heap.size w w1) (g : w1.grownBy w2 (some b)) (hb : w.heap.size ≤ b) : Below w.heap.size w w2 :=
  ⟨g.os.trans h.os, g.tape.trans h.tape, g.output.trans h.output, Nat.le_trans h.size g.size, fun j hj => (g.block j (by have := h.size; omega) (fun e => by cases e; omega)).trans (h.block j hj)⟩
theorem x_skip {A X : List Nat} {t : Nat} (h : ∀ x, x ∈ X ↔ x < t ∧ 2 * x ∈ A ∧ 2 * x + 1 ∈ A) (hn : ¬ (2 * t ∈ A ∧ 2 * t + 1 ∈ A)) : ∀ x, x ∈ X ↔ x < t + 1 ∧ 2 * x ∈ A ∧ 2 * x + 1 ∈ A := by
  intro x
  rw [h x]
  constructor
  · rintro ⟨h1, h2⟩; exact ⟨by omega, h2⟩
  · rintro ⟨h1, h2⟩
    by_cases e : x = t
    · subst e; exact absurd h2 hn
    · exact ⟨by omega, h2⟩
theorem Stand.sub {L C : List Nat} {q : Int} {i n x : Nat} (h : Stand L q i n C) (hx : x ∈ C) : x ∈ upTo L i := by
  rcases h with ⟨_, h⟩ | ⟨_, _, p, _, h⟩
  · exact (h x).1 hx
  · exact ((h x).1 hx).1
set_option maxRecDepth 100000 in
set_option maxHeartbeats 1000000 in
theorem comes_any (ao bo : Option Addr) (ca cb : Nat) (L : List Nat) (M : List (List Nat)) (d : Nat) (q : Int) (w : World) (hN : Nums ao L w) (hM : Rows2 bo M w) (hNd : Needs L d M) (h12 : ∀ N ∈ M, N.length ≤ 12) (h0 : L ≠ []) (hn : L.length ≤ 12) (hs : ∀ x ∈ L, x < 2 ^ d) (hd : d ≤ 7) :
    Calls Try.prog 21 #[.slice ao L.length ca, .slice bo M.length cb, .int .i64 (d : Int), .int .i64 q] w fun e w' => e = .returned (.bool (outB q (pre M d))) ∧ Below w.heap.size w w' := by
  have hp7 : 2 ^ d ≤ 2 ^ 7 := Nat.pow_le_pow_right (by decide) hd
  have HL := Lib.hid (show ∀ x ∈ L, x < 18446744073709551616 from fun x hx => by have := hs x hx; omega)
  have HS := Lib.hid hs
  have HN := Lib.hid hN
  have HM := Lib.hid hM
  have HD := Lib.hid hNd
  have H12 := Lib.hid h12
  have H0 := Lib.hid h0
  have n1 : (L.length : Int) ≤ 12 := by omega
  have hmm := @run_makeMap Try.prog
  have HO0 := Lib.hid (OnesAt.made Try.prog 22 3 w)
  clear hN hM hNd h12 h0 hs hp7
  go_enter Try.func21, Try.ntmps21
  go_wp2
  go_loopw [10] (fun i wr => ∃ k : Nat, k ≤ L.length ∧ i = .int .i64 (k : Int) ∧ Hid (OnesU w.heap.size k (L.take k) wr) ∧ Hid (Below w.heap.size w wr)) (fun i _ => (L.length : Int).toNat - (intOf i).toNat)
  case atStart => exact ⟨0, Nat.zero_le _, rfl, HO0, Lib.hid ((Below.refl _ _).alloc (Nat.le_refl _) _)⟩
  case round =>
    obtain ⟨k, hk, rfl, HT, HB⟩ := hrel
    by_cases hke : k = L.length
    · have hl : ¬ (k : Int) < (L.length : Int) := by omega
      have HE := Lib.hid (show OnesU w.heap.size 12 (upTo L 0) wr by have := HT.out; rw [hke, List.take_length] at this; rw [upTo_zero]; obtain ⟨D, h1, h2⟩ := this; exact ⟨D, h1.mono hn, h2⟩)
      clear hke hk HT HO0
      go_wp2
      have HM1 := Lib.hid (rows_next HM.out HB.out)
      clear hl
      go_loopw [9, 11, 12] (fun vm vn vi wr => ∃ (b cnt i : Nat) (C : List Nat), vm = .map (some b) ∧ vn = .int .i64 (pre M i : Int) ∧ vi = .int .i64 (i : Int) ∧ i ≤ d ∧ w.heap.size ≤ b ∧ cnt ≤ 100 ∧ Hid (OnesU b cnt C wr) ∧ Hid (Below w.heap.size w wr) ∧ Hid (Stand L q i (pre M i) C)) (fun _ _ vi _ => d - (intOf vi).toNat)
      case atStart => exact ⟨w.heap.size, 12, 0, upTo L 0, rfl, rfl, rfl, Nat.zero_le _, Nat.le_refl _, by omega, HE, HB, Lib.hid (Stand.start fun x => by rw [upTo_zero])⟩
      case round =>
        obtain ⟨b, cnt, i, C, rfl, rfl, rfl, hi, hb, hcnt, HO, HB, HT⟩ := hrel
        by_cases hie : i = d
        · have hl : ¬ (i : Int) < (d : Int) := by omega
          have HR := Lib.hid (show 0 ∈ C ↔ (q < 0 ∨ (pre M d : Int) ≤ q) by have := HT.out; rw [hie] at this; exact this.root H0.out HS.out)
          by_cases h0 : 0 ∈ C
          · have hrun := HO.out.look_in (k := 0) (by omega) h0
            rw [show ((0 : Nat) : Int) = 0 from rfl] at hrun
            go_wp2
            go_ret
            exact ⟨by rw [show outB q (pre M d) = true from decide_eq_true (HR.out.1 h0)]; rfl, HB.out⟩
          · have hrun := HO.out.look_out (k := 0) (by omega) h0
            rw [show ((0 : Nat) : Int) = 0 from rfl] at hrun
            go_wp2
            go_ret
            exact ⟨by rw [show outB q (pre M d) = false from decide_eq_false (fun h => h0 (HR.out.2 h))]; rfl, HB.out⟩
        · have hid : i < d := by omega
          have hl : (i : Int) < (d : Int) := by omega
          have hiM : i < M.length := by have := HD.out.1; omega
          have hlM : (i : Int) < (M.length : Int) := by omega
          have i0 : (0 : Int) ≤ (i : Int) := by omega
          obtain ⟨N, hN⟩ : ∃ N, M[i] = N := ⟨_, rfl⟩
          have HNd := Lib.hid (show Need (upTo L i) N from HD.out.2 i N (by rw [← hN]; exact List.getElem?_eq_getElem hiM))
          have hN12 : N.length ≤ 12 := by rw [← hN]; exact H12.out _ (List.getElem_mem hiM)
          have HN64 := Lib.hid (show ∀ x ∈ N, x < 18446744073709551616 from fun x hx => by
            have h1 := ((HNd.out.2 x).1 hx).1
            have h2 := upTo_lt HS.out (Nat.le_of_lt hid) h1
            have h3 : 2 ^ (d - i) ≤ 2 ^ 7 := Nat.pow_le_pow_right (by decide) (by omega)
            have h4 := sib_lt64 (k := sib x) (by omega)
            rwa [sib_sib] at h4)
          have hp84 : pre M i ≤ 84 := by have := pre_le H12.out i (by omega); omega
          have HPS := Lib.hid (show pre M (i + 1) = pre M i + N.length by rw [← hN]; exact pre_succ hiM)
          have HNe := Lib.hid hN
          have hpi : (pre M i : Int) ≤ 84 := by omega
          have hni : (N.length : Int) ≤ 12 := by omega
          have HOm := Lib.hid (OnesAt.made Try.prog 22 3 wr)
          have HOb := Lib.hid (HO.out.kept (World.grownBy_alloc wr (.map #[] 0) none) (by simp))
          have HBa := Lib.hid ((HB.out).alloc HB.out.size (.map #[] 0))
          have hbm : b < wr.heap.size := HO.out.lt
          have HWZ := Lib.hid HB.out.size
          obtain ⟨P, hP⟩ : ∃ P, P = 2 ^ (d - i - 1) := ⟨_, rfl⟩
          have hP2 : 2 ^ (d - i) = 2 * P := by rw [hP, show d - i = d - i - 1 + 1 by omega, Nat.pow_succ, Nat.mul_comm]; simp
          have hP7 : 2 ^ (d - i) ≤ 2 ^ 7 := Nat.pow_le_pow_right (by decide) (by omega)
          have hPb : P ≤ 64 := by omega
          have hw : IntKind.u64.wrap ((2 : Int) ^ (d - i)) = 2 * (P : Int) := by
            rw [show ((2 : Int) ^ (d - i)) = ((2 ^ (d - i) : Nat) : Int) by simp, hP2, IntKind.wrap_u64]
            omega
          have HP2 := Lib.hid hP2
          clear hP hP7 hP2
          clear hN
          go_wp2
          generalize wr = wa at *
          go_loopw [11, 14] (fun vn vj wr2 => ∃ (j c : Nat) (A : List Nat), vn = .int .i64 ((pre M i + j : Nat) : Int) ∧ vj = .int .i64 (j : Int) ∧ j ≤ N.length ∧ c ≤ 100 + j ∧ Hid (OnesU b c A wr2) ∧ Hid (OnesU wa.heap.size 0 [] wr2) ∧ Hid (Below w.heap.size w wr2) ∧ Hid (Added q (pre M i) N C j A)) (fun _ vj _ => N.length - (intOf vj).toNat)
          case atStart => exact ⟨0, cnt, C, rfl, rfl, Nat.zero_le _, by omega, HOb, HOm, HBa, Lib.hid (Added.start _ _ _ _)⟩
          case round =>
            obtain ⟨j, c, A, rfl, rfl, hj, hc, HOj, HMj, HBj, HAj⟩ := hrel
            obtain ⟨b1, o1, a1, c1, hbo, e1, m1⟩ := rows_at (rows_next HM.out HBj.out) i hiM
            rw [HNe.out] at e1 m1
            subst hbo
            have HN1 := Lib.hid m1
            clear m1
            by_cases hjn : j = N.length
            · have hlj : ¬ (j : Int) < (N.length : Int) := by omega
              have HA := Lib.hid (show Added q (pre M i) N C N.length A by have := HAj.out; rw [hjn] at this; exact this)
              go_wp2
              generalize wr = wb at *
              go_loopw [15] (fun vk wr3 => ∃ (t c2 : Nat) (X : List Nat), vk = .int .u64 ((2 * t : Nat) : Int) ∧ t ≤ P ∧ Hid (OnesU b c A wr3) ∧ Hid (OnesU wa.heap.size c2 X wr3) ∧ c2 ≤ t ∧ Hid (Below w.heap.size w wr3) ∧ Hid (∀ x, x ∈ X ↔ x < t ∧ 2 * x ∈ A ∧ 2 * x + 1 ∈ A)) (fun vk _ => 256 - (intOf vk).toNat)
              case atStart => exact ⟨0, 0, [], rfl, by omega, HOj, HMj, by omega, HBj, Lib.hid (by simp)⟩
              case round =>
                obtain ⟨t, c2, X, rfl, ht, HO3, HM3, hc2, HB3, HX3⟩ := hrel
                by_cases htP : t = P
                · have hlt : ¬ 2 * (t : Int) < 2 * (P : Int) := by omega
                  have HC := Lib.hid (show Stand L q (i + 1) (pre M (i + 1)) X by
                    rw [HPS.out]
                    refine HT.out.next HNd.out HA.out fun x => ?_
                    rw [HX3.out x]
                    refine ⟨fun h => h.2, fun h => ⟨?_, h⟩⟩
                    have h1 : 2 * x < 2 ^ (d - i) := by
                      rcases (HA.out (2 * x)).1 h.1 with g | ⟨u, _, g, _⟩
                      · exact upTo_lt HS.out (Nat.le_of_lt hid) (HT.out.sub g)
                      · have g1 := ((HNd.out.2 _).1 (List.mem_of_getElem? g)).1
                        have g2 := upTo_lt HS.out (Nat.le_of_lt hid) g1
                        have g3 := sib_lt (k := sib (2 * x)) (d := d - i - 1) (by rwa [show d - i - 1 + 1 = d - i by omega])
                        rwa [sib_sib, show d - i - 1 + 1 = d - i by omega] at g3
                    have := HP2.out
                    omega)
                  go_wp2
                  go_roundw
                  case rel => exact ⟨wa.heap.size, c2, i + 1, X, rfl, by rw [HPS.out]; go_num, by go_num, by omega, HWZ.out, by omega, HM3, HB3, HC⟩
                  case measure => simp [intOf] <;> omega
                · have hlt : 2 * (t : Int) < 2 * (P : Int) := by omega
                  by_cases ha : 2 * t ∈ A
                  · have hr1 := HO3.out.look_in (k := 2 * t) (by omega) ha
                    by_cases hb : 2 * t + 1 ∈ A
                    · have hr2 := HO3.out.look_in (k := 2 * t + 1) (by omega) hb
                      obtain ⟨w2, hrun, ho, hg⟩ := HM3.out.put (x := t) (by omega) (by omega)
                      have HM2 := Lib.hid ho
                      have HO2 := Lib.hid (HO3.out.kept hg (fun e => by cases e; omega))
                      have HB2 := Lib.hid (below_row HB3.out hg HWZ.out)
                      have HXn := Lib.hid (show ∀ x, x ∈ X ++ [t] ↔ x < t + 1 ∧ 2 * x ∈ A ∧ 2 * x + 1 ∈ A from fun x => by
                        rw [List.mem_append, HX3.out x]
                        constructor
                        · rintro (⟨h1, h2⟩ | h)
                          · exact ⟨by omega, h2⟩
                          · simp at h; subst h; exact ⟨by omega, ha, hb⟩
                        · rintro ⟨h1, h2⟩
                          by_cases e : x = t
                          · exact .inr (by simp [e])
                          · exact .inl ⟨by omega, h2⟩)
                      rw [show ((2 * t : Nat) : Int) = 2 * (t : Int) by omega] at hr1
                      rw [show ((2 * t + 1 : Nat) : Int) = 2 * (t : Int) + 1 by omega] at hr2
                      clear ha hb ho hg
                      go_wp2
                      go_roundw
                      case rel => exact ⟨t + 1, c2 + 1, _, by go_num, by omega, HO2, HM2, by omega, HB2, HXn⟩
                      case measure => simp [intOf] <;> omega
                    · have hr2 := HO3.out.look_out (k := 2 * t + 1) (by omega) hb
                      have HXn := Lib.hid (x_skip HX3.out (fun h => hb h.2))
                      rw [show ((2 * t : Nat) : Int) = 2 * (t : Int) by omega] at hr1
                      rw [show ((2 * t + 1 : Nat) : Int) = 2 * (t : Int) + 1 by omega] at hr2
                      clear ha hb
                      go_wp2
                      go_roundw
                      case rel => exact ⟨t + 1, c2, _, by go_num, by omega, HO3, HM3, by omega, HB3, HXn⟩
                      case measure => simp [intOf] <;> omega
                  · have hr1 := HO3.out.look_out (k := 2 * t) (by omega) ha
                    have HXn := Lib.hid (x_skip HX3.out (fun h => ha h.1))
                    rw [show ((2 * t : Nat) : Int) = 2 * (t : Int) by omega] at hr1
                    clear ha
                    go_wp2
                    go_roundw
                    case rel => exact ⟨t + 1, c2, _, by go_num, by omega, HO3, HM3, by omega, HB3, HXn⟩
                    case measure => simp [intOf] <;> omega
            · have hjl : j < N.length := by omega
              have hlj : (j : Int) < (N.length : Int) := by omega
              have j0 : (0 : Int) ≤ (j : Int) := by omega
              obtain ⟨x, hx⟩ : ∃ x, N[j] = x := ⟨_, rfl⟩
              have hx64 : x < 18446744073709551616 := hx ▸ HN64.out _ (List.getElem_mem hjl)
              have HX := Lib.hid (show N[j]? = some x by rw [← hx]; exact List.getElem?_eq_getElem hjl)
              obtain ⟨b2, o2, hb2, e2⟩ := nums_at HN1.out j hjl
              rw [hx] at e2
              subst hb2
              by_cases hq : ((pre M i + j : Nat) : Int) = q
              · have hne : (((pre M i : Nat) : Int) + (j : Int) != q) = false := by simp; omega
                have HA := Lib.hid (HAj.out.skip (N := N) hq)
                clear hq
                go_wp2
                go_roundw
                case rel => exact ⟨j + 1, c, A, by go_num, by go_num, hjl, by omega, HOj, HMj, HBj, HA⟩
                case measure => simp [intOf] <;> omega
              · have hne : (((pre M i : Nat) : Int) + (j : Int) != q) = true := by simp; omega
                have HA := Lib.hid (HAj.out.push HX.out hq)
                obtain ⟨w2, hrun, ho, hg⟩ := HOj.out.put (by omega) hx64
                have HO2 := Lib.hid ho
                have HM2 := Lib.hid (HMj.out.kept hg (fun e => by cases e; omega))
                have HB2 := Lib.hid (below_row HBj.out hg hb)
                clear hq ho hg hx
                go_wp2
                go_roundw
                case rel => exact ⟨j + 1, c + 1, _, by go_num, by go_num, hjl, by omega, HO2, HM2, HB2, HA⟩
                case measure => simp [intOf] <;> omega
    · have hkl : k < L.length := by omega
      have hl : (k : Int) < (L.length : Int) := by omega
      have i0 : (0 : Int) ≤ (k : Int) := by omega
      obtain ⟨x, hx⟩ : ∃ x, L[k] = x := ⟨_, rfl⟩
      have hx64 : x < 18446744073709551616 := hx ▸ HL.out _ (List.getElem_mem hkl)
      rcases HN.out with h0 | ⟨bb, off, rfl, hbb, hcell⟩
      · subst h0; simp at hkl
      · have hc : wr.cell? ⟨bb, off + k, none⟩ = some (.int .u64 (x : Int)) := by
          rw [HB.out.cell (p := ⟨bb, off + k, none⟩) hbb, ← hx]; exact hcell k hkl
        have HX := Lib.hid hx
        obtain ⟨w2, hrun, ho, hg⟩ := HT.out.put (by omega) hx64
        have HO2 := Lib.hid ho
        have HB2 := Lib.hid (below_row HB.out hg (Nat.le_refl _))
        clear hx hcell hke ho hg
        go_wp2
        go_roundw
        case rel =>
          refine ⟨k + 1, hkl, by go_num, Lib.hid ?_, HB2⟩
          have := HO2.out
          rw [← HX.out, List.take_append_getElem hkl] at this
          exact this
        case measure => simp [intOf] <;> omega
end Go.Proofs.Ytcobflhnphikaaa
