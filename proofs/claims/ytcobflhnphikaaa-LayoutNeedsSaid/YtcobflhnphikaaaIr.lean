/- What is needed of any leaves is as the document says. -/
import Derived.Test.YtcobflhnphikaaaIn
import Derived.Test.YtcobflhnphikaaaIq
import Derived.ProofKit
import Derived.OpenShut
import Derived.Deep.DeepHandedRow
namespace Go.Proofs.Ytcobflhnphikaaa
open Go.ChangeShapes Go.WideShapes Go.ChangeAt Go.RowKit Go.Sort

theorem cellsW : Try.prog.cellsOf 22 = 1 := by kernel_rfl
theorem openedW {H : Type} {enc : TypeId × Value → H} {W : World} {a0 : Option Addr} {len cap : Nat} {d0 : DataW H} {p0 : List MemPlace} (h : DataW.Trod enc Try.prog W 0 (fun _ => true) true 28 (.slice a0 len cap) d0 p0) :
    ∃ L : List Nat, L.length = len ∧ L.length ≤ maxLen ∧ ((∀ x ∈ L, x < 18446744073709551616) ∧ L.length ≤ cap) ∧ Nums a0 L W := by
  obtain ⟨fuel, hf⟩ := h
  rcases open_ints Try.underlying28 Try.underlying22 cellsW hf with ⟨hcs, hx⟩ | ⟨a, len', cap', zs, hcs, _, hl, hm, hz, hx, hcell, hws⟩
  · simp [Value.cells] at hcs
    obtain ⟨rfl, rfl, rfl⟩ := hcs
    exact ⟨[], rfl, Nat.zero_le _, ⟨by simp, Nat.zero_le _⟩, .inl rfl⟩
  · simp [Value.cells] at hcs
    obtain ⟨rfl, rfl, rfl⟩ := hcs
    have hz' : zs.length = cap := by simpa using hz
    have hb : ∀ z ∈ zs, 0 ≤ z ∧ z < 18446744073709551616 := fun z hz => by have := bounds_u64 (hws z hz); omega
    refine ⟨(zs.take len).map Int.toNat, by simp; omega, by simp; omega, ⟨fun x hx => ?_, by simp; omega⟩, ?_⟩
    · obtain ⟨z, hz, rfl⟩ := List.mem_map.1 hx
      have := hb z (List.mem_of_mem_take hz)
      omega
    · by_cases h0 : len = 0
      · subst h0; exact .inl (by simp)
      · obtain ⟨b, off, sp⟩ := a
        have hc0 := hcell 0 (by omega)
        have hsp : sp = none := by
          cases sp with
          | none => rfl
          | some x =>
            exfalso
            have e : (⟨b, off, some x⟩ : Addr).add 0 = ⟨b, off, some x⟩ := rfl
            rw [e] at hc0
            unfold World.cell? at hc0
            split at hc0 <;> simp at hc0
        subst hsp
        refine .inr ⟨b, off, rfl, World.block_lt_of_cell? W _ (by rw [show (⟨b, off, none⟩ : Addr).add 0 = ⟨b, off, none⟩ from rfl] at hc0; exact hc0), fun i hi => ?_⟩
        have hi2 : i < len := by have h := hi; simp at h; omega
        have := hcell i (by omega)
        rw [Addr.add_mid] at this
        have hbb := hb _ (List.getElem_mem (l := zs) (n := i) (by omega))
        rw [this, List.getElem_map, List.getElem_take, List.getD_eq_getElem?_getD, List.getElem?_eq_getElem (by omega)]
        congr 2
        simp only [Option.getD_some]
        omega
theorem Outs.rows {B : Nat} {L : List Nat} {v : Value} {d : Nat} {w : World} (h : Outs B L v d w) : ∃ ao cp Ms, v = .slice ao Ms.length cp ∧ Rows2 ao Ms w ∧ Needs L d Ms ∧ Ms.length = d ∧ ∀ N ∈ Ms, N.length ≤ 20 := by
  obtain ⟨vs, Ms, h1, h2, h3⟩ := h
  have hvl : vs.length = d := by simpa using h1.1
  have hall : ∀ i N, Ms[i]? = some N → ∃ x, vs[i]? = some x ∧ w.ownsRow B 22 1 x N.length (N.map encU) ∧ Need (upTo L i) N ∧ N.length ≤ 20 := by
    intro i N hN'
    have hi := (List.getElem?_eq_some_iff.1 hN').1
    obtain ⟨x, hx⟩ : ∃ x, vs[i]? = some x := ⟨_, List.getElem?_eq_getElem (by omega)⟩
    exact ⟨x, hx, h3 i x N hx hN'⟩
  have hNd : Needs L d Ms := ⟨h2, fun i N h => by obtain ⟨x, _, _, h4, _⟩ := hall i N h; exact h4⟩
  have h20 : ∀ N ∈ Ms, N.length ≤ 20 := fun N h => by
    obtain ⟨i, hi⟩ := List.getElem?_of_mem h
    obtain ⟨x, _, _, _, h4⟩ := hall i N hi
    exact h4
  have h1' := h1
  rcases h1.2 with ⟨rfl, hd0⟩ | ⟨g, cap, cur, rfl, _⟩
  · have : Ms = [] := List.length_eq_zero_iff.1 (by omega)
    subst this
    exact ⟨none, 0, [], rfl, .inl rfl, hNd, h2, h20⟩
  · refine ⟨some ⟨g, 0, none⟩, cap, Ms, by rw [h2], .inr ⟨g, 0, rfl, fun i hi => ?_⟩, hNd, h2, h20⟩
    obtain ⟨x, hx, hrow, _⟩ := hall i Ms[i] (List.getElem?_eq_getElem hi)
    obtain ⟨ai, ci, rfl, hn3, _⟩ := nums_of_row hrow
    refine ⟨ai, ci, ?_, hn3⟩
    rw [Nat.zero_add]
    exact (h1'.cellAt i (by omega)).trans hx
set_option maxRecDepth 100000 in
set_option maxHeartbeats 2000000 in
theorem needsLaw_any (ao : Option Addr) (cap : Nat) (L : List Nat) (_hm : L.length ≤ maxLen) (hL : (∀ x ∈ L, x < 18446744073709551616) ∧ L.length ≤ cap) (d : Int) (w : World) (hN : Nums ao L w) :
    Calls Try.prog 4 #[.slice ao L.length cap, .int .i64 d] w fun e w' => e = .returned (.bool true) ∧ Below w.heap.size w w' := by
  obtain ⟨T, hT⟩ : ∃ T, T = L.take 20 := ⟨_, rfl⟩
  have hTl : T.length = min L.length 20 := by rw [hT, List.length_take]; omega
  have hT20 : T.length ≤ 20 := by omega
  have hNT : Nums ao T w := by
    rcases hN with h | ⟨b, off, rfl, h2, h3⟩
    · exact .inl (by rw [hT, h]; rfl)
    · refine .inr ⟨b, off, rfl, h2, fun i hi => ?_⟩
      subst hT
      rw [List.getElem_take]
      exact h3 i (by rw [List.length_take] at hi; omega)
  have hT64 : ∀ x ∈ T, x < 18446744073709551616 := fun x hx => hL.1 x (by rw [hT] at hx; exact List.mem_of_mem_take hx)
  have emin : min (L.length : Int) 20 = (T.length : Int) := by omega
  have htc : (T.length : Int) ≤ (cap : Int) := by have := hL.2; omega
  have t0 : (0 : Int) ≤ (T.length : Int) := by omega

  clear hT hTl hN hL
  have HWk := Lib.hid (fun w => works_any w)
  by_cases hst : T ≠ [] ∧ 0 ≤ d ∧ d ≤ 16 ∧ ∀ x ∈ T, standsB x d = true
  · obtain ⟨g0, g1, g2, g3⟩ := hst
    obtain ⟨n, rfl⟩ : ∃ n : Nat, d = (n : Int) := ⟨d.toNat, by omega⟩
    have HP := Lib.hid (needs20_law ao cap T n w hNT hT64 g0 hT20 g3 (by omega))
    have HR := Lib.hid (fun w' (hb : Below w.heap.size w w') => refNeeds_any ao cap T n w' (nums_next hNT hb) hT20 g0 (by omega) (fun x hx => by have := g3 x hx; simp [standsB] at this; exact this.2))
    have n16 : n ≤ 16 := by omega
    clear g0 g1 g2 g3 hNT hT64
    go_enter Try.func4, Try.ntmps4
    go_wp2_with fail
    refine HP.out.mono ?_
    rintro e w1 ⟨bo, cp, Ms, rfl, h1, h2, h3, h4⟩
    have HM := Lib.hid (And.intro h1 (And.intro h2 (And.intro h3 h4)))
    clear h1 h2 h3 h4
    go_wp2_with fail
    refine (HR.out _ HM.out.2.2.2).mono ?_
    rintro e w2 ⟨v, rfl, ho, hb2⟩
    obtain ⟨a2, c2, Ms2, rfl, r1, r2, r3, r4⟩ := ho.rows
    obtain rfl := r2.eq HM.out.1
    have HB2 := Lib.hid (HM.out.2.2.2.trans (hb2.mono HM.out.2.2.2.size))
    have HSm := Lib.hid (same_any bo a2 cp c2 Ms2 Ms2 w2 (rows_next HM.out.2.2.1 hb2) r1 (by omega) (by omega) (fun x hx => by have := r4 x hx; omega) (fun x hx => by have := r4 x hx; omega))
    rw [decide_eq_true rfl] at HSm
    clear r1 r2 r3 r4 ho hb2
    go_wp2_with (first
      | (go_at_call 18; refine HSm.out.mono ?_; rintro e w3 ⟨rfl, q, rfl⟩)
      | (go_at_call 17; refine (HWk.out _).mono ?_; rintro e w4 ⟨rfl, hb4⟩))
    go_ret
    exact ⟨rfl, (HB2.out.trans (show Below w.heap.size w2 (w2.drewN q) from ⟨rfl, rfl, rfl, Nat.le_refl _, fun _ _ => rfl⟩)).trans (hb4.mono HB2.out.size)⟩
  · have HP := Lib.hid (needs_none ao cap T d w hNT (by omega) (by
      by_cases c0 : T = []
      · exact .inl c0
      · refine .inr ?_
        rcases Classical.em (∃ x ∈ T, standsB x d = false) with c | c
        · exact c
        · exfalso
          obtain ⟨x, hx⟩ := List.exists_mem_of_ne_nil T c0
          have hall : ∀ x ∈ T, standsB x d = true := fun x hx => by
            cases e : standsB x d with
            | true => rfl
            | false => exact absurd ⟨x, hx, e⟩ c
          have := hall x hx
          simp [standsB] at this
          exact hst ⟨c0, this.1, this.2.1, hall⟩))
    have HR := Lib.hid (show ∀ w', Below w.heap.size w w' → Calls Try.prog 20 #[.slice ao T.length cap, .int .i64 d] w' fun e w'' => e = .returned (.slice none 0 0) ∧ Below w'.heap.size w' w'' from fun w' hb => by
      by_cases c0 : T = []
      · exact refNeeds_off ao T.length cap hT20 d w' (.inr (.inr (by rw [c0]; rfl)))
      · by_cases c1 : d < 0
        · exact refNeeds_off ao T.length cap hT20 d w' (.inl c1)
        · by_cases c2 : 16 < d
          · exact refNeeds_off ao T.length cap hT20 d w' (.inr (.inl c2))
          · obtain ⟨n, rfl⟩ : ∃ n : Nat, d = (n : Int) := ⟨d.toNat, by omega⟩
            refine refNeeds_bad ao cap T n w' (nums_next hNT hb) hT20 (by omega) ?_
            rcases Classical.em (∃ x ∈ T, ¬ x < 2 ^ n) with c | c
            · exact c
            · exact absurd ⟨c0, by omega, by omega, fun x hx => by
                have : x < 2 ^ n := Classical.byContradiction fun h => c ⟨x, hx, h⟩
                simp [standsB, this]; omega⟩ hst)
    clear hst hNT hT64
    go_enter Try.func4, Try.ntmps4
    go_wp2_with fail
    refine HP.out.mono ?_
    rintro e w1 ⟨rfl, hb1⟩
    go_wp2_with fail
    refine (HR.out _ hb1).mono ?_
    rintro e w2 ⟨rfl, hb2⟩
    have HB2 := Lib.hid (hb1.trans (hb2.mono hb1.size))
    have HSm := Lib.hid (show Calls Try.prog 18 #[.slice none 0 0, .slice none 0 0] w2 fun e w' => e = .returned (.bool true) ∧ ∃ q, w' = w2.drewN q from same_any none none 0 0 [] [] w2 (.inl rfl) (.inl rfl) (by decide) (by decide) (by simp) (by simp))
    clear hb1 hb2
    go_wp2_with (first
      | (go_at_call 18; refine HSm.out.mono ?_; rintro e w3 ⟨rfl, q, rfl⟩)
      | (go_at_call 17; refine (HWk.out _).mono ?_; rintro e w4 ⟨rfl, hb4⟩))
    go_ret
    exact ⟨rfl, (HB2.out.trans (show Below w.heap.size w2 (w2.drewN q) from ⟨rfl, rfl, rfl, Nat.le_refl _, fun _ _ => rfl⟩)).trans (hb4.mono HB2.out.size)⟩
end Go.Proofs.Ytcobflhnphikaaa
