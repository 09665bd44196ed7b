/- An argument that is an array of four limbs: opened as one number, and shut again. -/
import Derived.Test.YtiglhgcckceikaaRows
import Derived.Test.YtiglhgcckceikaaWc
import Derived.ProofKit
import Derived.OpenShut
import Derived.Deep.DeepHandedRow
namespace Go.Proofs.Ytiglhgcckceikaa
open Go.ChangeShapes Go.WideShapes Go.ChangeAt Go.RowKit
theorem cells_u256 : Try.prog.cellsOf 24 = 4 := by kernel_rfl
theorem cells_u64 : Try.prog.cellsOf 22 = 1 := by kernel_rfl
theorem open_list4 {α : Type} (l : List α) (h : (⟨l⟩ : Array α).size = 4) : ∃ a b c d, l = [a, b, c, d] := by
  match l, h with
  | [a, b, c, d], _ => exact ⟨a, b, c, d, rfl⟩
theorem one_number (x0 x1 x2 x3 : Int) (h0 : 0 ≤ x0 ∧ x0 < 18446744073709551616) (h1 : 0 ≤ x1 ∧ x1 < 18446744073709551616) (h2 : 0 ≤ x2 ∧ x2 < 18446744073709551616) (h3 : 0 ≤ x3 ∧ x3 < 18446744073709551616) :
    ∃ x, In 4 x ∧ (#[.int .u64 x0, .int .u64 x1, .int .u64 x2, .int .u64 x3] : Array Value) = #[.int .u64 (d x 0), .int .u64 (d x 1), .int .u64 (d x 2), .int .u64 (d x 3)] := by
  let a : Nat → Int := fun i => if i = 0 then x0 else if i = 1 then x1 else if i = 2 then x2 else x3
  have ha : ∀ i < 4, 0 ≤ a i ∧ a i < 18446744073709551616 := by
    intro i _
    show 0 ≤ (if i = 0 then x0 else if i = 1 then x1 else if i = 2 then x2 else x3) ∧ (if i = 0 then x0 else if i = 1 then x1 else if i = 2 then x2 else x3) < 18446744073709551616
    by_cases c0 : i = 0
    · rw [if_pos c0]; exact h0
    · rw [if_neg c0]
      by_cases c1 : i = 1
      · rw [if_pos c1]; exact h1
      · rw [if_neg c1]
        by_cases c2 : i = 2
        · rw [if_pos c2]; exact h2
        · rw [if_neg c2]; exact h3
  refine ⟨sm a 4, sm_mono a 4 ha 4 (Nat.le_refl _), ?_⟩
  rw [d_of_sm a 4 ha 0 (by omega), d_of_sm a 4 ha 1 (by omega), d_of_sm a 4 ha 2 (by omega), d_of_sm a 4 ha 3 (by omega)]
  rfl
theorem wf_limb {x : Int} (h : (Lit.int .u64 x).wf = true) : 0 ≤ x ∧ x < 18446744073709551616 := by
  have := bounds_u64 h
  omega
theorem open4 {H : Type} {enc : TypeId × Value → H} {W : World} {base : Nat} {v : Value} {dv : DataW H} {p : List MemPlace} (hv : Value.okWide Try.prog W .any base 24 v)
    (h : DataW.Trod enc Try.prog W 0 (fun _ => true) true 24 v dv p) :
    ∃ x : Int, In 4 x ∧ v = .agg #[.int .u64 (d x 0), .int .u64 (d x 1), .int .u64 (d x 2), .int .u64 (d x 3)] ∧ p = [] ∧ ∀ (W' : World) (sp : Nat → Bool), DataW.Trod enc Try.prog W' 0 sp true 24 (.agg #[.int .u64 (d x 0), .int .u64 (d x 1), .int .u64 (d x 2), .int .u64 (d x 3)]) dv [] := by
  obtain ⟨cs, rfl, hsz, _⟩ : ∃ cs, v = .agg cs ∧ cs.size = Try.prog.cellsOf 24 ∧ Row.okWide Try.prog W .any base 24 cs := by
    simpa [Value.okWide, Try.underlying24] using hv
  rw [cells_u256] at hsz
  obtain ⟨l⟩ := cs
  obtain ⟨c0, c1, c2, c3, rfl⟩ := open_list4 l hsz
  obtain ⟨fuel, hf⟩ := h
  obtain ⟨ys, m, _, hx, _, hl, hy⟩ := DataW.trod_array Try.underlying24 hf
  rw [cells_u64] at hy
  obtain ⟨x0, e0, f0, w0⟩ := DataW.trod_int Try.underlying22 ((hy 0 (by omega)).trans (List.getElem?_eq_getElem (by omega)))
  obtain ⟨x1, e1, f1, w1⟩ := DataW.trod_int Try.underlying22 ((hy 1 (by omega)).trans (List.getElem?_eq_getElem (by omega)))
  obtain ⟨x2, e2, f2, w2⟩ := DataW.trod_int Try.underlying22 ((hy 2 (by omega)).trans (List.getElem?_eq_getElem (by omega)))
  obtain ⟨x3, e3, f3, w3⟩ := DataW.trod_int Try.underlying22 ((hy 3 (by omega)).trans (List.getElem?_eq_getElem (by omega)))
  simp [Value.cells] at e0 e1 e2 e3
  subst e0 e1 e2 e3
  obtain ⟨y0, y1, y2, y3, rfl⟩ := open_list4 ys hl
  simp at f0 f1 f2 f3
  subst f0 f1 f2 f3
  simp only [Prod.mk.injEq] at hx
  obtain ⟨rfl, rfl⟩ := hx
  obtain ⟨x, hx, e⟩ := one_number x0 x1 x2 x3 (wf_limb w0) (wf_limb w1) (wf_limb w2) (wf_limb w3)
  refine ⟨x, hx, congrArg Value.agg e, rfl, fun W' sp => ?_⟩
  rw [← e]
  exact ⟨2, by simp [DataW.trod, Value.cells, Try.underlying24, Try.underlying22, cells_u256, cells_u64, w0, w1, w2, w3, show List.range 4 = [0, 1, 2, 3] from rfl]⟩
end Go.Proofs.Ytiglhgcckceikaa
