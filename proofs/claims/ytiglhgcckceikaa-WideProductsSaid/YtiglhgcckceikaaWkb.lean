/- An argument that is two arrays of eight limbs: opened as two numbers, and shut again. -/
import Derived.Test.YtiglhgcckceikaaWka
import Derived.Test.YtiglhgcckceikaaRk
namespace Go.Proofs.Ytiglhgcckceikaa
open Go.ChangeShapes Go.WideShapes Go.ChangeAt Go.RowKit
theorem cells_u512 : Try.prog.cellsOf 26 = 8 := by kernel_rfl
theorem cells_p512 : Try.prog.cellsOf 27 = 16 := by kernel_rfl
theorem open_list8 {α : Type} (l : List α) (h : l.length = 8) : ∃ a0 a1 a2 a3 a4 a5 a6 a7, l = [a0, a1, a2, a3, a4, a5, a6, a7] := by
  match l, h with
  | [a0, a1, a2, a3, a4, a5, a6, a7], _ => exact ⟨a0, a1, a2, a3, a4, a5, a6, a7, rfl⟩
theorem open_list2 {α : Type} (l : List α) (h : l.length = 2) : ∃ a0 a1, l = [a0, a1] := by
  match l, h with
  | [a0, a1], _ => exact ⟨a0, a1, rfl⟩
theorem eight_number (x0 x1 x2 x3 x4 x5 x6 x7 : Int) (h0 : 0 ≤ x0 ∧ x0 < 18446744073709551616) (h1 : 0 ≤ x1 ∧ x1 < 18446744073709551616) (h2 : 0 ≤ x2 ∧ x2 < 18446744073709551616) (h3 : 0 ≤ x3 ∧ x3 < 18446744073709551616) (h4 : 0 ≤ x4 ∧ x4 < 18446744073709551616) (h5 : 0 ≤ x5 ∧ x5 < 18446744073709551616) (h6 : 0 ≤ x6 ∧ x6 < 18446744073709551616) (h7 : 0 ≤ x7 ∧ x7 < 18446744073709551616) : ∃ x, In 8 x ∧ (#[.int .u64 x0, .int .u64 x1, .int .u64 x2, .int .u64 x3, .int .u64 x4, .int .u64 x5, .int .u64 x6, .int .u64 x7] : Array Value) = #[.int .u64 (d x 0), .int .u64 (d x 1), .int .u64 (d x 2), .int .u64 (d x 3), .int .u64 (d x 4), .int .u64 (d x 5), .int .u64 (d x 6), .int .u64 (d x 7)] := by
  let a : Nat → Int := fun i => [x0, x1, x2, x3, x4, x5, x6, x7].getD i 0
  have ha : ∀ i < 8, 0 ≤ a i ∧ a i < 18446744073709551616 := by
    intro i hi
    match i, hi with
    | 0, _ => exact h0
    | 1, _ => exact h1
    | 2, _ => exact h2
    | 3, _ => exact h3
    | 4, _ => exact h4
    | 5, _ => exact h5
    | 6, _ => exact h6
    | 7, _ => exact h7
  refine ⟨sm a 8, sm_mono a 8 ha 8 (Nat.le_refl _), ?_⟩
  rw [d_of_sm a 8 ha 0 (by omega), d_of_sm a 8 ha 1 (by omega), d_of_sm a 8 ha 2 (by omega), d_of_sm a 8 ha 3 (by omega), d_of_sm a 8 ha 4 (by omega), d_of_sm a 8 ha 5 (by omega), d_of_sm a 8 ha 6 (by omega), d_of_sm a 8 ha 7 (by omega)]
  rfl
theorem inner8 {H : Type} {enc : TypeId × Value → H} {W : World} {base : Nat} {spare : Nat → Bool} {held : Bool} {fuel : Nat} {cs : List Value} {y : DataW H × List MemPlace} (h : DataW.trod enc Try.prog W base spare held fuel 26 cs = some y) :
    ∃ x0 x1 x2 x3 x4 x5 x6 x7 : Int, cs = [.int .u64 x0, .int .u64 x1, .int .u64 x2, .int .u64 x3, .int .u64 x4, .int .u64 x5, .int .u64 x6, .int .u64 x7] ∧ y = (.agg [.lit (.int .u64 x0), .lit (.int .u64 x1), .lit (.int .u64 x2), .lit (.int .u64 x3), .lit (.int .u64 x4), .lit (.int .u64 x5), .lit (.int .u64 x6), .lit (.int .u64 x7)], []) ∧ (Lit.int .u64 x0).wf = true ∧ (Lit.int .u64 x1).wf = true ∧ (Lit.int .u64 x2).wf = true ∧ (Lit.int .u64 x3).wf = true ∧ (Lit.int .u64 x4).wf = true ∧ (Lit.int .u64 x5).wf = true ∧ (Lit.int .u64 x6).wf = true ∧ (Lit.int .u64 x7).wf = true := by
  obtain ⟨zs, m, _, rfl, hcl, hl, hy⟩ := DataW.trod_array Try.underlying26 h
  rw [cells_u64] at hy
  rw [cells_u512] at hcl
  obtain ⟨c0, c1, c2, c3, c4, c5, c6, c7, rfl⟩ := open_list8 cs hcl
  obtain ⟨z0, z1, z2, z3, z4, z5, z6, z7, rfl⟩ := open_list8 zs hl
  obtain ⟨x0, e0, f0, w0⟩ := DataW.trod_int Try.underlying22 (hy 0 (by omega))
  obtain ⟨x1, e1, f1, w1⟩ := DataW.trod_int Try.underlying22 (hy 1 (by omega))
  obtain ⟨x2, e2, f2, w2⟩ := DataW.trod_int Try.underlying22 (hy 2 (by omega))
  obtain ⟨x3, e3, f3, w3⟩ := DataW.trod_int Try.underlying22 (hy 3 (by omega))
  obtain ⟨x4, e4, f4, w4⟩ := DataW.trod_int Try.underlying22 (hy 4 (by omega))
  obtain ⟨x5, e5, f5, w5⟩ := DataW.trod_int Try.underlying22 (hy 5 (by omega))
  obtain ⟨x6, e6, f6, w6⟩ := DataW.trod_int Try.underlying22 (hy 6 (by omega))
  obtain ⟨x7, e7, f7, w7⟩ := DataW.trod_int Try.underlying22 (hy 7 (by omega))
  simp at e0 f0 e1 f1 e2 f2 e3 f3 e4 f4 e5 f5 e6 f6 e7 f7
  subst e0 f0 e1 f1 e2 f2 e3 f3 e4 f4 e5 f5 e6 f6 e7 f7
  exact ⟨x0, x1, x2, x3, x4, x5, x6, x7, rfl, rfl, w0, w1, w2, w3, w4, w5, w6, w7⟩
theorem open16 {H : Type} {enc : TypeId × Value → H} {W : World} {base : Nat} {v : Value} {dv : DataW H} {p0 : List MemPlace} (hv : Value.okWide Try.prog W .any base 27 v)
    (h : DataW.Trod enc Try.prog W 0 (fun _ => true) true 27 v dv p0) :
    ∃ p q : Int, In 8 p ∧ In 8 q ∧ v = .agg #[.int .u64 (d p 0), .int .u64 (d p 1), .int .u64 (d p 2), .int .u64 (d p 3), .int .u64 (d p 4), .int .u64 (d p 5), .int .u64 (d p 6), .int .u64 (d p 7), .int .u64 (d q 0), .int .u64 (d q 1), .int .u64 (d q 2), .int .u64 (d q 3), .int .u64 (d q 4), .int .u64 (d q 5), .int .u64 (d q 6), .int .u64 (d q 7)] ∧ p0 = [] ∧ ∀ (W' : World) (sp : Nat → Bool), DataW.Trod enc Try.prog W' 0 sp true 27 (.agg #[.int .u64 (d p 0), .int .u64 (d p 1), .int .u64 (d p 2), .int .u64 (d p 3), .int .u64 (d p 4), .int .u64 (d p 5), .int .u64 (d p 6), .int .u64 (d p 7), .int .u64 (d q 0), .int .u64 (d q 1), .int .u64 (d q 2), .int .u64 (d q 3), .int .u64 (d q 4), .int .u64 (d q 5), .int .u64 (d q 6), .int .u64 (d q 7)]) dv [] := by
  obtain ⟨cs, rfl, hsz, _⟩ : ∃ cs, v = .agg cs ∧ cs.size = Try.prog.cellsOf 27 ∧ Row.okWide Try.prog W .any base 27 cs := by
    simpa [Value.okWide, Try.underlying27] using hv
  rw [cells_p512] at hsz
  obtain ⟨l⟩ := cs
  obtain ⟨fuel, hf⟩ := h
  obtain ⟨zs, m, _, hx, _, hl, hy⟩ := DataW.trod_array Try.underlying27 hf
  rw [cells_u512] at hy
  obtain ⟨z0, z1, rfl⟩ := open_list2 zs hl
  obtain ⟨x0, x1, x2, x3, x4, x5, x6, x7, e0, f0, w0, w1, w2, w3, w4, w5, w6, w7⟩ := inner8 (hy 0 (by omega))
  obtain ⟨y0, y1, y2, y3, y4, y5, y6, y7, e1, f1, v0, v1, v2, v3, v4, v5, v6, v7⟩ := inner8 (hy 1 (by omega))
  have hl16 : l.length = 16 := hsz
  have el : l = (l.drop 0).take 8 ++ (l.drop 8).take 8 := by
    rw [List.drop_zero, List.take_of_length_le (l := l.drop 8) (by rw [List.length_drop]; omega), List.take_append_drop]
  simp only [Value.cells, Nat.zero_mul, Nat.one_mul] at e0 e1
  rw [e0, e1] at el
  subst el
  subst f0 f1
  simp only [Prod.mk.injEq, List.map_cons, List.map_nil, List.flatMap_cons, List.flatMap_nil, List.append_nil] at hx
  obtain ⟨rfl, rfl⟩ := hx
  obtain ⟨p, hp, ep⟩ := eight_number x0 x1 x2 x3 x4 x5 x6 x7 (wf_limb w0) (wf_limb w1) (wf_limb w2) (wf_limb w3) (wf_limb w4) (wf_limb w5) (wf_limb w6) (wf_limb w7)
  obtain ⟨q, hq, eq⟩ := eight_number y0 y1 y2 y3 y4 y5 y6 y7 (wf_limb v0) (wf_limb v1) (wf_limb v2) (wf_limb v3) (wf_limb v4) (wf_limb v5) (wf_limb v6) (wf_limb v7)
  have ev : (⟨[.int .u64 x0, .int .u64 x1, .int .u64 x2, .int .u64 x3, .int .u64 x4, .int .u64 x5, .int .u64 x6, .int .u64 x7] ++ [.int .u64 y0, .int .u64 y1, .int .u64 y2, .int .u64 y3, .int .u64 y4, .int .u64 y5, .int .u64 y6, .int .u64 y7]⟩ : Array Value) = #[.int .u64 (d p 0), .int .u64 (d p 1), .int .u64 (d p 2), .int .u64 (d p 3), .int .u64 (d p 4), .int .u64 (d p 5), .int .u64 (d p 6), .int .u64 (d p 7), .int .u64 (d q 0), .int .u64 (d q 1), .int .u64 (d q 2), .int .u64 (d q 3), .int .u64 (d q 4), .int .u64 (d q 5), .int .u64 (d q 6), .int .u64 (d q 7)] := by
    have h1 := congrArg Array.toList ep
    have h2 := congrArg Array.toList eq
    show (⟨(#[.int .u64 x0, .int .u64 x1, .int .u64 x2, .int .u64 x3, .int .u64 x4, .int .u64 x5, .int .u64 x6, .int .u64 x7] : Array Value).toList ++ (#[.int .u64 y0, .int .u64 y1, .int .u64 y2, .int .u64 y3, .int .u64 y4, .int .u64 y5, .int .u64 y6, .int .u64 y7] : Array Value).toList⟩ : Array Value) = _
    rw [h1, h2]
    rfl
  refine ⟨p, q, hp, hq, congrArg Value.agg ev, rfl, fun W' sp => ?_⟩
  rw [← ev]
  exact ⟨3, by simp [DataW.trod, Value.cells, Try.underlying27, Try.underlying26, Try.underlying22, cells_p512, cells_u512, cells_u64, w0, v0, w1, v1, w2, v2, w3, v3, w4, v4, w5, v5, w6, v6, w7, v7, show List.range 8 = [0, 1, 2, 3, 4, 5, 6, 7] from rfl, show List.range 2 = [0, 1] from rfl]⟩
theorem in_nat {m X : Nat} (h : In m (X : Int)) : X < 2 ^ (64 * m) := by
  have k := h.2
  rw [pwn] at k
  exact Int.ofNat_lt.1 k
end Go.Proofs.Ytiglhgcckceikaa
