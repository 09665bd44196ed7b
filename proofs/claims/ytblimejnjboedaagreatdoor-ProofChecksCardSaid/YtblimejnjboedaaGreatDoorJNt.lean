/- Layer 11's struct that came in by value: opened. -/
import Derived.Test.YtblimejnjboedaaGreatDoorJOw
import Derived.Test.YtblimejnjboedaaGreatDoorJ1
namespace Go.Proofs.YtblimejnjboedaaGreatDoor
open Go.ChangeShapes Go.WideShapes Go.ChangeAt Go.RowKit Go.Sort

theorem tcells_i : Tryz.prog.cellsOf 3 = 1 := by kernel_rfl
theorem tcells_w : Tryz.prog.cellsOf 22 = 1 := by kernel_rfl
theorem tcells_s : Tryz.prog.cellsOf 23 = 1 := by kernel_rfl
theorem tcells_t : Tryz.prog.cellsOf 25 = 4 := by kernel_rfl
theorem tlist4 {α : Type} (l : List α) (h : l.length = 4) : ∃ a b c d, l = [a, b, c, d] := by
  match l, h with
  | [a, b, c, d], _ => exact ⟨a, b, c, d, rfl⟩
section
variable {H : Type} {enc : TypeId × Value → H} {W : World} {base : Nat} {spare : Nat → Bool} {held : Bool} {fuel : Nat} {cs : List Value} {y : DataW H × List MemPlace}
theorem tin_int (h : DataW.trod enc Tryz.prog W base spare held fuel 3 cs = some y) : ∃ n : Int, cs = [.int .i64 n] ∧ -9223372036854775808 ≤ n ∧ n ≤ 9223372036854775807 := by
  obtain ⟨n, e, _, wf⟩ := DataW.trod_int Tryz.underlying3 h
  have b := bounds_i64 wf
  exact ⟨n, e, b.1, b.2⟩
theorem tin_strs (h : DataW.trod enc Tryz.prog W base spare held fuel 23 cs = some y) : ∃ (ao : Option Addr) (cp : Nat) (L : List (List UInt8)), cs = [.slice ao L.length cp] ∧ L.length ≤ maxLen ∧ (∀ i (h : i < L.length), L[i].length ≤ maxLen) ∧ Strs ao L W := by
  rcases open_strings Tryz.underlying23 Tryz.underlying9 cells9 h with ⟨hcs, hx⟩ | ⟨a, len', cap', ss, hcs, _, hl, hm, hz, hx, hcell, hws⟩
  · exact ⟨none, 0, [], hcs, Nat.zero_le _, fun i h => by simp at h, .inl rfl⟩
  · have hz' : len' ≤ ss.length := by rw [hz]; split <;> omega
    refine ⟨some a, cap', (ss.take len').map fun s => s.data.toList, by rw [hcs, List.length_map, List.length_take, Nat.min_eq_left hz'], by simp; omega, fun i h => ?_, strs_of hcell hz'⟩
    rw [List.getElem_map]
    exact hws _ (List.mem_of_mem_take (List.getElem_mem _))
theorem tin_words (h : DataW.trod enc Tryz.prog W base spare held fuel 22 cs = some y) : ∃ (ao : Option Addr) (cp : Nat) (L : List Nat), cs = [.slice ao L.length cp] ∧ L.length ≤ maxLen ∧ L.length ≤ cp ∧ Nums ao L W := by
  rcases open_ints Tryz.underlying22 Tryz.underlying33 cellsW h with ⟨hcs, hx⟩ | ⟨a, len', cap', zs, hcs, _, hl, hm, hz, hx, hcell, hws⟩
  · exact ⟨none, 0, [], hcs, Nat.zero_le _, Nat.zero_le _, .inl rfl⟩
  · have hz' : len' ≤ zs.length := by rw [hz]; split <;> omega
    have hb : ∀ z ∈ zs, 0 ≤ z ∧ z < 18446744073709551616 := fun z hz => by have := bounds_u64 (hws z hz); omega
    refine ⟨some a, cap', (zs.take len').map Int.toNat, by rw [hcs, List.length_map, List.length_take, Nat.min_eq_left hz'], by simp; omega, by simp; omega, ?_⟩
    by_cases h0 : len' = 0
    · subst h0; exact .inl (by simp)
    · obtain ⟨b, off, sp⟩ := a
      have hc0 := hcell 0 (by omega)
      have hsp : sp = none := by
        cases sp with
        | none => rfl
        | some x =>
          exfalso
          have e : (⟨b, off, some x⟩ : Addr).add 0 = ⟨b, off, some x⟩ := rfl
          rw [e] at hc0
          unfold World.cell? at hc0
          split at hc0 <;> simp at hc0
      subst hsp
      refine .inr ⟨b, off, rfl, World.block_lt_of_cell? W _ (by rw [show (⟨b, off, none⟩ : Addr).add 0 = ⟨b, off, none⟩ from rfl] at hc0; exact hc0), fun i hi => ?_⟩
      have hi2 : i < len' := by have h := hi; simp at h; omega
      have := hcell i (by omega)
      rw [Addr.add_mid] at this
      have hbb := hb _ (List.getElem_mem (l := zs) (n := i) (by omega))
      rw [this, List.getElem_map, List.getElem_take, List.getD_eq_getElem?_getD, List.getElem?_eq_getElem (by omega)]
      congr 2
      simp only [Option.getD_some]
      omega
end
/-- a proof that came in -/
structure TryR where
  n : Int
  aP : Option Addr
  cP : Nat
  P : List Nat
  aE : Option Addr
  cE : Nat
  E : List (List UInt8)
  aR : Option Addr
  cR : Nat
  R : List (List UInt8)
abbrev tryV (x : TryR) : Value := .agg #[.int .i64 x.n, .slice x.aP x.P.length x.cP, .slice x.aE x.E.length x.cE, .slice x.aR x.R.length x.cR]
structure TryIn (x : TryR) (w : World) : Prop where
  n : -9223372036854775808 ≤ x.n ∧ x.n ≤ 9223372036854775807
  pm : x.P.length ≤ maxLen
  pc : x.P.length ≤ x.cP
  p : Nums x.aP x.P w
  em : x.E.length ≤ maxLen
  el : ∀ i (h : i < x.E.length), x.E[i].length ≤ maxLen
  e : Strs x.aE x.E w
  rm : x.R.length ≤ maxLen
  rl : ∀ i (h : i < x.R.length), x.R[i].length ≤ maxLen
  r : Strs x.aR x.R w
set_option maxRecDepth 100000 in
theorem open_try {H : Type} {enc : TypeId × Value → H} {W : World} {base : Nat} {v : Value} {dv : DataW H} {p : List MemPlace} (hv : Value.okWide Tryz.prog W .any base 25 v)
    (h : DataW.Trod enc Tryz.prog W 0 (fun _ => true) true 25 v dv p) : ∃ x : TryR, v = tryV x ∧ TryIn x W := by
  obtain ⟨cs, rfl, hsz⟩ := okWide_struct Tryz.underlying25 hv
  obtain ⟨l⟩ := cs
  obtain ⟨fuel, hf⟩ := h
  obtain ⟨xs, m, _, hxx, hcl, hl, hy⟩ := DataW.trod_struct Tryz.underlying25 hf
  rw [tcells_t] at hcl
  obtain ⟨c0, c1, c2, c3, e⟩ := tlist4 _ hcl
  have e' : l = [c0, c1, c2, c3] := e
  subst e'
  obtain ⟨y0, y1, y2, y3, rfl⟩ := tlist4 xs hl
  obtain ⟨n, e0, w0⟩ := tin_int (hy 0 _ rfl)
  obtain ⟨aP, cP, P, e1, p1, p2, p3⟩ := tin_words (hy 1 _ rfl)
  obtain ⟨aE, cE, E, e2, q1, q2, q3⟩ := tin_strs (hy 2 _ rfl)
  obtain ⟨aR, cR, R, e3, r1, r2, r3⟩ := tin_strs (hy 3 _ rfl)
  simp [tcells_i, tcells_w, tcells_s, Value.cells] at e0 e1 e2 e3
  subst e0 e1 e2 e3
  exact ⟨⟨n, aP, cP, P, aE, cE, E, aR, cR, R⟩, rfl, ⟨w0, p1, p2, p3, q1, q2, q3, r1, r2, r3⟩⟩
theorem nums_take {ao : Option Addr} {L : List Nat} {w : World} (h : Nums ao L w) (k : Nat) : Nums ao (L.take k) w := by
  rcases h with h | ⟨b, off, rfl, h2, h3⟩
  · exact .inl (by rw [h, List.take_nil])
  · refine .inr ⟨b, off, rfl, h2, fun i hi => ?_⟩
    rw [List.length_take] at hi
    rw [List.getElem_take]
    exact h3 i (by omega)
/-- the struct in its block, and what is kept -/
abbrev TrS (b : Nat) (v0 v1 v2 v3 : Value) (W wz : World) : Prop := wz.cell? ⟨b, 0, none⟩ = some v0 ∧ wz.cell? ⟨b, 1, none⟩ = some v1 ∧ wz.cell? ⟨b, 2, none⟩ = some v2 ∧ wz.cell? ⟨b, 3, none⟩ = some v3 ∧ Below W.heap.size W wz
theorem tr_next {b : Nat} {v0 v1 v2 v3 : Value} {W wz wa : World} (h : TrS b v0 v1 v2 v3 W wz) (hb : Below wz.heap.size wz wa) : TrS b v0 v1 v2 v3 W wa := by
  obtain ⟨h0, h1, h2, h3, h4⟩ := h
  have k : ∀ {o : Nat} {v : Value}, wz.cell? ⟨b, o, none⟩ = some v → wa.cell? ⟨b, o, none⟩ = some v := fun hc => (World.cell?_of_block (hb.block _ (World.block_lt_of_cell? wz _ hc))).trans hc
  exact ⟨k h0, k h1, k h2, k h3, h4.trans (hb.mono h4.size)⟩
theorem tr_drew {b : Nat} {v0 v1 v2 v3 : Value} {W wz : World} (h : TrS b v0 v1 v2 v3 W wz) : TrS b v0 v1 v2 v3 W wz.drew := tr_next h (Below.refl _ _).drew
end Go.Proofs.YtblimejnjboedaaGreatDoor
