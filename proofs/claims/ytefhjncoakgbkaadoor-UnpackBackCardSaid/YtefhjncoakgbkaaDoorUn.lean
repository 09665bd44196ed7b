/- A list of law 06's things that came in: opened. Their bytes, one behind the other. -/
import Derived.Test.YtefhjncoakgbkaaDoorUl
import Derived.OpenShut
import Derived.ProofKit
namespace Go.Proofs.YtefhjncoakgbkaaDoor
open Go.ChangeShapes Go.WideShapes Go.ChangeAt Go.RowKit

theorem ucells_thing : Tryd.prog.cellsOf 44 = 3 := by kernel_rfl
theorem ucells_b : Tryd.prog.cellsOf 5 = 1 := by kernel_rfl
theorem ucells_n : Tryd.prog.cellsOf 29 = 1 := by kernel_rfl
theorem ucells_s : Tryd.prog.cellsOf 9 = 1 := by kernel_rfl
theorem list3 {α : Type} (l : List α) (h : l.length = 3) : ∃ a b c, l = [a, b, c] := by
  match l, h with
  | [a, b, c], _ => exact ⟨a, b, c, rfl⟩
/-- a thing's three cells -/
def utL (q n : Nat) (S : List UInt8) : List Value := [.int .u8 (q : Int), .int .u64 (n : Int), .string ⟨S.toArray⟩]
/-- what a thing's parts may be -/
structure UtIn (q n : Nat) (S : List UInt8) : Prop where
  q1 : q < 256
  n1 : n < 18446744073709551616
  S1 : S.length ≤ maxLen
theorem inner_uthing {H : Type} {enc : TypeId × Value → H} {W : World} {base : Nat} {spare : Nat → Bool} {held : Bool} {fuel : Nat} {cs : List Value} {y : DataW H × List MemPlace} (h : DataW.trod enc Tryd.prog W base spare held fuel 44 cs = some y) :
    ∃ q n S, cs = utL q n S ∧ UtIn q n S := by
  obtain ⟨xs, m, _, rfl, hcl, hl, hy⟩ := DataW.trod_struct Tryd.underlying44 h
  rw [ucells_thing] at hcl
  obtain ⟨c0, c1, c2, rfl⟩ := list3 cs hcl
  obtain ⟨y0, y1, y2, rfl⟩ := list3 xs hl
  obtain ⟨q, e0, f0, w0⟩ := DataW.trod_int Tryd.underlying5 (hy 0 _ rfl)
  obtain ⟨n, e1, f1, w1⟩ := DataW.trod_int Tryd.underlying29 (hy 1 _ rfl)
  obtain ⟨S, e2, f2, w2⟩ := DataW.trod_string Tryd.underlying9 (hy 2 _ rfl)
  simp [ucells_b, ucells_n, ucells_s] at e0 e1 e2
  subst e0 e1 e2
  have b0 := bounds_u8 w0
  have b1 := bounds_u64 w1
  obtain ⟨q, rfl⟩ := Int.eq_ofNat_of_zero_le b0.1
  obtain ⟨n, rfl⟩ := Int.eq_ofNat_of_zero_le b1.1
  exact ⟨q, n, S.data.toList, by rw [utL, str_eta], ⟨by omega, by omega, w2⟩⟩
/-- a thing as one -/
def T3 : Type := Nat × Nat × List UInt8
/-- the slice at ao holds the things l -/
def Uts (ao : Option Addr) (l : List T3) (w : World) : Prop :=
  l = [] ∨ ∃ b off, ao = some ⟨b, off, none⟩ ∧ b < w.heap.size ∧ ∀ i (h : i < l.length) j, j < 3 → w.cell? ⟨b, off + (i * 3 + j), none⟩ = (utL l[i].1 l[i].2.1 l[i].2.2)[j]?
theorem Uts.below {ao : Option Addr} {l : List T3} {w w' : World} {B : Nat} (h : Uts ao l w) (hB : w.heap.size ≤ B) (hb : Below B w w') : Uts ao l w' := by
  rcases h with h | ⟨b, off, h1, h2, h3⟩
  · exact .inl h
  · exact .inr ⟨b, off, h1, by have := hb.size; omega, fun i hi j hj => (hb.cell (p := ⟨b, off + (i * 3 + j), none⟩) (by show b < B; omega)).trans (h3 i hi j hj)⟩
theorem opened_uthings {H : Type} {enc : TypeId × Value → H} {W : World} {a0 : Option Addr} {len cap : Nat} {d0 : DataW H} {p0 : List MemPlace} (h : DataW.Trod enc Tryd.prog W 0 (fun _ => true) true 42 (.slice a0 len cap) d0 p0) :
    ∃ l : List T3, l.length = len ∧ l.length ≤ cap ∧ l.length ≤ maxLen ∧ (∀ i (h : i < l.length), UtIn l[i].1 l[i].2.1 l[i].2.2) ∧ Uts a0 l W := by
  obtain ⟨fuel, hf⟩ := h
  rcases DataW.trod_slice Tryd.underlying42 hf with ⟨hcs, hx⟩ | ⟨a, len', cap', elems, rest, m, _, hcs, hx, _, hl, hm, hz, he, _, _⟩
  · simp [Value.cells] at hcs
    obtain ⟨rfl, rfl, rfl⟩ := hcs
    exact ⟨[], rfl, Nat.zero_le _, Nat.zero_le _, fun i h => by simp at h, .inl rfl⟩
  · simp [Value.cells] at hcs
    obtain ⟨rfl, rfl, rfl⟩ := hcs
    rw [ucells_thing] at he
    have hx : ∀ i, ∃ t : T3, i < len → UtIn t.1 t.2.1 t.2.2 ∧ ∀ j, j < 3 → W.cell? ((a.add (i * 3)).add j) = (utL t.1 t.2.1 t.2.2)[j]? := by
      intro i
      by_cases hi : i < len
      · have k := he i hi
        rw [List.getElem?_eq_getElem (by omega)] at k
        obtain ⟨cs, k1, k2⟩ := Option.bind_eq_some_iff.1 k
        obtain ⟨q, n, S, e, hin⟩ := inner_uthing k2
        obtain ⟨_, _, k3⟩ := World.cells?_some k1
        exact ⟨(q, n, S), fun _ => ⟨hin, fun j hj => by rw [k3 j hj, e]⟩⟩
      · exact ⟨(0, 0, []), fun c => absurd c hi⟩
    obtain ⟨f, hf⟩ := Classical.axiomOfChoice hx
    refine ⟨(List.range len).map f, by simp, by simp; omega, by simp; omega, fun i h => ?_, ?_⟩
    · rw [List.getElem_map, List.getElem_range]
      exact (hf i (by simpa using h)).1
    · by_cases h0 : len = 0
      · subst h0; exact .inl rfl
      · obtain ⟨b, off, sp⟩ := a
        have hc0 := (hf 0 (by omega)).2 0 (by omega)
        have hsp : sp = none := by
          cases sp with
          | none => rfl
          | some x =>
            exfalso
            have e : ((⟨b, off, some x⟩ : Addr).add (0 * 3)).add 0 = ⟨b, off, some x⟩ := rfl
            rw [e] at hc0
            unfold World.cell? at hc0
            split at hc0 <;> simp [utL] at hc0
        subst hsp
        refine .inr ⟨b, off, rfl, ?_, fun i hi j hj => ?_⟩
        · have e : ((⟨b, off, none⟩ : Addr).add (0 * 3)).add 0 = ⟨b, off, none⟩ := rfl
          rw [e] at hc0
          exact World.block_lt_of_cell? W _ hc0
        · have hi2 : i < len := by simpa using hi
          have k := (hf i hi2).2 j hj
          rw [Addr.add_mid, Addr.add_mid, Nat.add_assoc] at k
          rw [k, List.getElem_map, List.getElem_range]

/-- a thing of the law: its sort, what number it lays, what text, what it lays, what a reader answers -/
def utT (t : T3) : List UInt8 := t.2.2.take 700
def utN (t : T3) : Nat := if t.1 % 5 = 0 then t.2.1 else if t.1 % 5 = 1 ∨ t.1 % 5 = 2 then (utT t).length else t.2.1 % 65536
def utX (t : T3) : List UInt8 := if t.1 % 5 = 1 ∨ t.1 % 5 = 2 then utT t else []
def utB (t : T3) : List UInt8 := laidQ (t.1 % 5) (utN t) (utX t)
theorem utT_len (t : T3) : (utT t).length ≤ 700 := by rw [utT, List.length_take]; omega
theorem numP_len9 (n : Nat) : (numP n).length ≤ 9 := numP_len n
theorem utB_len (t : T3) : (utB t).length ≤ 710 := by
  have h1 := utT_len t
  have h2 := numP_len (utN t)
  have h3 := headP_len ((t.1 % 5 : Nat) : Int) (utN t)
  rw [utB, laidQ]
  by_cases h0 : t.1 % 5 = 0
  · rw [if_pos h0]; omega
  · rw [if_neg h0]
    by_cases h12 : t.1 % 5 = 1 ∨ t.1 % 5 = 2
    · rw [if_pos h12, List.length_append, utX, if_pos h12]; omega
    · rw [if_neg h12]; omega
/-- what is taken of it -/
theorem utB_back (t : T3) (R : List UInt8) (hn : t.2.1 < 18446744073709551616) : takeP (utB t ++ R) 65535 (t.1 % 5) = ⟨utN t, utX t, 0, (utB t).length⟩ := by
  have h1 := utT_len t
  have hs : t.1 % 5 = 0 ∨ t.1 % 5 = 1 ∨ t.1 % 5 = 2 ∨ t.1 % 5 = 3 ∨ t.1 % 5 = 4 := by omega
  rcases hs with h | h | h | h | h
  · have e1 : utN t = t.2.1 := if_pos h
    have e2 : utX t = [] := by rw [utX, h]; rfl
    rw [utB, e1, e2, h]; exact back0 _ R hn
  · have e1 : utN t = (utT t).length := by rw [utN, h]; rfl
    have e2 : utX t = utT t := by rw [utX, h]; rfl
    rw [utB, e1, e2, h]; exact back1 _ R (by omega)
  · have e1 : utN t = (utT t).length := by rw [utN, h]; rfl
    have e2 : utX t = utT t := by rw [utX, h]; rfl
    rw [utB, e1, e2, h]; exact back2 _ R (by omega)
  · have e1 : utN t = t.2.1 % 65536 := by rw [utN, h]; rfl
    have e2 : utX t = [] := by rw [utX, h]; rfl
    rw [utB, e1, e2, h]; exact back3 _ R (by omega)
  · have e1 : utN t = t.2.1 % 65536 := by rw [utN, h]; rfl
    have e2 : utX t = [] := by rw [utX, h]; rfl
    rw [utB, e1, e2, h]; exact back4 _ R (by omega)
/-- the first k things' bytes -/
def utS (l : List T3) (k : Nat) : List UInt8 := (l.take k).flatMap utB
theorem utS_succ (l : List T3) (k : Nat) (h : k < l.length) : utS l (k + 1) = utS l k ++ utB l[k] := by
  rw [utS, utS, List.take_succ_eq_append_getElem h, List.flatMap_append]; simp
theorem utS_len (l : List T3) : ∀ k, (utS l k).length ≤ 710 * k
  | 0 => by simp [utS]
  | k + 1 => by
    have h := utS_len l k
    by_cases hk : k < l.length
    · rw [utS_succ l k hk, List.length_append]
      have := utB_len l[k]
      omega
    · have e : utS l (k + 1) = utS l k := by rw [utS, utS, List.take_of_length_le (by omega), List.take_of_length_le (by omega)]
      rw [e]; omega
/-- all of them, from the k-th on -/
theorem utS_split (l : List T3) (k : Nat) (h : k < l.length) : ∃ R, utS l l.length = utS l k ++ (utB l[k] ++ R) := by
  refine ⟨(l.drop (k + 1)).flatMap utB, ?_⟩
  have e : l.take l.length = l.take k ++ l[k] :: l.drop (k + 1) := by rw [List.take_length, ← List.drop_eq_getElem_cons h, List.take_append_drop]
  rw [utS, utS, e, List.flatMap_append, List.flatMap_cons]
end Go.Proofs.YtefhjncoakgbkaaDoor
