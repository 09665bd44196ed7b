/- A key, and another text of a chain, that came in by value: opened. -/
import Derived.Test.YtpbbpkflljcklaaDoorJ1
import Derived.OpenShut
import Derived.ProofKit
namespace Go.Proofs.YtpbbpkflljcklaaDoor
open Go.ChangeShapes Go.WideShapes Go.ChangeAt Go.RowKit

theorem kcells_s : Tryd.prog.cellsOf 9 = 1 := by kernel_rfl
theorem kcells_n : Tryd.prog.cellsOf 22 = 1 := by kernel_rfl
theorem kcells_b : Tryd.prog.cellsOf 5 = 1 := by kernel_rfl
theorem kcells_k : Tryd.prog.cellsOf 24 = 2 := by kernel_rfl
theorem kcells_o : Tryd.prog.cellsOf 45 = 2 := by kernel_rfl
theorem klist2 {α : Type} (l : List α) (h : l.length = 2) : ∃ a b, l = [a, b] := by
  match l, h with
  | [a, b], _ => exact ⟨a, b, rfl⟩
theorem open_key13 {H : Type} {enc : TypeId × Value → H} {W : World} {base : Nat} {v : Value} {dv : DataW H} {p : List MemPlace} (hv : Value.okWide Tryd.prog W .any base 24 v)
    (h : DataW.Trod enc Tryd.prog W 0 (fun _ => true) true 24 v dv p) : ∃ (S : List UInt8) (n : Nat), v = .agg #[.string ⟨S.toArray⟩, .int .u64 (n : Int)] ∧ S.length ≤ maxLen ∧ n < 18446744073709551616 := by
  obtain ⟨cs, rfl, hsz⟩ := okWide_struct Tryd.underlying24 hv
  obtain ⟨l⟩ := cs
  obtain ⟨fuel, hf⟩ := h
  obtain ⟨xs, m, _, hxx, hcl, hl, hy⟩ := DataW.trod_struct Tryd.underlying24 hf
  rw [kcells_k] at hcl
  obtain ⟨c0, c1, e⟩ := klist2 _ hcl
  have e' : l = [c0, c1] := e
  subst e'
  obtain ⟨y0, y1, rfl⟩ := klist2 xs hl
  obtain ⟨S, e0, f0, w0⟩ := DataW.trod_string Tryd.underlying9 (hy 0 _ rfl)
  obtain ⟨n, e1, f1, w1⟩ := DataW.trod_int Tryd.underlying22 (hy 1 _ rfl)
  simp [kcells_s, kcells_n, Value.cells] at e0 e1
  subst e0 e1
  have b1 := bounds_u64 w1
  obtain ⟨n, rfl⟩ := Int.eq_ofNat_of_zero_le b1.1
  exact ⟨S.data.toList, n, by rw [str_eta], w0, by omega⟩
theorem open_other13 {H : Type} {enc : TypeId × Value → H} {W : World} {base : Nat} {v : Value} {dv : DataW H} {p : List MemPlace} (hv : Value.okWide Tryd.prog W .any base 45 v)
    (h : DataW.Trod enc Tryd.prog W 0 (fun _ => true) true 45 v dv p) : ∃ (c : Nat) (S : List UInt8), v = .agg #[.int .u8 (c : Int), .string ⟨S.toArray⟩] ∧ c < 256 ∧ S.length ≤ maxLen := by
  obtain ⟨cs, rfl, hsz⟩ := okWide_struct Tryd.underlying45 hv
  obtain ⟨l⟩ := cs
  obtain ⟨fuel, hf⟩ := h
  obtain ⟨xs, m, _, hxx, hcl, hl, hy⟩ := DataW.trod_struct Tryd.underlying45 hf
  rw [kcells_o] at hcl
  obtain ⟨c0, c1, e⟩ := klist2 _ hcl
  have e' : l = [c0, c1] := e
  subst e'
  obtain ⟨y0, y1, rfl⟩ := klist2 xs hl
  obtain ⟨n, e0, f0, w0⟩ := DataW.trod_int Tryd.underlying5 (hy 0 _ rfl)
  obtain ⟨S, e1, f1, w1⟩ := DataW.trod_string Tryd.underlying9 (hy 1 _ rfl)
  simp [kcells_s, kcells_b, Value.cells] at e0 e1
  subst e0 e1
  have b0 := bounds_u8 w0
  obtain ⟨n, rfl⟩ := Int.eq_ofNat_of_zero_le b0.1
  exact ⟨n, S.data.toList, by rw [str_eta], by omega, w1⟩
end Go.Proofs.YtpbbpkflljcklaaDoor
