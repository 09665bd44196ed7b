/- Append within the capacity, as one step of a region that draws; cuts of a text; the length of a sum. -/
import Derived.Test.YtdobmhbfadijoaaDoorBa
import Derived.Test.YtdobmhbfadijoaaDoorTj
import Derived.Deep.RegionLaw
namespace Go.Proofs.YtdobmhbfadijoaaDoor
open Go.RowKit

/-- append within the capacity, as one step of a region that draws -/
theorem step_append_fits {P : Program} {w : World} {ops : Array Oper} {o : Oper} {a : Act} {K : Act → World → Prop} {Q : Exit → Act → World → Prop} {E : Prop}
    (hg : o.guard = none) (s x : Operand) (t : TypeId) (hop : o.op = Op.call { callee := Callee.builtin Builtin.append, args := #[s, x], argTypes := #[t, t] })
    (base : Nat) (e : TypeId) (i : TypeInfo) (size : Nat) (h1 : P.underlying t = some (.slice e)) (h2 : P.info? e = some i) (h4 : i.size = size)
    (g k cap : Nat) (xs : List Value) (hs : a.eval s = .slice (some ⟨g, 0, none⟩) k cap) (hown : w.ownsRow base e size (.slice (some ⟨g, 0, none⟩) k cap) k xs) (ad : Addr) (m c : Nat) (news : List Value) (hx : a.eval x = .slice (some ad) m c) (hn : news.length = m * size)
    (hc : ∀ j u, news[j]? = some u → w.cell? (ad.add j) = some u) (h1c : ∀ u ∈ news, u.oneCell' = true) (b1 : k + m ≤ cap)
    (hK : ∀ w', w'.ownsRow base e size (.slice (some ⟨g, 0, none⟩) (k + m) cap) (k + m) (xs ++ news) → w.grownBy w' (some g) → K (a.put o.dst (.slice (some ⟨g, 0, none⟩) (k + m) cap)) w') :
    if Region.wanted o (yielded ops a.tmps) = true then Oper.wp P o a w K Q else E := by
  have hw : Region.wanted o (yielded ops a.tmps) = true := by simp [Region.wanted, hg]
  rw [if_pos hw]
  obtain ⟨w', hrun, r1, r2⟩ := run_append_fits (P := P) w base t o.type e i size h1 h2 h4 g k cap xs hown ad m c news hn hc h1c b1
  unfold Oper.wp
  simp [execOp, hop, resolve, invoke, builtin, hs, hx, hrun, Result.andThen]
  exact hK w' r1 r2

theorem cut_str (S : List UInt8) (j N : Nat) (h : j ≤ N) : ∃ T : List UInt8, (⟨S.toArray⟩ : ByteArray).extract 0 j = ⟨T.toArray⟩ ∧ T.length ≤ N :=
  ⟨S.take j, by rw [extract_list, List.drop_zero], by rw [List.length_take]; omega⟩

theorem shaL_length (T : List UInt8) : (shaL T).length = 32 := digestTo_length _ 8
end Go.Proofs.YtdobmhbfadijoaaDoor
