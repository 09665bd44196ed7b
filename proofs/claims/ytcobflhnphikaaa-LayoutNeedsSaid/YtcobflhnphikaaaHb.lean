/- Sets of numbers: maps of uint64 to struct{}, in whatever order they are ranged over. -/
import Derived.Test.YtcobflhnphikaaaHa
import Derived.Maps.OwnSet
import Derived.Maps.RangeWalk
import Derived.WalkArith
import Derived.OpenShut
namespace Go.Proofs.Ytcobflhnphikaaa
open Go.RowKit Go.ChangeMaps Go.MapKept Go.WideShapes
open Go.Maps (Keyed)

def lit (k : Nat) : Lit := .int .u64 (k : Int)
theorem lit_inj {k j : Nat} : lit k = lit j ↔ k = j := by simp [lit]; omega
theorem lit_key (k : Nat) : WideAt.IsKeyLit (lit k) := by simp [lit, WideAt.IsKeyLit]
theorem lit_same (k j : Nat) : (lit k).sameKey (lit j) = decide (k = j) := by
  by_cases h : k = j
  · subst h; simp [lit, Lit.sameKey]
  · rw [Maps.sameKey_ne (fun e => h (lit_inj.1 e))]; simp [h]
theorem lit_wf {k : Nat} (h : k < 18446744073709551616) : (Lit.int .u64 (k : Int)).wf = true := WalkArith.wf_u64 (by omega)
theorem lit_of {z : Int} (h : (Lit.int .u64 z).wf = true) : ∃ k : Nat, z = (k : Int) ∧ k < 18446744073709551616 := by
  have hb := bounds_u64 h
  exact ⟨z.toNat, by omega, by omega⟩

section
variable {P : Program} {ku : TypeId}

/-- block b is a set of numbers, of just those of K; no more than n stores made it -/
def SetAt (P : Program) (ku : TypeId) (b n : Nat) (K : List Nat) (w : World) : Prop :=
  ∃ D : DataW Unit, w.ownsMap P ku unitElem b n D ∧ ∀ k : Nat, Maps.has D (lit k) = decide (k ∈ K)
theorem SetAt.made (P : Program) (ku : TypeId) (w : World) : SetAt P ku w.heap.size 0 [] (w.alloc (.map #[] 0)) :=
  ⟨.map [], World.ownsMap_made w P ku unitElem, fun k => by simp [Maps.has_eq]⟩
theorem SetAt.kept {b n : Nat} {K : List Nat} {w w' : World} {row : Option Nat} (h : SetAt P ku b n K w) (hg : w.grownBy w' row) (hr : some b ≠ row) : SetAt P ku b n K w' := by
  obtain ⟨D, h1, h2⟩ := h
  exact ⟨D, h1.kept hg hr, h2⟩
theorem SetAt.mono {b n m : Nat} {K : List Nat} {w : World} (h : SetAt P ku b n K w) (hm : n ≤ m) : SetAt P ku b m K w := by
  obtain ⟨D, h1, h2⟩ := h
  exact ⟨D, h1.mono hm, h2⟩
theorem SetAt.lt {b n : Nat} {K : List Nat} {w : World} (h : SetAt P ku b n K w) : b < w.heap.size := by
  obtain ⟨D, h1, _⟩ := h
  exact h1.lt
theorem SetAt.of {b n : Nat} {K K' : List Nat} {w : World} (h : SetAt P ku b n K w) (e : ∀ x, x ∈ K ↔ x ∈ K') : SetAt P ku b n K' w := by
  obtain ⟨D, h1, h2⟩ := h
  exact ⟨D, h1, fun k => by rw [h2]; simp [e]⟩
theorem SetAt.block {b n : Nat} {K : List Nat} {w w' : World} (h : SetAt P ku b n K w) (e : w'.heap[b]? = w.heap[b]?) : SetAt P ku b n K w' := by
  obtain ⟨D, ⟨es, clock, h0, h1⟩, h2⟩ := h
  exact ⟨D, ⟨es, clock, e.trans h0, h1⟩, h2⟩
theorem has_put {D : DataW Unit} (hD : Maps.IsMap D) {K : List Nat} (h : ∀ k : Nat, Maps.has D (lit k) = decide (k ∈ K)) (x : Nat) (d : DataW Unit) (k : Nat) : Maps.has (D.put (lit x) d) (lit k) = decide (k ∈ K ++ [x]) := by
  by_cases e : k = x
  · subst e
    rw [Maps.has_put_same hD (lit_key k)]; simp
  · rw [Maps.has_put_other (fun c => e (lit_inj.1 c)), h]; simp [e]
theorem SetAt.push {b n : Nat} {K : List Nat} {w w' : World} {D : DataW Unit} {d : DataW Unit} {x : Nat} (h : w.ownsMap P ku unitElem b n D) (hD : ∀ k : Nat, Maps.has D (lit k) = decide (k ∈ K)) (h' : w'.ownsMap P ku unitElem b (n + 1) (D.put (lit x) d)) :
    SetAt P ku b (n + 1) (K ++ [x]) w' := ⟨_, h', has_put h.isMap hD x d⟩

/-- 'clear(m)' -/
theorem SetAt.clear {b n : Nat} {K : List Nat} {w : World} (h : SetAt P ku b n K w) (t : TypeId) {e : TypeId} (ht : P.underlying t = some (.map ku e)) (ty : TypeId) :
    ∃ w', (Builtin.clear_ #[t] ty #[.map (some b)]).run P w = .ok (.tuple #[]) w' ∧ SetAt P ku b 0 [] w' ∧ w.grownBy w' (some b) ∧ w'.heap.size = w.heap.size := by
  obtain ⟨D, ⟨es, clock, hb, F, hs, hD⟩, h2⟩ := h
  have hlt : b < w.heap.size := (Array.getElem?_eq_some_iff.1 hb).1
  refine ⟨setBlock w b (.map #[] clock), by simp [Builtin.clear_, run_underlying ht, MapKept.run_getObj_map hb, MapKept.run_setObj_map _ hb, Result.andThen, setBlock], ?_, ?_, ?_⟩
  · refine ⟨.map [], ⟨#[], clock, heap_setBlock_same hb _, ⟨by simp, ?_, by simp⟩, Nat.le_refl _, rfl⟩, fun k => by simp [Maps.has_eq]⟩
    exact ⟨by simp, by simp⟩
  · exact ⟨rfl, rfl, rfl, by simp [setBlock], fun j _ hne => heap_setBlock_other hb _ fun e => hne (by rw [e])⟩
  · simp [setBlock]

/-- a set that is being ranged over: those of V have come -/
def RangeAt (P : Program) (ku : TypeId) (b r n : Nat) (K V : List Nat) (w : World) : Prop :=
  ∃ (D : DataW Unit) (left : Lit → Bool) (cnt : Nat), w.ranges P ku unitElem b r n D left cnt ∧ (∀ k : Nat, Maps.has D (lit k) = decide (k ∈ K)) ∧ (∀ k : Nat, left (lit k) = decide (k ∈ K ∧ k ∉ V)) ∧ V.Nodup ∧ (∀ x ∈ V, x ∈ K) ∧ (∀ x ∈ V, x < 18446744073709551616) ∧ V.length + cnt ≤ n
theorem RangeAt.set {b r n : Nat} {K V : List Nat} {w : World} (h : RangeAt P ku b r n K V w) : SetAt P ku b n K w := by
  obtain ⟨D, left, cnt, h1, h2, _⟩ := h
  exact ⟨D, h1.owns, h2⟩
theorem RangeAt.kept {b r n : Nat} {K V : List Nat} {w w' : World} {row : Option Nat} (h : RangeAt P ku b r n K V w) (hg : w.grownBy w' row) (hb : some b ≠ row) (hr : some r ≠ row) : RangeAt P ku b r n K V w' := by
  obtain ⟨D, left, cnt, h1, h2⟩ := h
  exact ⟨D, left, cnt, h1.kept hg hb hr, h2⟩
theorem RangeAt.left {b r n : Nat} {K V : List Nat} {w : World} (h : RangeAt P ku b r n K V w) : ∃ cnt, w.rangeLeft b r = cnt ∧ V.length + cnt ≤ n := by
  obtain ⟨D, left, cnt, h1, _, _, _, _, _, h3⟩ := h
  exact ⟨cnt, h1.left_eq, h3⟩

variable (w : World) {ops : Array Oper} {rest : List Oper} {o : Oper} {a : Act} {Q : Exit → Act → World → Prop}
theorem wpList_range_set (hg : o.guard = none) (m : Operand) (t : TypeId) (hop : o.op = Op.range t m) (e : TypeId) (K : Keyed P ku) (ht : P.underlying t = some (.map ku e)) (b n : Nat) (L : List Nat)
    (hm : a.eval m = .map (some b)) (hset : SetAt P ku b n L w)
    (hK : ∀ w', RangeAt P ku b w.heap.size n L [] w' → w.grownBy w' none → w'.heap.size = w.heap.size + 1 → wpList P ops Q rest (a.put o.dst (.pointer (some ⟨w.heap.size, 0, none⟩))) w') :
    wpList P ops Q (o :: rest) a w := by
  obtain ⟨D, h1, h2⟩ := hset
  refine wpList_range_own w hg m t hop ku e K ht unitElem b n D hm h1 fun w' hr hg' hs => hK w' ⟨D, _, _, hr, h2, fun k => by rw [h2]; simp, List.nodup_nil, by simp, by simp, by simpa using h1.size_le⟩ hg' hs
theorem wpList_next_set (hg : o.guard = none) (it : Operand) (hop : o.op = Op.next it false) (K : Keyed P ku) (hk : P.underlying ku = some (.int .u64)) (b r n : Nat) (L V : List Nat)
    (hit : a.eval it = .pointer (some ⟨r, 0, none⟩)) (h : RangeAt P ku b r n L V w)
    (hDone : (∀ x, x ∈ L ↔ x ∈ V) → wpList P ops Q rest (a.put o.dst (.tuple #[.bool false])) w)
    (hMore : ∀ (x : Nat) (w' : World), x < 18446744073709551616 → x ∈ L → x ∉ V → RangeAt P ku b r n L (V ++ [x]) w' → w'.rangeLeft b r < w.rangeLeft b r → w.grownBy w' (some r) → w'.heap.size = w.heap.size →
      (Instr.entry (.pointer (some ⟨r, 0, none⟩))).run P w' = .ok (.tuple #[.int .u64 (x : Int), .agg #[]]) w' → wpList P ops Q rest (a.put o.dst (.tuple #[.bool true, .int .u64 (x : Int), .agg #[]])) w') :
    wpList P ops Q (o :: rest) a w := by
  obtain ⟨D, left, cnt, h1, h2, h3, h4, h5, h6, h7⟩ := h
  refine wpList_next_ranges w hg it hop ku K unitElem (Value.int .u64) (fun _ : Unit => Value.agg #[]) (fun key kl hkey => by obtain ⟨x, rfl, _⟩ := Maps.keyOf_int_inv hk hkey; exact ⟨x, rfl⟩)
    (fun v y hv => by obtain ⟨rfl, _⟩ := unitElem_inv hv; exact ⟨(), rfl⟩) b r n D left cnt hit h1 (fun h0 hl => hDone fun x => ⟨fun hx => ?_, fun hx => h5 x hx⟩) (fun z c kl y w' cnt' hkey hlk hv hat hrg hlt hgr hsz hen => ?_)
  · have := hl (lit x)
    rw [h3] at this
    simpa [hx] using this
  · obtain ⟨z', ez, rfl, hw⟩ := Maps.keyOf_int_inv hk hkey
    cases ez
    obtain ⟨x, rfl, hx⟩ := lit_of hw
    have hxl : x ∈ L ∧ x ∉ V := by
      have := h3 x
      rw [show left (lit x) = true from hlk] at this
      simpa using this
    refine hMore x w' hx hxl.1 hxl.2 ⟨D, _, cnt', hrg, h2, fun k => ?_, ?_, ?_, ?_, by simp; omega⟩ (by rw [hrg.left_eq, h1.left_eq]; exact hlt) hgr hsz hen
    · rw [h3, show Lit.sameKey (lit k) (Lit.int .u64 (x : Int)) = (lit k).sameKey (lit x) from rfl, lit_same]
      by_cases e : k = x <;> simp [e]
    · rw [List.nodup_append]
      exact ⟨h4, by simp, fun a ha b hb => by simp at hb; subst hb; exact fun e => hxl.2 (e ▸ ha)⟩
    · intro y hy
      rcases List.mem_append.1 hy with h | h
      · exact h5 y h
      · simp at h; subst h; exact hxl.1
    · intro y hy
      rcases List.mem_append.1 hy with h | h
      · exact h6 y h
      · simp at h; subst h; exact hx
end
end Go.Proofs.Ytcobflhnphikaaa
