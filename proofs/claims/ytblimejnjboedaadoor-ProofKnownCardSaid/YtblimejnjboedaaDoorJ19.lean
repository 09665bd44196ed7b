/- Digests as functions of what stands at the leaves; frames are short; small facts. -/
import Derived.Test.YtblimejnjboedaaDoorJ7
import Derived.Test.YtblimejnjboedaaDoorJ18
import Derived.Test.YtblimejnjboedaaDoorJ1
import Derived.Test.YtblimejnjboedaaDoorJ4
import Derived.Laws.AppendOwn
import Derived.Laws.OwnMore
namespace Go.Proofs.YtblimejnjboedaaDoor
open Go.RowKit

def leafT : (List UInt8) := [108, 101, 97, 102]
def nodeT : (List UInt8) := [110, 111, 100, 101]
def noneT : (List UInt8) := [110, 111, 110, 101]
/-- the digest of a place, of what stands at the leaves -/
def dg (g : Nat → (List UInt8)) : Nat → Nat → (List UInt8)
  | 0, k => g k
  | l + 1, k => hashL nodeT [dg g l (2 * k), dg g l (2 * k + 1)]
/-- the digest of a leaf of a list -/
def gl (L : List (List UInt8)) (d k : Nat) : (List UInt8) := if h : turnB k d < L.length then hashL leafT [L[turnB k d]] else hashL noneT []
theorem hashL_len (tag : (List UInt8)) (L : List (List UInt8)) : (hashL tag L).length ≤ 32 := by
  unfold hashL
  split
  · rw [shaL_length]; omega
  · simp
theorem dg_len {g : Nat → (List UInt8)} (h : ∀ k, (g k).length ≤ 32) (l k : Nat) : (dg g l k).length ≤ 32 := by
  cases l with
  | zero => exact h k
  | succ l => exact hashL_len _ _
theorem gl_len (L : List (List UInt8)) (d k : Nat) : (gl L d k).length ≤ 32 := by
  unfold gl
  split <;> exact hashL_len _ _
theorem kid_range (l k : Nat) : k * 2 ^ (l + 1) = 2 * k * 2 ^ l ∧ (k + 1) * 2 ^ (l + 1) = (2 * k + 1 + 1) * 2 ^ l ∧ (2 * k + 1) * 2 ^ l = 2 * k * 2 ^ l + 2 ^ l ∧ (2 * k + 1 + 1) * 2 ^ l = (2 * k + 1) * 2 ^ l + 2 ^ l := by
  have e : (2 : Nat) ^ (l + 1) = 2 * 2 ^ l := by rw [Nat.pow_succ, Nat.mul_comm]
  refine ⟨by rw [e, ← Nat.mul_assoc, Nat.mul_comm k 2], by rw [e, ← Nat.mul_assoc, Nat.mul_comm (k + 1) 2]; rfl, Nat.succ_mul _ _, Nat.succ_mul _ _⟩
theorem dg_congr {g g' : Nat → (List UInt8)} : ∀ (l k : Nat), (∀ j, k * 2 ^ l ≤ j → j < (k + 1) * 2 ^ l → g j = g' j) → dg g l k = dg g' l k
  | 0, k, h => h k (by simp) (by simp)
  | l + 1, k, h => by
    obtain ⟨e1, e2, e3, e4⟩ := kid_range l k
    have hp := Nat.two_pow_pos l
    rw [dg, dg, dg_congr l (2 * k) (fun j h1 h2 => h j (by omega) (by omega)), dg_congr l (2 * k + 1) (fun j h1 h2 => h j (by omega) (by omega))]
theorem framed_short (tag : (List UInt8)) (L : List (List UInt8)) (ht : tag.length ≤ 16) (hl : ∀ x ∈ L, x.length ≤ 10000000) (hn : L.length ≤ 100) : (framed tag L).length < 1100000000 := by
  have h1 : ∀ M : List (List UInt8), (∀ x ∈ M, x.length ≤ 10000000) → (M.flatMap partL).length ≤ 10000008 * M.length := by
    intro M
    induction M with
    | nil => simp
    | cons x M ih =>
      intro h
      have hx := h x (by simp)
      have := ih fun y hy => h y (by simp [hy])
      rw [List.flatMap_cons, List.length_append, List.length_cons]
      have hp : (partL x).length = 8 + x.length := by simp [partL, numL_length]
      omega
  have := h1 L hl
  simp only [framed, List.length_cons, List.length_append]
  omega
theorem strs_drew {ao : Option Addr} {L : List (List UInt8)} {w : World} (h : Strs ao L w) : Strs ao L w.drew := h.below (Nat.le_refl _) (Below.refl _ _).drew
theorem below_next {w wz wa : World} (h : Below w.heap.size w wz) (hb : Below wz.heap.size wz wa) : Below w.heap.size w wa := h.trans (hb.mono h.size)
theorem below_alloc {w wz : World} (h : Below w.heap.size w wz) (o : Obj) : Below w.heap.size w (wz.alloc o) := below_next h (by0 wz o)
theorem turnB_in {d k : Nat} (hd : d ≤ 16) (hk : k < 2 ^ d) : turnB k (d : Int) = turn d 0 k := if_pos (by simp [standsB, hk]; omega)
theorem turnB_lt {d k : Nat} (hd : d ≤ 16) (hk : k < 2 ^ d) : turnB k (d : Int) < 2 ^ d := by rw [turnB_in hd hk]; exact turn_lt d k
theorem turnB_turnB {d k : Nat} (hd : d ≤ 16) (hk : k < 2 ^ d) : turnB (turnB k (d : Int)) (d : Int) = k := by rw [turnB_in hd (turnB_lt hd hk), turnB_in hd hk, turn_turn hk]
theorem Strs.tail {b o : Nat} {X : (List UInt8)} {L : List (List UInt8)} {w : World} (h : Strs (some ⟨b, o, none⟩) (X :: L) w) : Strs (some ⟨b, o + 1, none⟩) L w := by
  rcases h with h | ⟨b', o', e, h1, h2⟩
  · cases h
  · cases e
    refine .inr ⟨b, o + 1, rfl, h1, fun i hi => ?_⟩
    have := h2 (i + 1) (by simpa using hi)
    rw [List.getElem_cons_succ] at this
    rw [show o + 1 + i = o + (i + 1) by omega]
    exact this
end Go.Proofs.YtblimejnjboedaaDoor
/- What is needed, as rows in memory; leaves of positions; how many digests a proof has. -/
namespace Go.Proofs.YtblimejnjboedaaDoor
open Go.RowKit Go.Sort

/-- a row whose block lies from lo on below hi -/
def RowAt (lo hi : Nat) (ai : Option Addr) (N : List Nat) (w : World) : Prop := N = [] ∨ ∃ g, ai = some ⟨g, 0, none⟩ ∧ lo ≤ g ∧ g < hi ∧ ∀ t (h : t < N.length), w.cell? ⟨g, t, none⟩ = some (.int .u64 (N[t] : Int))
theorem RowAt.kept {lo hi : Nat} {ai : Option Addr} {N : List Nat} {w w' : World} (h : RowAt lo hi ai N w) (hw : hi ≤ w.heap.size) (hk : Kept (fun j => lo ≤ j ∧ j < hi) w w') : RowAt lo hi ai N w' := by
  rcases h with h6 | ⟨g, g1, g2, g3, g4⟩
  · exact .inl h6
  · exact .inr ⟨g, g1, g2, g3, fun t ht => (World.cell?_of_block (a := ⟨g, t, none⟩) (hk.block g (by omega) ⟨g2, g3⟩)).trans (g4 t ht)⟩
/-- rows of rows, all of whose blocks lie from lo on below hi -/
def RowsIn (lo hi : Nat) (bo : Option Addr) (M : List (List Nat)) (w : World) : Prop :=
  M = [] ∨ ∃ b, bo = some ⟨b, 0, none⟩ ∧ lo ≤ b ∧ b < hi ∧ ∀ i (h : i < M.length), ∃ ai ci, w.cell? ⟨b, i, none⟩ = some (.slice ai (M[i]).length ci) ∧ RowAt lo hi ai M[i] w
theorem RowsIn.kept {lo hi : Nat} {bo : Option Addr} {M : List (List Nat)} {w w' : World} (h : RowsIn lo hi bo M w) (hw : hi ≤ w.heap.size) (hk : Kept (fun j => lo ≤ j ∧ j < hi) w w') : RowsIn lo hi bo M w' := by
  rcases h with h | ⟨b, h1, h2, h3, h4⟩
  · exact .inl h
  · refine .inr ⟨b, h1, h2, h3, fun i hi' => ?_⟩
    obtain ⟨ai, ci, h5, h6⟩ := h4 i hi'
    exact ⟨ai, ci, (World.cell?_of_block (a := ⟨b, i, none⟩) (hk.block b (by omega) ⟨h2, h3⟩)).trans h5, h6.kept hw hk⟩
theorem needs_in (ao : Option Addr) (cap : Nat) (L : List Nat) (n d : Nat) (w : World) (hN : Nums ao L w) (hn0 : L.length = n) (h0 : L ≠ []) (hn : L.length ≤ 1000) (hs : ∀ x ∈ L, x < 2 ^ d) (hd : d ≤ 16) :
    Calls Tryd.prog 18 #[.slice ao n cap, .int .i64 (d : Int)] w fun e w' => ∃ (bo : Option Addr) (cp : Nat), e = .returned (.slice bo d cp) ∧ RowsIn w.heap.size w'.heap.size bo (needM L d) w' ∧ Below w.heap.size w w' := by
  subst hn0
  have hp : 2 ^ d ≤ 2 ^ 16 := Nat.pow_le_pow_right (by decide) hd
  refine (needs49_any ao cap L d w hN (fun x hx => by have := hs x hx; omega) h0 hn (fun x hx => by have := hs x hx; simp [standsB, this]; omega) hd).mono ?_
  rintro e w' ⟨v, vs, Ms, rfl, hown, hMs, hrows, hb⟩
  have hvl : vs.length = d := by simpa using hown.1
  have hall : ∀ i N, Ms[i]? = some N → ∃ x, vs[i]? = some x ∧ w'.ownsRow w.heap.size 33 1 x N.length (N.map encU) ∧ Need49 (upTo L i) N := by
    intro i N hN'
    have hi := (List.getElem?_eq_some_iff.1 hN').1
    obtain ⟨x, hx⟩ : ∃ x, vs[i]? = some x := ⟨_, List.getElem?_eq_getElem (by omega)⟩
    exact ⟨x, hx, hrows i x N hx hN'⟩
  have hNd : Needs L d Ms := ⟨hMs, fun i N h => by obtain ⟨x, _, _, h3⟩ := hall i N h; exact h3.1⟩
  obtain rfl := hNd.eq (needs_M hs)
  have hlt := hown.lt
  have hown0 := hown
  rcases hown.2 with ⟨rfl, hd0⟩ | ⟨g, cp, cur, rfl, h1, h2, h3, h4, h5, h6⟩
  · exact ⟨none, 0, by rw [hd0], .inl (List.length_eq_zero_iff.1 (by omega)), hb⟩
  · refine ⟨_, cp, rfl, .inr ⟨g, rfl, h1, lit_lt h2, fun i hi => ?_⟩, hb⟩
    obtain ⟨x, hx, hrow, _⟩ := hall i (needM L d)[i] (List.getElem?_eq_getElem hi)
    obtain ⟨ai, ci, rfl, hn3, hn4⟩ := nums_of_row hrow
    refine ⟨ai, ci, (hown0.cellAt i (by omega)).trans hx, ?_⟩
    rcases hrow.2 with ⟨_, hz⟩ | ⟨g2, cp2, cur2, e2, k1, k2, k3, k4, k5, k6⟩
    · exact .inl (List.length_eq_zero_iff.1 hz)
    · cases e2
      refine .inr ⟨g2, rfl, k1, lit_lt k2, fun t ht => ?_⟩
      rw [hrow.cellAt t (by omega), List.getElem?_map, List.getElem?_eq_getElem ht]
      rfl
/-- what is known of positions -/
abbrev lvs (P : List Nat) (d : Nat) : List Nat := P.map fun x => turnB x (d : Int)
/-- how many digests a proof has -/
def sizeD (P : List Nat) (n : Nat) : Nat := pre (needM (lvs P (dep n)) (dep n)) (dep n)
theorem sizeD_le {P : List Nat} {n : Nat} (h : standsP P n = true) (hn : n ≤ 65536) : sizeD P n ≤ P.length * dep n := by
  have hpp := stands_parts h
  refine pre_bound (fun N hN => ?_) _ (by rw [needM_len]; exact Nat.le_refl _)
  obtain ⟨i, hi⟩ := List.getElem?_of_mem hN
  have h1 := need_le ((needs_M (L := lvs P (dep n)) (d := dep n) (fun x hx => by
    obtain ⟨y, hy, rfl⟩ := List.mem_map.1 hx
    exact turnB_lt (dep_le n hn) (Nat.lt_of_lt_of_le (hpp.2.2 y hy) (dep_spec n hn).1))).2 i N hi)
  simpa [upTo] using h1
end Go.Proofs.YtblimejnjboedaaDoor
/- Hashes of one text, of two; what a walk keeps. -/
namespace Go.Proofs.YtblimejnjboedaaDoor
open Go.RowKit

theorem hash1_any (tag x : (List UInt8)) (wz : World) (hg : Glob wz) (ht : tag.length ≤ 16) (hx : x.length ≤ 10000000) : Calls Tryd.prog 9 #[.string ⟨tag.toArray⟩, .slice (some ⟨wz.heap.size, 0, none⟩) 1 1] (wz.alloc (.cells #[.string ⟨x.toArray⟩] 9)) fun e w' => e = .returned (.string ⟨(hashL tag [x]).toArray⟩) ∧ Below wz.heap.size wz w' := by
  refine (hash_any tag (some ⟨wz.heap.size, 0, none⟩) 1 [x] _ (hg.below hg.size (by0 wz _)) (strs_new wz [x] _ rfl) (by unfold maxLen; omega) (Nat.lt_of_lt_of_le (framed_short tag [x] ht (by simpa using hx) (by simp)) (by decide))).mono ?_
  rintro e w' ⟨h1, h2⟩
  exact ⟨h1, below_next (by0 wz _) h2⟩
theorem hash2_any (tag x y : (List UInt8)) (wz : World) (hg : Glob wz) (ht : tag.length ≤ 16) (hx : x.length ≤ 10000000) (hy : y.length ≤ 10000000) : Calls Tryd.prog 9 #[.string ⟨tag.toArray⟩, .slice (some ⟨wz.heap.size, 0, none⟩) 2 2] (wz.alloc (.cells #[.string ⟨x.toArray⟩, .string ⟨y.toArray⟩] 9)) fun e w' => e = .returned (.string ⟨(hashL tag [x, y]).toArray⟩) ∧ Below wz.heap.size wz w' := by
  refine (hash_any tag (some ⟨wz.heap.size, 0, none⟩) 2 [x, y] _ (hg.below hg.size (by0 wz _)) (strs_new wz [x, y] _ rfl) (by unfold maxLen; omega) (Nat.lt_of_lt_of_le (framed_short tag [x, y] ht (by intro z hz; simp at hz; rcases hz with rfl | rfl <;> assumption) (by simp)) (by decide))).mono ?_
  rintro e w' ⟨h1, h2⟩
  exact ⟨h1, below_next (by0 wz _) h2⟩
/-- what the law's walks keep -/
structure Wl (w0 wz : World) : Prop where
  g : Glob wz
  o : Below w0.heap.size w0 wz
theorem Wl.next {w0 wz wa : World} (h : Wl w0 wz) (hb : Below wz.heap.size wz wa) : Wl w0 wa := ⟨h.g.below h.g.size hb, below_next h.o hb⟩
theorem hash_at (wz : World) (A B : (List UInt8)) (sz : Nat) (hg : Glob wz) (hz : sz = wz.heap.size) (hA : A.length ≤ 32) (hB : B.length ≤ 32) : Calls Tryd.prog 9 #[.string ⟨#[110, 111, 100, 101]⟩, .slice (some ⟨sz, 0, none⟩) 2 2] (wz.alloc (.cells #[.string ⟨A.toArray⟩, .string ⟨B.toArray⟩] 9)) fun e w' => e = .returned (.string ⟨(hashL nodeT [A, B]).toArray⟩) ∧ Below wz.heap.size wz w' := by
  subst hz
  exact hash2_any nodeT A B wz hg (by decide) (by omega) (by omega)
abbrev LeS (p1 p2 : Addr) (v1 v2 : Value) (W wz : World) : Prop := wz.cell? p1 = some v1 ∧ wz.cell? p2 = some v2 ∧ Below W.heap.size W wz
theorem le_next {p1 p2 : Addr} {v1 v2 : Value} {W wz wa : World} (h : LeS p1 p2 v1 v2 W wz) (hb : Below wz.heap.size wz wa) : LeS p1 p2 v1 v2 W wa :=
  ⟨(World.cell?_of_block (hb.block _ (World.block_lt_of_cell? wz _ h.1))).trans h.1, (World.cell?_of_block (hb.block _ (World.block_lt_of_cell? wz _ h.2.1))).trans h.2.1, h.2.2.trans (hb.mono h.2.2.size)⟩
theorem le_alloc {p1 p2 : Addr} {v1 v2 : Value} {W wz : World} (h : LeS p1 p2 v1 v2 W wz) (o : Obj) : LeS p1 p2 v1 v2 W (wz.alloc o) := le_next h (by0 wz o)
theorem le_drew {p1 p2 : Addr} {v1 v2 : Value} {W wz : World} (h : LeS p1 p2 v1 v2 W wz) : LeS p1 p2 v1 v2 W wz.drew := le_next h (Below.refl _ _).drew
theorem below_row {w w1 w2 : World} {b : Nat} (h : Below w.heap.size w w1) (g : w1.grownBy w2 (some b)) (hb : w.heap.size ≤ b) : Below w.heap.size w w2 :=
  ⟨g.os.trans h.os, g.tape.trans h.tape, g.output.trans h.output, Nat.le_trans h.size g.size, fun j hj => (g.block j (by have := h.size; omega) (fun e => by cases e; omega)).trans (h.block j hj)⟩
theorem le_row {p1 p2 : Addr} {v1 v2 : Value} {W wz wa : World} {b : Nat} (h : LeS p1 p2 v1 v2 W wz) (hg : wz.grownBy wa (some b)) (hb : W.heap.size ≤ b) (h1 : p1.block < W.heap.size) (h2 : p2.block < W.heap.size) : LeS p1 p2 v1 v2 W wa :=
  ⟨(World.cell?_of_block (hg.block _ (World.block_lt_of_cell? wz _ h.1) (fun e => by cases e; omega))).trans h.1, (World.cell?_of_block (hg.block _ (World.block_lt_of_cell? wz _ h.2.1) (fun e => by cases e; omega))).trans h.2.1, below_row h.2.2 hg hb⟩
end Go.Proofs.YtblimejnjboedaaDoor
/- Tables of texts under numbers: maps of uint64 to whatever holds just one text (a string, a struct with a string); ranged over, too. -/
namespace Go.Proofs.YtblimejnjboedaaDoor
open Go.RowKit Go.ChangeMaps Go.MapKept Go.WideShapes
open Go.Maps (Keyed)

/-- how an element that is a text reads; how it is laid -/
structure Shape (R : Value → Option (DataW Unit × List MemPlace)) (enc : (List UInt8) → Value) : Prop where
  lay : ∀ X, R (enc X) = some (.lit (.string X), [])
  all : ∀ v y, R v = some y → ∃ X, v = enc X
theorem Shape.inv {R : Value → Option (DataW Unit × List MemPlace)} {enc : (List UInt8) → Value} (h : Shape R enc) {v : Value} {X : (List UInt8)} {ps : List MemPlace} (e : R v = some (.lit (.string X), ps)) : v = enc X := by
  obtain ⟨Y, rfl⟩ := h.all v _ e
  rw [h.lay] at e
  simp at e
  rw [e.1]
def strElem : Value → Option (DataW Unit × List MemPlace)
  | .string s => some (.lit (.string s.data.toList), [])
  | _ => none
def strEnc (X : (List UInt8)) : Value := .string ⟨X.toArray⟩
theorem strShape : Shape strElem strEnc := by
  refine ⟨fun X => by simp [strElem, strEnc], fun v y h => ?_⟩
  unfold strElem at h
  cases v <;> simp at h
  rename_i s
  exact ⟨s.data.toList, by simp [strEnc]⟩

section
variable {P : Program} {ku : TypeId} {R : Value → Option (DataW Unit × List MemPlace)} {enc : (List UInt8) → Value}

/-- block b is a table of the texts h, of the numbers of K alone; no more than n stores made it -/
def TabAt (P : Program) (ku : TypeId) (R : Value → Option (DataW Unit × List MemPlace)) (b n : Nat) (h : Nat → (List UInt8)) (K : List Nat) (w : World) : Prop :=
  ∃ D : DataW Unit, w.ownsMap P ku R b n D ∧ ∀ k : Nat, Maps.has D (lit k) = decide (k ∈ K) ∧ D.atKey (lit k) (.lit (.string [])) = .lit (.string (if k ∈ K then h k else []))
theorem TabAt.made (P : Program) (ku : TypeId) (R : Value → Option (DataW Unit × List MemPlace)) (h : Nat → (List UInt8)) (w : World) : TabAt P ku R w.heap.size 0 h [] (w.alloc (.map #[] 0)) :=
  ⟨.map [], World.ownsMap_made w _ _ _, fun k => by simp [Maps.has_eq, DataW.atKey]⟩
variable {b n : Nat} {h h' : Nat → (List UInt8)} {K K' V : List Nat} {w w' : World}
theorem TabAt.kept {row : Option Nat} (t : TabAt P ku R b n h K w) (hg : w.grownBy w' row) (hr : some b ≠ row) : TabAt P ku R b n h K w' := by
  obtain ⟨D, h1, h2⟩ := t
  exact ⟨D, h1.kept hg hr, h2⟩
theorem TabAt.next (t : TabAt P ku R b n h K w) (hb : Below w.heap.size w w') : TabAt P ku R b n h K w' :=
  t.kept (row := none) ⟨hb.os, hb.tape, hb.output, hb.size, fun j hj _ => hb.block j hj⟩ (by simp)
theorem TabAt.lt (t : TabAt P ku R b n h K w) : b < w.heap.size := by
  obtain ⟨D, h1, _⟩ := t
  exact h1.lt
theorem TabAt.mono {m : Nat} (t : TabAt P ku R b n h K w) (hm : n ≤ m) : TabAt P ku R b m h K w := by
  obtain ⟨D, h1, h2⟩ := t
  exact ⟨D, h1.mono hm, h2⟩
theorem TabAt.block (t : TabAt P ku R b n h K w) (e : w'.heap[b]? = w.heap[b]?) : TabAt P ku R b n h K w' := by
  obtain ⟨D, ⟨es, clock, h0, h1⟩, h2⟩ := t
  exact ⟨D, ⟨es, clock, e.trans h0, h1⟩, h2⟩
theorem TabAt.of (t : TabAt P ku R b n h K w) (e : ∀ x, x ∈ K ↔ x ∈ K') (eh : ∀ x ∈ K, h x = h' x) : TabAt P ku R b n h' K' w := by
  obtain ⟨D, h1, h2⟩ := t
  refine ⟨D, h1, fun k => ?_⟩
  obtain ⟨a1, a2⟩ := h2 k
  refine ⟨by rw [a1]; exact decide_eq_decide.2 (e k), ?_⟩
  rw [a2]
  by_cases c : k ∈ K
  · rw [if_pos c, if_pos ((e k).1 c), eh k c]
  · rw [if_neg c, if_neg (fun d => c ((e k).2 d))]
theorem TabAt.look_ok (S : Shape R enc) {t e : TypeId} (T : TabAt P ku R b n h K w) (KU : Keyed P ku) (hk : P.underlying ku = some (.int .u64)) (ht : P.underlying t = some (.map ku e)) (hz : (zeroValue e).run P w = .ok (enc []) w) {k : Nat} (hk64 : k < 18446744073709551616) :
    (Instr.lookup t (.map (some b)) (.int .u64 (k : Int)) true).run P w = .ok (.tuple #[enc (if k ∈ K then h k else []), .bool (decide (k ∈ K))]) w := by
  obtain ⟨D, hown, hD⟩ := T
  obtain ⟨v, ps, hrun, hat⟩ := hown.look_ok KU ht hz (S.lay []) (Maps.keyOf_int_mk hk (lit_wf hk64))
  obtain ⟨a1, a2⟩ := hD k
  rw [show Lit.int .u64 (k : Int) = lit k from rfl] at hat hrun
  rw [a2] at hat
  rw [hrun, S.inv hat, a1]
theorem TabAt.look (S : Shape R enc) {t e : TypeId} (T : TabAt P ku R b n h K w) (KU : Keyed P ku) (hk : P.underlying ku = some (.int .u64)) (ht : P.underlying t = some (.map ku e)) (hz : (zeroValue e).run P w = .ok (enc []) w) {k : Nat} (hk64 : k < 18446744073709551616) :
    (Instr.lookup t (.map (some b)) (.int .u64 (k : Int)) false).run P w = .ok (enc (if k ∈ K then h k else [])) w := by
  obtain ⟨D, hown, hD⟩ := T
  obtain ⟨v, ps, hrun, hat⟩ := hown.lookup KU ht hz (S.lay []) (Maps.keyOf_int_mk hk (lit_wf hk64))
  obtain ⟨a1, a2⟩ := hD k
  rw [show Lit.int .u64 (k : Int) = lit k from rfl] at hat
  rw [a2] at hat
  rw [hrun, S.inv hat]
theorem tab_put {D : DataW Unit} (hm : Maps.IsMap D) {h : Nat → (List UInt8)} {K : List Nat} (hD : ∀ k : Nat, Maps.has D (lit k) = decide (k ∈ K) ∧ D.atKey (lit k) (.lit (.string [])) = .lit (.string (if k ∈ K then h k else []))) (x : Nat) (k : Nat) :
    Maps.has (D.put (lit x) (.lit (.string (h x)))) (lit k) = decide (k ∈ K ++ [x]) ∧ (D.put (lit x) (.lit (.string (h x)))).atKey (lit k) (.lit (.string [])) = .lit (.string (if k ∈ K ++ [x] then h k else [])) := by
  by_cases e : k = x
  · subst e
    rw [Maps.has_put_same hm (lit_key k), Maps.atKey_put_same hm (lit_key k)]
    simp
  · rw [Maps.has_put_other (fun c => e (lit_inj.1 c)), Maps.atKey_put_other (fun c => e (lit_inj.1 c))]
    obtain ⟨a1, a2⟩ := hD k
    rw [a1, a2]
    simp [e]
theorem TabAt.put (S : Shape R enc) {t e : TypeId} (T : TabAt P ku R b n h K w) (KU : Keyed P ku) (hk : P.underlying ku = some (.int .u64)) (ht : P.underlying t = some (.map ku e)) (hn : n ≤ 100000) {x : Nat} (hx : x < 18446744073709551616) :
    ∃ w', (Instr.mapUpdate t (.map (some b)) (.int .u64 (x : Int)) (enc (h x))).run P w = .ok () w' ∧ TabAt P ku R b (n + 1) h (K ++ [x]) w' ∧ w.grownBy w' (some b) := by
  obtain ⟨D, hown, hD⟩ := T
  obtain ⟨w', h1, h2, h3⟩ := hown.update KU ht (by unfold maxLen; omega) (Maps.keyOf_int_mk hk (lit_wf hx)) (S.lay (h x))
  exact ⟨w', h1, ⟨_, h2, tab_put hown.isMap hD x⟩, h3⟩
/-- a table that is being ranged over: those of V have come -/
def RangeTab (P : Program) (ku : TypeId) (R : Value → Option (DataW Unit × List MemPlace)) (b r n : Nat) (h : Nat → (List UInt8)) (K V : List Nat) (w : World) : Prop :=
  ∃ (D : DataW Unit) (left : Lit → Bool) (cnt : Nat), w.ranges P ku R b r n D left cnt ∧ (∀ k : Nat, Maps.has D (lit k) = decide (k ∈ K) ∧ D.atKey (lit k) (.lit (.string [])) = .lit (.string (if k ∈ K then h k else []))) ∧ (∀ k : Nat, left (lit k) = decide (k ∈ K ∧ k ∉ V)) ∧ V.Nodup ∧ (∀ x ∈ V, x ∈ K) ∧ (∀ x ∈ V, x < 18446744073709551616) ∧ V.length + cnt ≤ n
theorem RangeTab.tab {r : Nat} (t : RangeTab P ku R b r n h K V w) : TabAt P ku R b n h K w := by
  obtain ⟨D, left, cnt, h1, h2, _⟩ := t
  exact ⟨D, h1.owns, h2⟩
theorem RangeTab.kept {r : Nat} {row : Option Nat} (t : RangeTab P ku R b r n h K V w) (hg : w.grownBy w' row) (hb : some b ≠ row) (hr : some r ≠ row) : RangeTab P ku R b r n h K V w' := by
  obtain ⟨D, left, cnt, h1, h2⟩ := t
  exact ⟨D, left, cnt, h1.kept hg hb hr, h2⟩
theorem RangeTab.left {r : Nat} (t : RangeTab P ku R b r n h K V w) : ∃ cnt, w.rangeLeft b r = cnt ∧ V.length + cnt ≤ n := by
  obtain ⟨D, left, cnt, h1, _, _, _, _, _, h3⟩ := t
  exact ⟨cnt, h1.left_eq, h3⟩
end

section
variable {P : Program} {ku : TypeId} {R : Value → Option (DataW Unit × List MemPlace)} {enc : (List UInt8) → Value}
variable (w : World) {ops : Array Oper} {rest : List Oper} {o : Oper} {a : Act} {Q : Exit → Act → World → Prop}
theorem wpList_range_tab (hg : o.guard = none) (m : Operand) (t : TypeId) (hop : o.op = Op.range t m) (e : TypeId) (KU : Keyed P ku) (ht : P.underlying t = some (.map ku e)) (b n : Nat) (h : Nat → (List UInt8)) (L : List Nat)
    (hm : a.eval m = .map (some b)) (hset : TabAt P ku R b n h L w)
    (hK : ∀ w', RangeTab P ku R b w.heap.size n h L [] w' → w.grownBy w' none → w'.heap.size = w.heap.size + 1 → wpList P ops Q rest (a.put o.dst (.pointer (some ⟨w.heap.size, 0, none⟩))) w') :
    wpList P ops Q (o :: rest) a w := by
  obtain ⟨D, h1, h2⟩ := hset
  refine wpList_range_own w hg m t hop ku e KU ht R b n D hm h1 fun w' hr hg' hs => hK w' ⟨D, _, _, hr, h2, fun k => by rw [(h2 k).1]; simp, List.nodup_nil, by simp, by simp, by simpa using h1.size_le⟩ hg' hs
theorem wpList_next_tab (S : Shape R enc) (hg : o.guard = none) (it : Operand) (hop : o.op = Op.next it false) (KU : Keyed P ku) (hk : P.underlying ku = some (.int .u64)) (b r n : Nat) (h : Nat → (List UInt8)) (L V : List Nat)
    (hit : a.eval it = .pointer (some ⟨r, 0, none⟩)) (T : RangeTab P ku R b r n h L V w)
    (hDone : (∀ x, x ∈ L ↔ x ∈ V) → wpList P ops Q rest (a.put o.dst (.tuple #[.bool false])) w)
    (hMore : ∀ (x : Nat) (w' : World), x < 18446744073709551616 → x ∈ L → x ∉ V → RangeTab P ku R b r n h L (V ++ [x]) w' → w'.rangeLeft b r < w.rangeLeft b r → w.grownBy w' (some r) → w'.heap.size = w.heap.size →
      (Instr.entry (.pointer (some ⟨r, 0, none⟩))).run P w' = .ok (.tuple #[.int .u64 (x : Int), enc (h x)]) w' → wpList P ops Q rest (a.put o.dst (.tuple #[.bool true, .int .u64 (x : Int), enc (h x)])) w') :
    wpList P ops Q (o :: rest) a w := by
  obtain ⟨D, left, cnt, h1, h2, h3, h4, h5, h6, h7⟩ := T
  refine wpList_next_ranges w hg it hop ku KU R (Value.int .u64) enc (fun key kl hkey => by obtain ⟨x, rfl, _⟩ := Maps.keyOf_int_inv hk hkey; exact ⟨x, rfl⟩)
    (fun v y hv => S.all v y hv) b r n D left cnt hit h1 (fun h0 hl => hDone fun x => ⟨fun hx => ?_, fun hx => h5 x hx⟩) (fun z c kl y w' cnt' hkey hlk hv hat hrg hlt hgr hsz hen => ?_)
  · have := hl (lit x)
    rw [h3] at this
    simpa [hx] using this
  · obtain ⟨z', ez, rfl, hw⟩ := Maps.keyOf_int_inv hk hkey
    cases ez
    obtain ⟨x, rfl, hx⟩ := lit_of hw
    have hxl : x ∈ L ∧ x ∉ V := by
      have := h3 x
      rw [show left (lit x) = true from hlk] at this
      simpa using this
    have hc : c = h x := by
      have e1 := hat (.lit (.string []))
      rw [S.lay] at hv
      cases hv
      rw [show Lit.int .u64 (x : Int) = lit x from rfl, (h2 x).2, if_pos hxl.1] at e1
      simpa using e1.symm
    subst hc
    refine hMore x w' hx hxl.1 hxl.2 ⟨D, _, cnt', hrg, h2, fun k => ?_, ?_, ?_, ?_, by simp; omega⟩ (by rw [hrg.left_eq, h1.left_eq]; exact hlt) hgr hsz hen
    · rw [h3, show Lit.sameKey (lit k) (Lit.int .u64 (x : Int)) = (lit k).sameKey (lit x) from rfl, lit_same]
      by_cases e : k = x <;> simp [e]
    · rw [List.nodup_append]
      exact ⟨h4, by simp, fun a ha b hb => by simp at hb; subst hb; exact fun e => hxl.2 (e ▸ ha)⟩
    · intro y hy
      rcases List.mem_append.1 hy with h | h
      · exact h5 y h
      · simp at h; subst h; exact hxl.1
    · intro y hy
      rcases List.mem_append.1 hy with h | h
      · exact h6 y h
      · simp at h; subst h; exact hx
end
end Go.Proofs.YtblimejnjboedaaDoor
/- Lists of texts in new memory. -/
namespace Go.Proofs.YtblimejnjboedaaDoor
open Go.RowKit

theorem info_str : (Tryd.prog.info? 9).map (fun i => (i.zero, i.size, i.bytes)) = some (some (.string ⟨#[]⟩), 1, 16) := by kernel_rfl
def strC (L : List (List UInt8)) : List Value := L.map fun x => Value.string ⟨x.toArray⟩
theorem strC_get {L : List (List UInt8)} {i : Nat} (h : i < L.length) : (strC L)[i]? = some (.string ⟨L[i].toArray⟩) := by simp [strC, h]
theorem strC_len (L : List (List UInt8)) : (strC L).length = L.length := by simp [strC]
theorem strC_one (L : List (List UInt8)) : ∀ v ∈ strC L, v.oneCell' = true := by
  intro v hv
  obtain ⟨x, _, rfl⟩ := List.mem_map.1 hv
  rfl
/-- a list in new memory -/
def FewP (L : List (List UInt8)) (lo : Nat) (ao : Option Addr) (cp : Nat) (w : World) : Prop := (L = [] ∧ ao = none ∧ cp = 0) ∨ (L ≠ [] ∧ ∃ g cs, ao = some ⟨g, 0, none⟩ ∧ lo ≤ g ∧ w.heap[g]? = some (Obj.cells cs 9 (0, 0)) ∧ L.length ≤ cp ∧ ∀ i (h : i < L.length), cs[i]? = some (.string ⟨L[i].toArray⟩))
theorem FewP.strs {L : List (List UInt8)} {lo : Nat} {ao : Option Addr} {cp : Nat} {w : World} (h : FewP L lo ao cp w) : Strs ao L w := by
  rcases h with ⟨rfl, _⟩ | ⟨_, g, cs, rfl, _, h, _, hc⟩
  · exact .inl rfl
  · refine .inr ⟨g, 0, rfl, lit_lt h, fun i hi => ?_⟩
    rw [Nat.zero_add, lit_cell h]
    exact hc i hi
theorem FewP.below {L : List (List UInt8)} {lo : Nat} {ao : Option Addr} {cp : Nat} {w w' : World} (h : FewP L lo ao cp w) (hb : Below w.heap.size w w') : FewP L lo ao cp w' := by
  rcases h with h | ⟨h0, g, cs, e, h1, h2, h3, h4⟩
  · exact .inl h
  · exact .inr ⟨h0, g, cs, e, h1, (hb.block g (lit_lt h2)).trans h2, h3, h4⟩
theorem FewP.two {L : List (List UInt8)} {lo : Nat} {ao : Option Addr} {cp : Nat} {w : World} (h : FewP L lo ao cp w) : (L = [] ∧ ao = none ∧ cp = 0) ∨ (L ≠ [] ∧ Strs ao L w) := by
  rcases h with h | ⟨h0, h1⟩
  · exact .inl h
  · exact .inr ⟨h0, FewP.strs (lo := lo) (cp := cp) (.inr ⟨h0, h1⟩)⟩
theorem few_of_row {L : List (List UInt8)} {lo : Nat} {v : Value} {w : World} (ho : w.ownsRow lo 9 1 v L.length (strC L)) (hne : L ≠ []) : ∃ ao cp, v = .slice ao L.length cp ∧ FewP L lo ao cp w := by
  have hz := List.length_pos_iff.2 hne
  obtain ⟨h1, ⟨rfl, h3⟩ | ⟨g, cp, cur, rfl, h3, h4, h5, h6, h7⟩⟩ := ho
  · omega
  · refine ⟨_, cp, rfl, .inr ⟨hne, g, cur, rfl, h3, h4, h5, fun i hi => ?_⟩⟩
    have e : (cur.toList.take (L.length * 1))[i]? = (strC L)[i]? := by rw [h7.2]
    rw [List.getElem?_take_of_lt (by omega), Array.getElem?_toList] at e
    rw [e]
    exact strC_get hi
theorem strs_of_row {L : List (List UInt8)} {lo : Nat} {v : Value} {w : World} (ho : w.ownsRow lo 9 1 v L.length (strC L)) : ∃ ao cp, v = .slice ao L.length cp ∧ Strs ao L w := by
  by_cases hne : L = []
  · subst hne
    obtain ⟨h1, ⟨rfl, h3⟩ | ⟨g, cp, cur, rfl, _⟩⟩ := ho
    · exact ⟨none, 0, rfl, .inl rfl⟩
    · exact ⟨_, cp, rfl, .inl rfl⟩
  · obtain ⟨ao, cp, h1, h2⟩ := few_of_row ho hne
    exact ⟨ao, cp, h1, h2.strs⟩
theorem extract_take (X : (List UInt8)) (m : Nat) : (∃ k : Nat, min (X.length : Int) (m : Int) = (k : Int) ∧ k ≤ X.length ∧ (⟨X.toArray⟩ : ByteArray).extract 0 k = ⟨(X.take m).toArray⟩) := by
  refine ⟨min X.length m, by omega, by omega, ?_⟩
  rw [extract_list, List.drop_zero]
  congr 2
  by_cases h : X.length ≤ m
  · rw [Nat.min_eq_left h, List.take_of_length_le (Nat.le_refl _), List.take_of_length_le h]
  · rw [Nat.min_eq_right (by omega)]
/-- the first k texts, the first m bytes of each -/
def cutBy (L : List (List UInt8)) (k m : Nat) : List (List UInt8) := (L.take k).map (·.take m)
theorem cutBy_len (L : List (List UInt8)) (k m : Nat) : (cutBy L k m).length ≤ k ∧ (cutBy L k m).length ≤ L.length := by rw [cutBy, List.length_map, List.length_take]; omega
theorem cutBy_short (L : List (List UInt8)) (k m i : Nat) (h : i < (cutBy L k m).length) : (cutBy L k m)[i].length ≤ m := by
  simp only [cutBy, List.getElem_map, List.length_take]
  omega
theorem cutBy_snoc (L : List (List UInt8)) (k m : Nat) (X : (List UInt8)) (h : k < L.length) (hX : L[k] = X) : strC (cutBy L k m) ++ [.string ⟨(X.take m).toArray⟩] = strC (cutBy L (k + 1) m) := by
  subst hX
  rw [cutBy, cutBy, List.take_succ_eq_append_getElem h, List.map_append, strC, strC, List.map_append]
  rfl
theorem strs_cap_of_row {L : List (List UInt8)} {lo : Nat} {v : Value} {w : World} (ho : w.ownsRow lo 9 1 v L.length (strC L)) : ∃ ao cp, v = .slice ao L.length cp ∧ Strs ao L w ∧ L.length ≤ cp := by
  obtain ⟨ao, cp, rfl, h⟩ := strs_of_row ho
  refine ⟨ao, cp, rfl, h, ?_⟩
  obtain ⟨_, ⟨h2, h3⟩ | ⟨g, c, cur, e, _, _, h5, _⟩⟩ := ho
  · omega
  · cases e; exact h5
end Go.Proofs.YtblimejnjboedaaDoor
