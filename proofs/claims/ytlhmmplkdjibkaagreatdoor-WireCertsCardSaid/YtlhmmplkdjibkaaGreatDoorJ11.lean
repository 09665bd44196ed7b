/- A list that is read: what lies meanwhile; append as a step. -/
import Derived.Test.YtlhmmplkdjibkaaGreatDoorJ10
import Derived.Maps.AppendAt
namespace Go.Proofs.YtlhmmplkdjibkaaGreatDoor
open Go.RowKit

/-- append to a row of one's own, as one step of a region that draws: where the row lies then -/
theorem step_append_at {P : Program} {w : World} {ops : Array Oper} {o : Oper} {a : Act} {K : Act → World → Prop} {Q : Exit → Act → World → Prop} {E : Prop} (hgd : o.guard = none) (s x : Operand) (t : TypeId)
    (ho : o.op = .call { callee := .builtin .append, args := #[s, x], argTypes := #[t, t] })
    (base : Nat) (e : TypeId) (i : TypeInfo) (z : Value) (size bytes : Nat) (ht : P.underlying t = some (.slice e)) (hi : P.info? e = some i) (hz : i.zero = some z)
    (hsize : i.size = size) (hby : i.bytes = bytes) (hzs : z.cells.size = size) (hsz : 0 < size)
    (v : Value) (n : Nat) (xs : List Value) (hs : a.eval s = v) (hown : w.ownsRow base e size v n xs)
    (ad : Addr) (m c : Nat) (news : List Value) (hx : a.eval x = .slice (some ad) m c) (hl : news.length = m * size) (hnews : ∀ j u, news[j]? = some u → w.cell? (ad.add j) = some u) (h1 : ∀ u ∈ news, u.oneCell' = true)
    (h63 : n + m ≤ maxLen) (hbytes : (n + m) * bytes ≤ 140737488355328) (hbase : base ≤ w.heap.size)
    (h : ∀ v' w', w'.ownsRow base e size v' (n + m) (xs ++ news) → w.grownBy w' v.ownBlock → K (a.put o.dst v') w') :
    if Region.wanted o (yielded ops a.tmps) = true then Oper.wp P o a w K Q else E := by
  have hw : Region.wanted o (yielded ops a.tmps) = true := by simp [Region.wanted, hgd]
  rw [if_pos hw]
  exact wp_append_own w s x t ho base e i z size bytes ht hi hz hsize hby hzs hsz v n xs hs hown ad m c news hx hl hnews h1 h63 hbytes hbase fun v' w' h2 h3 _ => h v' w' h2 h3

/-- what comes of a reading of many, behind some that were read -/
def app {α : Type} (l : List α) (k : Nat) : Res (List α) → Res (List α)
  | .ok (l2, k2) => .ok (l ++ l2, k + k2)
  | .error f => .error f
theorem manyG_step {α : Type} (g : (List UInt8) → Nat → Res α) (n : Nat) (left : (List UInt8)) (a : Nat) (l : List α) (d : Nat) : app l d (manyG g (n + 1) left a) = match g left a with
    | .error f => .error f
    | .ok (x, k) => app (l ++ [x]) (d + k) (manyG g n (left.drop k) (a + k)) := by
  rw [manyG]
  cases g left a with
  | error f => rfl
  | ok q =>
    obtain ⟨x, k⟩ := q
    simp only
    cases manyG g n (left.drop k) (a + k) with
    | error f => rfl
    | ok q => obtain ⟨l2, k2⟩ := q; simp [app, Nat.add_assoc]
/-- a list of at most m, also of none -/
def lraw {α : Type} (m : Nat) (g : (List UInt8) → Nat → Res α) (left : (List UInt8)) (a : Nat) : Res (List α) := match takeE 3 left a with
  | .error f => .error f
  | .ok ((n, _), k) => if m < n then .error (3, 0) else app [] k (manyG g n (left.drop k) (a + k))
/-- it, in a field's words -/
def lrd {α : Type} (m : Nat) (g : (List UInt8) → Nat → Res α) (left : (List UInt8)) (a : Nat) : Res (Option (List α)) := match lraw m g left a with
  | .error f => .error f
  | .ok ([], k) => .ok (none, k)
  | .ok (l, k) => .ok (some l, k)
theorem manyG_len {α : Type} (g : (List UInt8) → Nat → Res α) : ∀ (n : Nat) (left : (List UInt8)) (a : Nat) (l : List α) (k : Nat), manyG g n left a = .ok (l, k) → l.length = n
  | 0, _, _, _, _, h => by cases h; rfl
  | n + 1, left, a, l, k, h => by
    rw [manyG] at h
    cases hg : g left a with
    | error f => rw [hg] at h; cases h
    | ok p =>
      obtain ⟨x, k1⟩ := p
      rw [hg] at h
      simp only at h
      cases hm : manyG g n (left.drop k1) (a + k1) with
      | error f => rw [hm] at h; cases h
      | ok q =>
        obtain ⟨l2, k2⟩ := q
        rw [hm] at h
        cases h
        rw [List.length_cons, manyG_len g n _ _ _ _ hm]
theorem listG_lrd {α : Type} (m : Nat) (g : (List UInt8) → Nat → Res α) (left : (List UInt8)) (a : Nat) : listG m g left a = match lrd m g left a with
    | .ok (some v, k) => .ok (v, k)
    | .ok (none, _) => .error (5, 0)
    | .error f => .error f := by
  rw [listG, lrd, lraw]
  cases takeE 3 left a with
  | error f => rfl
  | ok q =>
    obtain ⟨⟨n, t⟩, k⟩ := q
    simp only
    by_cases h1 : m < n
    · rw [if_pos h1, if_pos h1]
    · rw [if_neg h1, if_neg h1]
      by_cases h0 : n = 0
      · subst h0; rfl
      · rw [if_neg h0]
        cases hm : manyG g n (left.drop k) (a + k) with
        | error f => rfl
        | ok q =>
          obtain ⟨l, k2⟩ := q
          have hl := manyG_len g n _ _ _ _ hm
          cases l with
          | nil => exact absurd hl.symm h0
          | cons x l => rfl

/-- what is wanted of the world in which a list is read: where the list is to lie, what the closure captures -/
structure LAt (ka kr t o rb N F : Nat) (C : Array Value) (w : World) : Prop where
  a : Cap ka t o w
  r : w.cell? ⟨kr, 0, none⟩ = some (.func (.func F) #[] C)
  n : w.cell? ⟨N, 0, none⟩ = some (.pointer (some ⟨rb, 0, none⟩))
  l : ka < w.heap.size ∧ kr < w.heap.size ∧ N < w.heap.size ∧ t < w.heap.size
/-- none of these blocks is another -/
structure Apart (ka kr t rb N : Nat) : Prop where
  a : ka ≠ rb ∧ ka ≠ t
  r : kr ≠ rb ∧ kr ≠ t
  n : N ≠ rb ∧ N ≠ t
  t : t ≠ rb
theorem LAt.keep {ka kr t o rb N F : Nat} {C : Array Value} {w w' : World} (h : LAt ka kr t o rb N F C w) (hs : w.heap.size ≤ w'.heap.size) (h1 : w'.heap[ka]? = w.heap[ka]?) (h2 : w'.heap[kr]? = w.heap[kr]?) (h3 : w'.heap[N]? = w.heap[N]?) : LAt ka kr t o rb N F C w' :=
  ⟨(World.cell?_of_block (a := ⟨ka, 0, none⟩) h1).trans h.a, (World.cell?_of_block (a := ⟨kr, 0, none⟩) h2).trans h.r, (World.cell?_of_block (a := ⟨N, 0, none⟩) h3).trans h.n, by have := h.l; omega⟩
theorem LAt.below {ka kr t o rb N F : Nat} {C : Array Value} {w w' : World} (h : LAt ka kr t o rb N F C w) (hb : Below w.heap.size w w') : LAt ka kr t o rb N F C w' := h.keep hb.size (hb.block _ h.l.1) (hb.block _ h.l.2.1) (hb.block _ h.l.2.2.1)
theorem LAt.only {ka kr t o rb N F : Nat} {C : Array Value} {w w' : World} (h : LAt ka kr t o rb N F C w) (ho : Only rb w w') (hp : Apart ka kr t rb N) : LAt ka kr t o rb N F C w' := h.keep ho.size (ho.block _ h.l.1 hp.a.1) (ho.block _ h.l.2.1 hp.r.1) (ho.block _ h.l.2.2.1 hp.n.1)
theorem LAt.set {ka kr t o rb N F : Nat} {C : Array Value} {w : World} (h : LAt ka kr t o rb N F C w) (v : Value) (hp : Apart ka kr t rb N) : LAt ka kr t o rb N F C (w.setCell ⟨t, o, none⟩ v) := h.keep (by simp [World.setCell]) (lit_far v hp.a.2) (lit_far v hp.r.2) (lit_far v hp.n.2)
end Go.Proofs.YtlhmmplkdjibkaaGreatDoor
/- The closures of lists that read. -/
namespace Go.Proofs.YtlhmmplkdjibkaaGreatDoor
open Go.RowKit

theorem one_new (w : World) (v : Value) (T : TypeId) : ∀ (j : Nat) (u : Value), [v][j]? = some u → (w.alloc (.cells #[v] T)).cell? ((⟨w.heap.size, 0, none⟩ : Addr).add j) = some u := by
  intro j u hj
  match j, hj with
  | 0, hj =>
    simp at hj; subst hj
    rw [Addr.add_mid, Nat.zero_add, lit_cell (heap_alloc_new w _)]
    rfl
theorem own_slice {w : World} {base E sz : Nat} {v : Value} {n : Nat} {xs : List Value} (h : w.ownsRow base E sz v n xs) : ∃ ao ln cp, v = .slice ao ln cp := by
  rcases h.2 with ⟨rfl, _⟩ | ⟨g, cap, cur, rfl, _⟩
  · exact ⟨_, _, _, rfl⟩
  · exact ⟨_, _, _, rfl⟩
theorem own_only {w w' : World} {base E sz rb : Nat} {v : Value} {n : Nat} {xs : List Value} (h : w.ownsRow base E sz v n xs) (ho : Only rb w w') (hb : rb < base) : w'.ownsRow base E sz v n xs :=
  h.kept (w' := w') (row := some rb) ⟨ho.os, ho.tape, ho.output, ho.size, fun k hk hne => ho.block k hk (fun e => hne (by rw [e]))⟩ (by
    cases hv : v.ownBlock with
    | none => exact .inl rfl
    | some k => exact .inr (fun e => by cases e; have := (h.lt _ hv).1; omega))
/-- a list of nothing is nil -/
def Emp {α : Type} (l : List α) (v : Value) : Prop := l = [] → v = .slice none 0 0
/-- what is so while a list is read -/
structure LSt {α : Type} (E sz : Nat) (Rel : List α → List Value → World → Prop) (ka kr t o rb N F : Nat) (C : Array Value) (base : Nat) (T : TypeId) (cs0 : Array Value) (S : (List UInt8)) (a : Nat) (l : List α) (w wr : World) : Prop where
  la : LAt ka kr t o rb N F C wr
  h : ∃ v xs, wr.heap[t]? = some (.cells (cs0.setIfInBounds o v) T (0, 0)) ∧ wr.ownsRow base E sz v l.length xs ∧ Rel l xs wr ∧ Emp l v
  s : RdS rb S a wr
  d : Duo rb t w wr
  b : base ≤ wr.heap.size
/-- what comes of a list that is read -/
def LRd {α : Type} (E sz : Nat) (Rel : List α → List Value → World → Prop) (rb t o : Nat) (S : (List UInt8)) (a : Nat) (T : TypeId) (cs0 : Array Value) (w : World) (res : Res (List α)) (e : Ending) (w' : World) : Prop := match res with
  | .ok (l, k) => e = .returned (.tuple #[]) ∧ (∃ v xs, w'.heap[t]? = some (.cells (cs0.setIfInBounds o v) T (0, 0)) ∧ w'.ownsRow (w.heap.size + 1) E sz v l.length xs ∧ Rel l xs w' ∧ Emp l v) ∧ RQ rb S (a + k) 10240 w' ∧ a + k ≤ S.length ∧ Duo rb t w w'
  | .error (c, b) => c ≠ 0 ∧ Up w.heap.size c b e w' ∧ Duo rb t w w' ∧ ∃ l v xs, w'.heap[t]? = some (.cells (cs0.setIfInBounds o v) T (0, 0)) ∧ w'.ownsRow (w.heap.size + 1) E sz v (List.length (α := α) l) xs ∧ Rel l xs w' ∧ Emp l v
theorem lst_tail {α : Type} {E sz : Nat} {Rel : List α → List Value → World → Prop} {ka kr t o rb N F : Nat} {C : Array Value} {T : TypeId} {cs0 : Array Value} {S : (List UInt8)} {a d k : Nat} {l : List α} {x : α} {v v6 : Value} {xs vals : List Value} {w w8 w4 w6 : World} {obj : Obj} {m : Nat}
    (hH : LAt ka kr t o rb N F C w8) (hB0 : w8.heap[t]? = some (.cells (cs0.setIfInBounds o v) T (0, 0))) (hD8 : Duo rb t w w8) (hOW : w8.ownsRow (N + 1) E sz v l.length xs) (hap : Apart ka kr t rb N) (hlo : ka < N ∧ kr < N ∧ t < N ∧ rb < N) (hwN : w.heap.size = N) (hbs : N + 1 ≤ w8.heap.size)
    (ho4 : Only rb w8 w4) (hr4 : RQ rb S (a + d + k) 10240 w4) (ha4 : a + d + k ≤ S.length) (hR8 : RdS rb S m w8) (hG : 4 ≤ rb ∧ 4 ≤ t) (hown6 : w6.ownsRow (N + 1) E sz v6 (l.length + 1) (xs ++ vals)) (hg6 : (w4.alloc obj).grownBy w6 v.ownBlock) (hRel : Rel (l ++ [x]) (xs ++ vals) (w6.setCell ⟨t, o, none⟩ v6)) :
    LAt ka kr t o rb N F C w6 ∧ w6.heap[t]? = some (.cells (cs0.setIfInBounds o v) T (0, 0)) ∧ LSt E sz Rel ka kr t o rb N F C (N + 1) T cs0 S (a + (d + k)) (l ++ [x]) w (w6.setCell ⟨t, o, none⟩ v6) := by
  have hs4 := ho4.size
  have hk : ∀ q, q < N + 1 → q ≠ rb → w6.heap[q]? = w8.heap[q]? := fun q hq hne =>
    (hg6.block q (by rw [World.size_alloc]; omega) (fun e => by have := (hOW.lt q e.symm).1; omega)).trans ((heap_alloc_old _ _ (by omega)).trans (ho4.block q (by omega) hne))
  have hs6 : w4.heap.size + 1 ≤ w6.heap.size := by have := hg6.size; rw [World.size_alloc] at this; exact this
  have hL6 : LAt ka kr t o rb N F C w6 := hH.keep (by omega) (hk ka (by omega) hap.a.1) (hk kr (by omega) hap.r.1) (hk N (by omega) hap.n.1)
  have hT6 := (hk t (by omega) hap.t).trans hB0
  have hrb : w6.heap[rb]? = w4.heap[rb]? := (hg6.block rb (by rw [World.size_alloc]; omega) (fun e => by have := (hOW.lt rb e.symm).1; omega)).trans (heap_alloc_old _ _ (by omega))
  have hr6 : (w6.setCell ⟨t, o, none⟩ v6).heap[rb]? = w4.heap[rb]? := (lit_far v6 (fun e => hap.t e.symm)).trans hrb
  have hk2 : ∀ q, q < N + 1 → q ≠ rb → q ≠ t → (w6.setCell ⟨t, o, none⟩ v6).heap[q]? = w8.heap[q]? := fun q hq h1 h2 => (lit_far v6 h2).trans (hk q hq h1)
  have hD : Duo rb t w (w6.setCell ⟨t, o, none⟩ v6) := by
    have hs8 := hD8.size
    refine ⟨(hg6.os.trans ho4.os).trans hD8.os, (hg6.tape.trans ho4.tape).trans hD8.tape, (hg6.output.trans ho4.output).trans hD8.output, by simp [World.setCell]; omega, fun q hq h1 h2 => (hk2 q (by omega) h1 h2).trans (hD8.block q hq h1 h2)⟩
  have hg : GlobU (w6.setCell ⟨t, o, none⟩ v6) := by
    have he : 0 < w8.heap.size := World.block_lt_of_cell? w8 _ hR8.g.e
    exact ⟨(World.cell?_of_block (a := ⟨0, 0, none⟩) (hk2 0 (by omega) (by omega) (by omega))).trans hR8.g.e,
      by have := hR8.g.r.size; simp [World.setCell]; omega, fun i j hi hj => (World.cell?_of_block (a := ⟨3, i * 5 + j, none⟩) (hk2 3 (by omega) (by omega) (by omega))).trans (hR8.g.r.c i j hi hj)⟩
  refine ⟨hL6, hT6, hL6.set v6 hap, ⟨v6, xs ++ vals, ?_, ?_, hRel, fun h => absurd h (by simp)⟩, ⟨⟨?_, hr4.m⟩, hg, hR8.s, by omega⟩, hD, by simp [World.setCell]; omega⟩
  · rw [lit_set _ hT6]
    simp
  · rw [List.length_append]
    exact own_only hown6 (Only.set t o v6 w6) (by omega)
  · rw [RAt, hr6, show a + (d + k) = a + d + k by omega]
    exact hr4.r

/-- a text, a number that a closure reads -/
def ERdS (rb : Nat) (S : (List UInt8)) (a : Nat) (w : World) (res : Res (List UInt8)) (e : Ending) (w' : World) : Prop := match res with
  | .ok (x, k) => e = .returned (.string ⟨x.toArray⟩) ∧ RQ rb S (a + k) 10240 w' ∧ a + k ≤ S.length ∧ Only rb w w'
  | .error (c, b) => c ≠ 0 ∧ Up w.heap.size c b e w' ∧ Only rb w w'
def ERdN (rb : Nat) (S : (List UInt8)) (a : Nat) (w : World) (res : Res Nat) (e : Ending) (w' : World) : Prop := match res with
  | .ok (x, k) => e = .returned (.int .u64 (x : Int)) ∧ RQ rb S (a + k) 10240 w' ∧ a + k ≤ S.length ∧ Only rb w w'
  | .error (c, b) => c ≠ 0 ∧ Up w.heap.size c b e w' ∧ Only rb w w'
def strV (l : List (List UInt8)) : List Value := l.map fun s => .string ⟨s.toArray⟩
def intV (l : List Nat) : List Value := l.map fun (n : Nat) => .int .u64 (n : Int)
def RelS (l : List (List UInt8)) (xs : List Value) (_ : World) : Prop := xs = strV l
def RelN (l : List Nat) (xs : List Value) (_ : World) : Prop := xs = intV l
theorem infoS9 : ∃ i0, Tryz.prog.info? 9 = some i0 ∧ i0.zero = some (.string ⟨#[]⟩) ∧ i0.size = 1 ∧ i0.bytes = 16 := info_parts (by kernel_rfl)
theorem infoU64 : ∃ i0, Tryz.prog.info? 22 = some i0 ∧ i0.zero = some (.int .u64 0) ∧ i0.size = 1 ∧ i0.bytes = 8 := info_parts (by kernel_rfl)

set_option maxRecDepth 100000 in
set_option maxHeartbeats 4000000 in
theorem listS3_any (ka km kr t o rb F most : Nat) (C : Array Value) (T : TypeId) (cs0 : Array Value) (g : (List UInt8) → Nat → Res (List UInt8)) (S : (List UInt8)) (a : Nat) (w : World) (hent : Ent F) (hR : RdS rb S a w) (hka : Cap ka t o w) (hkm : w.cell? ⟨km, 0, none⟩ = some (.int .i64 (most : Int))) (hkr : w.cell? ⟨kr, 0, none⟩ = some (.func (.func F) #[] C))
    (ht : w.heap[t]? = some (.cells cs0 T (0, 0))) (ho : cs0[o]? = some (.slice none 0 0)) (hne : ka ≠ rb ∧ ka ≠ t ∧ kr ≠ rb ∧ kr ≠ t ∧ km ≠ rb ∧ t ≠ rb) (hG : 4 ≤ rb ∧ 4 ≤ t) (hm : most ≤ 10240)
    (hE : ∀ a w1, Duo rb t w w1 → RdS rb S a w1 → Calls Tryz.prog F (#[.agg #[.pointer (some ⟨rb, 0, none⟩)]] ++ C) w1 (ERdS rb S a w1 (g (S.drop a) a))) :
    Calls Tryz.prog 144 #[.agg #[.pointer (some ⟨rb, 0, none⟩)], .pointer (some ⟨km, 0, none⟩), .pointer (some ⟨ka, 0, none⟩), .pointer (some ⟨kr, 0, none⟩)] w (LRd 9 1 RelS rb t o S a T cs0 w (lraw most g (S.drop a) a)) := by
  have hka0 : ka < w.heap.size := World.block_lt_of_cell? w _ hka
  have hkm0 : km < w.heap.size := World.block_lt_of_cell? w _ hkm
  have hkr0 : kr < w.heap.size := World.block_lt_of_cell? w _ hkr
  have ht0 : t < w.heap.size := lit_lt ht
  have hrb0 := hR.lt
  have h1 := hR.next (by0 w (.cells #[.pointer (some ⟨rb, 0, none⟩)] 124))
  obtain ⟨P, hP⟩ : ∃ P, takeP (S.drop a) 10240 3 = P := ⟨_, rfl⟩
  obtain ⟨hT, hfit, haP⟩ := took4 S a 3 hR.a P hP
  have h0 := reader_c.list rb S a 10240 _ h1.r h1.g h1.s h1.a
  rw [hP] at h0
  have HM := Lib.hid h0
  have HB1 := Lib.hid (by0 w (.cells #[.pointer (some ⟨rb, 0, none⟩)] 124))
  have HN := Lib.hid (heap_alloc_new w (.cells #[.pointer (some ⟨rb, 0, none⟩)] 124))
  have hkm1 := (World.cell?_alloc_lt w (.cells #[.pointer (some ⟨rb, 0, none⟩)] 124) ⟨km, 0, none⟩ hkm0).trans hkm
  have HAP : Hid (Apart ka kr t rb w.heap.size) := Lib.hid ⟨⟨hne.1, hne.2.1⟩, ⟨hne.2.2.1, hne.2.2.2.1⟩, by omega, hne.2.2.2.2.2⟩
  have HL1 : Hid (LAt ka kr t o rb w.heap.size F C (w.alloc (.cells #[.pointer (some ⟨rb, 0, none⟩)] 124))) := Lib.hid ⟨(World.cell?_alloc_lt w _ ⟨ka, 0, none⟩ hka0).trans hka, (World.cell?_alloc_lt w _ ⟨kr, 0, none⟩ hkr0).trans hkr, (lit_cell HN.out 0).trans rfl, by simp; omega⟩
  have HT1 : Hid ((w.alloc (.cells #[.pointer (some ⟨rb, 0, none⟩)] 124)).heap[t]? = some (.cells cs0 T (0, 0))) := Lib.hid (lit_old _ ht)
  have HS1 := Lib.hid h1
  have HLO0 : Hid (ka < w.heap.size ∧ kr < w.heap.size ∧ t < w.heap.size ∧ rb < w.heap.size) := Lib.hid ⟨hka0, hkr0, ht0, hrb0⟩
  have HKM : Hid (km ≠ rb) := Lib.hid hne.2.2.2.2.1
  have HKML : Hid (km < w.heap.size + 1) := Lib.hid (by omega)
  have HCS : Hid (cs0 = cs0.setIfInBounds o (.slice none 0 0)) := Lib.hid (by
    apply Array.ext_getElem?
    intro j
    rw [Array.getElem?_setIfInBounds]
    split
    · rename_i h; subst h
      rw [ho, if_pos (Array.getElem?_eq_some_iff.1 ho).1]
    · rfl)
  have HLT : Hid (o < cs0.size) := Lib.hid (Array.getElem?_eq_some_iff.1 ho).1
  have HENT := Lib.hid hent
  have HE := Lib.hid hE
  have HGL := Lib.hid hG
  have HPM := Lib.hid haP
  have hnl := hfit.n16 (by decide)
  have hal := hR.a
  have HSL := Lib.hid hR.s
  obtain ⟨N, hN⟩ : ∃ N, w.heap.size = N := ⟨_, rfl⟩
  obtain ⟨wA, hwA⟩ : ∃ wA, w.alloc (.cells #[.pointer (some ⟨rb, 0, none⟩)] 124) = wA := ⟨_, rfl⟩
  have HSA : Hid (wA.heap.size = N + 1) := Lib.hid (by rw [← hwA, World.size_alloc, hN])
  rw [hwA] at HM HB1 HN HL1 HT1 HS1 hkm1
  rw [hN] at HN HAP HL1 HKML HLO0
  have HLO : Hid (ka < N ∧ kr < N ∧ t < N ∧ rb < N) := HLO0
  clear HLO0
  have HNN := Lib.hid hN
  have HWA := Lib.hid hwA
  rw [lraw, hT]
  have n0 := (lit_cell HN.out 0).trans rfl
  clear h1 h0 hP hT hfit haP hR hka hkm hkr ht ho hne hE hG hka0 hkm0 hkr0 ht0 hrb0 hN hwA hent
  by_cases hc : P.c = 0
  · rw [if_pos hc]
    simp only
    obtain ⟨n, hn0⟩ : ∃ n, P.n = n := ⟨_, rfl⟩
    obtain ⟨k0, hk0⟩ : ∃ k0, P.m = k0 := ⟨_, rfl⟩
    rw [hn0, hk0, hc] at HM
    rw [hn0] at hnl
    rw [hk0] at HPM
    rw [hn0, hk0, List.drop_drop]
    have n1 : (n : Int) < 65536 := by omega
    have m1 : (most : Int) ≤ 10240 := by omega
    clear hn0 hk0 hc
    by_cases hmn : most < n
    · rw [if_pos hmn]
      have hle : decide (n ≤ most) = false := decide_eq_false (by omega)
      go_enter Tryz.func144, Tryz.ntmps144
      go_upto_region 1 with fail
      rw [HWA.out, HNN.out]
      go_wp2_with (first | (go_at_call 145; refine HM.out.mono ?_; rintro e w2 ⟨v, rfl, hv, hr2, ho2⟩; obtain rfl := hv.nil rfl; have km2 := (World.cell?_of_block (a := ⟨km, 0, none⟩) (ho2.block km (by have := HKML.out; have := HSA.out; omega) HKM.out)).trans hkm1) | (go_at_call 111; refine (sureI_ok _ w2).mono ?_; rintro e w2 ⟨rfl, rfl⟩) | (go_at_call 117; refine (must_no 3 w2).mono ?_; rintro e w3 ⟨⟨f, hf, rfl, hf0, hf1⟩, hb3⟩))
      exact ⟨rfl, by decide, ⟨f, by have := HB1.out.size; have := ho2.size; omega, rfl, hf0, hf1⟩, ((Duo.below HB1.out).trans (Duo.only ho2)).trans (Duo.below hb3), [], .slice none 0 0, [], ((hb3.block t (by have := HL1.out.l; have := ho2.size; omega)).trans ((ho2.block t HL1.out.l.2.2.2 HAP.out.t).trans HT1.out)).trans (by rw [← HCS.out]), World.ownsRow_nil _ _ _ _, rfl, fun _ => rfl⟩
    · rw [if_neg hmn]
      have hle : decide (n ≤ most) = true := decide_eq_true (by omega)
      obtain ⟨M, hM⟩ : ∃ M, app [] k0 (manyG g n (S.drop (a + k0)) (a + k0)) = M := ⟨_, rfl⟩
      rw [hM]
      have HMM := Lib.hid hM
      have HNM : Hid (n ≤ 10240) := Lib.hid (by omega)
      clear hM
      obtain ⟨i0, hi, hz, hs, hby⟩ := infoS9
      go_enter Tryz.func144, Tryz.ntmps144
      go_upto_region 1 with fail
      rw [HWA.out, HNN.out]
      go_upto_region 4 with (first | (go_at_call 145; refine HM.out.mono ?_; rintro e w2 ⟨v, rfl, hv, hr2, ho2⟩; obtain rfl := hv.nil rfl; have km2 := (World.cell?_of_block (a := ⟨km, 0, none⟩) (ho2.block km (by have := HKML.out; have := HSA.out; omega) HKM.out)).trans hkm1; have HO2 := Lib.hid ho2; have HR2 := Lib.hid hr2; clear ho2 hr2) | (go_at_call 111; refine (sureI_ok _ w2).mono ?_; rintro e w2 ⟨rfl, rfl⟩) | (go_at_call 117; refine (must_yes 3 w2).mono ?_; rintro e w2 ⟨rfl, rfl⟩))
      have HD2 : Hid (Duo rb t w w2) := Lib.hid ((Duo.below HB1.out).trans (Duo.only HO2.out))
      have HST2 : Hid (LSt 9 1 RelS ka kr t o rb N F C (N + 1) T cs0 S (a + k0) [] w w2) := Lib.hid ⟨HL1.out.only HO2.out HAP.out, ⟨.slice none 0 0, [], ((HO2.out.block t HL1.out.l.2.2.2 HAP.out.t).trans HT1.out).trans (by rw [← HCS.out]), World.ownsRow_nil _ _ _ _, rfl, fun _ => rfl⟩, ⟨HR2.out, HS1.out.g.duo (Duo.only (x := t) HO2.out) HGL.out.1 HGL.out.2, HSL.out, HPM.out⟩, HD2.out, by have := HO2.out.size; have := HSA.out; omega⟩
      clear n0 km2 hkm1 hnl hal HS1 HT1 HL1 HR2
      go_loopw [17] (fun iv wr => ∃ i m : Nat, ∃ l : List (List UInt8), ∃ d : Nat, i + m = n ∧ iv = .int .i64 (i : Int) ∧ Hid (l.length = i ∧ LSt 9 1 RelS ka kr t o rb N F C (N + 1) T cs0 S (a + d) l w wr) ∧ Hid (M = app l d (manyG g m (S.drop (a + d)) (a + d)))) (fun iv _ => (n : Int).toNat - (intOf iv).toNat)
      case atStart => exact ⟨0, n, [], k0, by omega, rfl, Lib.hid ⟨rfl, HST2.out⟩, Lib.hid HMM.out.symm⟩
      case round =>
        obtain ⟨i, m, l, d, him, rfl, HST, HEQ⟩ := hrel
        by_cases hm0 : m = 0
        · subst hm0
          obtain rfl : i = n := by omega
          have hl : ¬ (i : Int) < (i : Int) := by omega
          have HE2 : Hid (M = .ok (l, d)) := Lib.hid (by rw [HEQ.out]; simp [manyG, app])
          go_wp2
          refine bodyPost_end (results_none rfl _ _ _) rfl ?_
          rw [HE2.out]
          obtain ⟨v, xs, hv1, hv2, hv3⟩ := HST.out.2.h
          exact ⟨rfl, ⟨v, xs, hv1, by rw [HNN.out]; exact hv2, hv3⟩, HST.out.2.s.r, HST.out.2.s.a, HST.out.2.d⟩
        · obtain ⟨m', rfl⟩ : ∃ m', m = m' + 1 := ⟨m - 1, by omega⟩
          have hl : (i : Int) < (n : Int) := by omega
          have j0 : (0 : Int) ≤ (i : Int) := by omega
          have hi10 : (i : Int) < 10240 := by have := HNM.out; omega
          have hEQ2 := HEQ.out
          rw [manyG_step] at hEQ2
          go_upto_region 5 with fail
          have hH8 : LAt ka kr t o rb N F C wr.drew := HST.out.2.la.below (Below.refl _ _).drew
          have HD8 : Hid (Duo rb t w wr.drew) := Lib.hid (HST.out.2.d.trans (Duo.below (Below.refl _ _).drew))
          have HR8 := Lib.hid (HST.out.2.s.next (Below.refl _ _).drew)
          obtain ⟨v, xs, hv1, hv2, hv3⟩ := HST.out.2.h
          have HREL := Lib.hid hv3.1
          have HEMP := Lib.hid hv3.2
          have HB0 : Hid (wr.drew.heap[t]? = some (.cells (cs0.setIfInBounds o v) T (0, 0))) := Lib.hid hv1
          have HOW : Hid (wr.drew.ownsRow (N + 1) 9 1 v l.length xs) := Lib.hid hv2
          have HLL : Hid (l.length < 10240) := Lib.hid (by have := HST.out.1; have := HNM.out; omega)
          have HBS : Hid (N + 1 ≤ wr.heap.size) := Lib.hid HST.out.2.b
          have HSZ8 : Hid (wr.drew.heap.size = wr.heap.size) := Lib.hid rfl
          have HLI := Lib.hid HST.out.1
          have HEL := Lib.hid (HE.out (a + d) wr.drew HD8.out HR8.out)
          refine wp_region_held_drew (S := fun w' => LAt ka kr t o rb N F C w') (by kernel_rfl) hH8 (fun hH => ?_)
          generalize wr.drew = w8 at *
          clear hv1 hv2 hv3 hH8 hm0
          cases hg : g (S.drop (a + d)) (a + d) with
          | error f =>
            obtain ⟨c, b⟩ := f
            rw [hg] at hEQ2 HEL
            have HBAD : Hid (∀ w4 f, w8.heap.size ≤ f → w4.cell? ⟨f, 0, none⟩ = some (.int .i64 (c : Int)) → w4.cell? ⟨f, 1, none⟩ = some (.int .i64 (b : Int)) → Only rb w8 w4 → c ≠ 0 → LRd 9 1 RelS rb t o S a T cs0 w M (upF f) w4) := Lib.hid fun w4 f hf hf0 hf1 ho4 hc => by
              rw [hEQ2]
              exact ⟨hc, ⟨f, Nat.le_trans HD8.out.size hf, rfl, hf0, hf1⟩, HD8.out.trans (Duo.only ho4), l, v, xs, (ho4.block t hH.l.2.2.2 HAP.out.t).trans HB0.out, by rw [HNN.out]; exact own_only HOW.out ho4 (by have := HLO.out; omega), HREL.out, HEMP.out⟩
            clear hg hEQ2
            refine wpAnyH_take (i := 0) (oi := ⟨some 19, .load 108 (.tmp 2), _, _, _, none⟩) (v := .pointer (some ⟨t, o, none⟩)) rfl (by kernel_rfl) (by kernel_rfl) (by kernel_rfl) (fun _ _ _ h => h) (Or.inl ⟨by rfl, fun w hS => by have c0 := hS.a; go_simp⟩) hH ?_
            try simp only [Act.put, List.setIfInBounds_toArray, List.set_cons_succ, List.set_cons_zero]
            refine wpAnyH_take (i := 1) (oi := ⟨some 20, .load 108 (.tmp 2), _, _, _, none⟩) (v := .pointer (some ⟨t, o, none⟩)) rfl (by kernel_rfl) (by kernel_rfl) (by kernel_rfl) (fun _ _ _ h => h) (Or.inl ⟨by rfl, fun w hS => by have c0 := hS.a; go_simp⟩) hH ?_
            try simp only [Act.put, List.setIfInBounds_toArray, List.set_cons_succ, List.set_cons_zero]
            refine wpAnyH_take (i := 2) (oi := ⟨some 21, .nilCheck (.tmp 20), _, _, _, none⟩) (v := .pointer (some ⟨t, o, none⟩)) rfl (by kernel_rfl) (by kernel_rfl) (by kernel_rfl) (fun _ _ _ h => h) (Or.inl ⟨by rfl, fun _ _ => rfl⟩) hH ?_
            try simp only [Act.put, List.setIfInBounds_toArray, List.set_cons_succ, List.set_cons_zero]
            refine wpAnyH_take (i := 4) (oi := ⟨some 23, .load 173 (.tmp 3), _, _, _, none⟩) (v := .func (.func F) #[] C) rfl (by kernel_rfl) (by kernel_rfl) (by kernel_rfl) (fun _ _ _ h => h) (Or.inl ⟨by rfl, fun w hS => by have c0 := hS.r; go_simp⟩) hH ?_
            try simp only [Act.put, List.setIfInBounds_toArray, List.set_cons_succ, List.set_cons_zero]
            refine wpAnyH_take (i := 5) (oi := ⟨some 24, .load 124 (.tmp 4), _, _, _, none⟩) (v := .agg #[.pointer (some ⟨rb, 0, none⟩)]) rfl (by kernel_rfl) (by kernel_rfl) (by kernel_rfl) (fun _ _ _ h => h) (Or.inl ⟨by rfl, fun w hS => by have c0 := hS.n; go_simp⟩) hH ?_
            try simp only [Act.put, List.setIfInBounds_toArray, List.set_cons_succ, List.set_cons_zero]
            refine wpAnyH_ready (rs := [3, 6]) (by kernel_rfl) (by simp) (AllReadyH.cons (o := ⟨some 22, .load 25 (.tmp 21), _, _, _, none⟩) rfl (fun K hK => ?_) (AllReadyH.cons (o := ⟨some 25, .call ⟨.value (.tmp 23), #[.tmp 24], #[124]⟩, _, _, _, none⟩) rfl (fun K hK => ?_) AllReadyH.nil))
            · skip
              have c3 := (lit_cell HB0.out o).trans (Array.getElem?_setIfInBounds_self_of_lt HLT.out)
              go_simp
              refine hK.out _ _ hH (fun _ => ?_)
              clear hK K c3
              try simp only [Act.put, List.setIfInBounds_toArray, List.set_cons_succ, List.set_cons_zero]
              refine wpAnyH_ready (rs := [6]) (by kernel_rfl) (by simp) (AllReadyH.cons (o := ⟨some 25, .call ⟨.value (.tmp 23), #[.tmp 24], #[124]⟩, _, _, _, none⟩) rfl (fun K hK => ?_) AllReadyH.nil)
              have HK := Lib.hid hK
              clear hK
              have hent := HENT.out
              simp only [Ent] at hent
              go_simp
              refine HEL.out.mono ?_
              rintro e w4 ⟨hc4, ⟨f, hf, rfl, hf0, hf1⟩, ho4⟩
              exact ⟨rfl, HBAD.out _ f hf hf0 hf1 ho4 hc4⟩
            · skip
              have HK := Lib.hid hK
              clear hK
              have hent := HENT.out
              simp only [Ent] at hent
              go_simp
              refine HEL.out.mono ?_
              rintro e w4 ⟨hc4, ⟨f, hf, rfl, hf0, hf1⟩, ho4⟩
              exact ⟨rfl, HBAD.out _ f hf hf0 hf1 ho4 hc4⟩
          | ok q =>
            obtain ⟨x, k⟩ := q
            rw [hg] at hEQ2 HEL
            simp only at hEQ2
            have HE2 : Hid (M = app (l ++ [x]) (d + k) (manyG g m' (S.drop (a + (d + k))) (a + (d + k)))) := Lib.hid (by rw [hEQ2, List.drop_drop, show a + (d + k) = a + d + k by omega])
            have HOWN : Hid (∀ w4, Only rb w8 w4 → ∀ o', (w4.alloc o').ownsRow (N + 1) 9 1 v l.length xs) := Lib.hid fun w4 ho4 o' => (own_only HOW.out ho4 (by have := HLO.out; omega)).alloc o'
            have HBS8 : Hid (N + 1 ≤ w8.heap.size) := Lib.hid (by have := HBS.out; have := HSZ8.out; omega)
            clear hg hEQ2
            refine wpAnyH_take (i := 0) (oi := ⟨some 19, .load 108 (.tmp 2), _, _, _, none⟩) (v := .pointer (some ⟨t, o, none⟩)) rfl (by kernel_rfl) (by kernel_rfl) (by kernel_rfl) (fun _ _ _ h => h) (Or.inl ⟨by rfl, fun w hS => by have c0 := hS.a; go_simp⟩) hH ?_
            try simp only [Act.put, List.setIfInBounds_toArray, List.set_cons_succ, List.set_cons_zero]
            refine wpAnyH_take (i := 1) (oi := ⟨some 20, .load 108 (.tmp 2), _, _, _, none⟩) (v := .pointer (some ⟨t, o, none⟩)) rfl (by kernel_rfl) (by kernel_rfl) (by kernel_rfl) (fun _ _ _ h => h) (Or.inl ⟨by rfl, fun w hS => by have c0 := hS.a; go_simp⟩) hH ?_
            try simp only [Act.put, List.setIfInBounds_toArray, List.set_cons_succ, List.set_cons_zero]
            refine wpAnyH_take (i := 2) (oi := ⟨some 21, .nilCheck (.tmp 20), _, _, _, none⟩) (v := .pointer (some ⟨t, o, none⟩)) rfl (by kernel_rfl) (by kernel_rfl) (by kernel_rfl) (fun _ _ _ h => h) (Or.inl ⟨by rfl, fun _ _ => rfl⟩) hH ?_
            try simp only [Act.put, List.setIfInBounds_toArray, List.set_cons_succ, List.set_cons_zero]
            refine wpAnyH_take (i := 4) (oi := ⟨some 23, .load 173 (.tmp 3), _, _, _, none⟩) (v := .func (.func F) #[] C) rfl (by kernel_rfl) (by kernel_rfl) (by kernel_rfl) (fun _ _ _ h => h) (Or.inl ⟨by rfl, fun w hS => by have c0 := hS.r; go_simp⟩) hH ?_
            try simp only [Act.put, List.setIfInBounds_toArray, List.set_cons_succ, List.set_cons_zero]
            refine wpAnyH_take (i := 5) (oi := ⟨some 24, .load 124 (.tmp 4), _, _, _, none⟩) (v := .agg #[.pointer (some ⟨rb, 0, none⟩)]) rfl (by kernel_rfl) (by kernel_rfl) (by kernel_rfl) (fun _ _ _ h => h) (Or.inl ⟨by rfl, fun w hS => by have c0 := hS.n; go_simp⟩) hH ?_
            try simp only [Act.put, List.setIfInBounds_toArray, List.set_cons_succ, List.set_cons_zero]
            refine wpAnyH_ready (rs := [3, 6]) (by kernel_rfl) (by simp) (AllReadyH.cons (o := ⟨some 22, .load 25 (.tmp 21), _, _, _, none⟩) rfl (fun K hK => ?_) (AllReadyH.cons (o := ⟨some 25, .call ⟨.value (.tmp 23), #[.tmp 24], #[124]⟩, _, _, _, none⟩) rfl (fun K hK => ?_) AllReadyH.nil))
            · skip
              have c3 := (lit_cell HB0.out o).trans (Array.getElem?_setIfInBounds_self_of_lt HLT.out)
              go_simp
              refine hK.out _ _ hH (fun _ => ?_)
              clear hK K c3
              try simp only [Act.put, List.setIfInBounds_toArray, List.set_cons_succ, List.set_cons_zero]
              refine wpAnyH_ready (rs := [6]) (by kernel_rfl) (by simp) (AllReadyH.cons (o := ⟨some 25, .call ⟨.value (.tmp 23), #[.tmp 24], #[124]⟩, _, _, _, none⟩) rfl (fun K hK => ?_) AllReadyH.nil)
              have HK := Lib.hid hK
              clear hK
              have hent := HENT.out
              simp only [Ent] at hent
              go_simp
              refine HEL.out.mono ?_
              rintro e w4 ⟨rfl, hr4, ha4, ho4⟩
              have HL4 := Lib.hid (hH.only ho4 HAP.out)
              have HB4 := Lib.hid ((ho4.block t hH.l.2.2.2 HAP.out.t).trans HB0.out)
              refine HK.out.out _ _ HL4.out (fun _ => ?_)
              clear HK K
              try simp only [Act.put, List.setIfInBounds_toArray, List.set_cons_succ, List.set_cons_zero]
              refine wpAnyH_ready (rs := [7]) (by kernel_rfl) (by simp) (AllReadyH.cons (o := ⟨some 26, .buildSlice 25 1 #[(0, .tmp 25)], _, _, _, none⟩) rfl (fun K hK => ?_) AllReadyH.nil)
              have HL5 := Lib.hid (HL4.out.below (by0 w4 (.cells #[.string ⟨x.toArray⟩] 9)))
              have HB5 := Lib.hid (lit_old (w := w4) (.cells #[.string ⟨x.toArray⟩] 9) HB4.out)
              go_simp
              refine hK.out _ _ HL5.out (fun _ => ?_)
              clear hK K
              try simp only [Act.put, List.setIfInBounds_toArray, List.set_cons_succ, List.set_cons_zero]
              refine wpAnyH_ready (rs := [8]) (by kernel_rfl) (by simp) (AllReadyH.cons (o := ⟨some 27, .call ⟨.builtin .append, #[.tmp 22, .tmp 26], #[25, 25]⟩, _, _, _, none⟩) rfl (fun K hK => ?_) AllReadyH.nil)
              refine step_append_at rfl (.tmp 22) (.tmp 26) 25 rfl (N + 1) 9 i0 (.string ⟨#[]⟩) 1 16 Tryz.underlying25 hi hz hs hby rfl (by decide) v l.length xs rfl (HOWN.out w4 ho4 _) ⟨w4.heap.size, 0, none⟩ 1 1 [.string ⟨x.toArray⟩] rfl rfl (one_new w4 _ 9) (by intro u hu; simp at hu; subst hu; rfl) (by have := HLL.out; unfold maxLen; omega) (by have := HLL.out; omega) (by have := HBS.out; have := ho4.size; have := HSZ8.out; rw [World.size_alloc]; omega) ?_
              intro v6 w6 hown6 hg6
              have HT6 := Lib.hid (lst_tail (Rel := RelS) (x := x) hH HB0.out HD8.out HOW.out HAP.out HLO.out HNN.out HBS8.out ho4 hr4 ha4 HR8.out HGL.out hown6 hg6 (by show _ = strV (l ++ [x]); rw [strV, List.map_append, HREL.out]; rfl))
              refine hK.out _ _ HT6.out.1 (fun _ => ?_)
              clear hK K
              try simp only [Act.put, List.setIfInBounds_toArray, List.set_cons_succ, List.set_cons_zero]
              refine wpAnyH_ready (rs := [9]) (by kernel_rfl) (by simp) (AllReadyH.cons (o := ⟨some 28, .nilCheck (.tmp 19), _, _, _, none⟩) rfl (fun K hK => ?_) AllReadyH.nil)
              go_simp
              refine hK.out _ _ HT6.out.1 (fun _ => ?_)
              clear hK K
              try simp only [Act.put, List.setIfInBounds_toArray, List.set_cons_succ, List.set_cons_zero]
              have q0 := lit_free HT6.out.2.1 o
              have q1 := (lit_cell HT6.out.2.1 o).trans (Array.getElem?_setIfInBounds_self_of_lt HLT.out)
              obtain ⟨ao6, ln6, cp6, rfl⟩ := own_slice hown6
              refine wpAnyH_ready (rs := [10]) (by kernel_rfl) (by simp) (AllReadyH.cons (o := ⟨none, .store 25 (.tmp 28) (.tmp 27), _, _, _, none⟩) rfl (fun K hK => ?_) AllReadyH.nil)
              go_simp
              refine hK.out _ _ (HT6.out.1.set _ HAP.out) (fun _ => ?_)
              clear hK K
              try simp only [Act.put, List.setIfInBounds_toArray, List.set_cons_succ, List.set_cons_zero]
              refine wpAnyH_done (by kernel_rfl) ?_ _
              have HST6 := Lib.hid HT6.out.2.2
              generalize w6.setCell ⟨t, o, none⟩ (.slice ao6 ln6 cp6) = w7 at *
              clear q0 q1 HT6 hown6 hg6
              go_wp2
              exact ⟨⟨i + 1, m', l ++ [x], d + k, by omega, by go_num, Lib.hid ⟨by rw [List.length_append, HLI.out]; rfl, HST6.out⟩, HE2⟩, by simp [intOf] <;> omega⟩
            · skip
              have HK := Lib.hid hK
              clear hK
              have hent := HENT.out
              simp only [Ent] at hent
              go_simp
              refine HEL.out.mono ?_
              rintro e w4 ⟨rfl, hr4, ha4, ho4⟩
              have HL4 := Lib.hid (hH.only ho4 HAP.out)
              have HB4 := Lib.hid ((ho4.block t hH.l.2.2.2 HAP.out.t).trans HB0.out)
              refine HK.out.out _ _ HL4.out (fun _ => ?_)
              clear HK K
              try simp only [Act.put, List.setIfInBounds_toArray, List.set_cons_succ, List.set_cons_zero]
              refine wpAnyH_ready (rs := [3, 7]) (by kernel_rfl) (by simp) (AllReadyH.cons (o := ⟨some 22, .load 25 (.tmp 21), _, _, _, none⟩) rfl (fun K hK => ?_) (AllReadyH.cons (o := ⟨some 26, .buildSlice 25 1 #[(0, .tmp 25)], _, _, _, none⟩) rfl (fun K hK => ?_) AllReadyH.nil))
              · skip
                have c3 := (lit_cell HB4.out o).trans (Array.getElem?_setIfInBounds_self_of_lt HLT.out)
                go_simp
                refine hK.out _ _ HL4.out (fun _ => ?_)
                clear hK K c3
                try simp only [Act.put, List.setIfInBounds_toArray, List.set_cons_succ, List.set_cons_zero]
                refine wpAnyH_ready (rs := [7]) (by kernel_rfl) (by simp) (AllReadyH.cons (o := ⟨some 26, .buildSlice 25 1 #[(0, .tmp 25)], _, _, _, none⟩) rfl (fun K hK => ?_) AllReadyH.nil)
                have HL5 := Lib.hid (HL4.out.below (by0 w4 (.cells #[.string ⟨x.toArray⟩] 9)))
                have HB5 := Lib.hid (lit_old (w := w4) (.cells #[.string ⟨x.toArray⟩] 9) HB4.out)
                go_simp
                refine hK.out _ _ HL5.out (fun _ => ?_)
                clear hK K
                try simp only [Act.put, List.setIfInBounds_toArray, List.set_cons_succ, List.set_cons_zero]
                refine wpAnyH_ready (rs := [8]) (by kernel_rfl) (by simp) (AllReadyH.cons (o := ⟨some 27, .call ⟨.builtin .append, #[.tmp 22, .tmp 26], #[25, 25]⟩, _, _, _, none⟩) rfl (fun K hK => ?_) AllReadyH.nil)
                refine step_append_at rfl (.tmp 22) (.tmp 26) 25 rfl (N + 1) 9 i0 (.string ⟨#[]⟩) 1 16 Tryz.underlying25 hi hz hs hby rfl (by decide) v l.length xs rfl (HOWN.out w4 ho4 _) ⟨w4.heap.size, 0, none⟩ 1 1 [.string ⟨x.toArray⟩] rfl rfl (one_new w4 _ 9) (by intro u hu; simp at hu; subst hu; rfl) (by have := HLL.out; unfold maxLen; omega) (by have := HLL.out; omega) (by have := HBS.out; have := ho4.size; have := HSZ8.out; rw [World.size_alloc]; omega) ?_
                intro v6 w6 hown6 hg6
                have HT6 := Lib.hid (lst_tail (Rel := RelS) (x := x) hH HB0.out HD8.out HOW.out HAP.out HLO.out HNN.out HBS8.out ho4 hr4 ha4 HR8.out HGL.out hown6 hg6 (by show _ = strV (l ++ [x]); rw [strV, List.map_append, HREL.out]; rfl))
                refine hK.out _ _ HT6.out.1 (fun _ => ?_)
                clear hK K
                try simp only [Act.put, List.setIfInBounds_toArray, List.set_cons_succ, List.set_cons_zero]
                refine wpAnyH_ready (rs := [9]) (by kernel_rfl) (by simp) (AllReadyH.cons (o := ⟨some 28, .nilCheck (.tmp 19), _, _, _, none⟩) rfl (fun K hK => ?_) AllReadyH.nil)
                go_simp
                refine hK.out _ _ HT6.out.1 (fun _ => ?_)
                clear hK K
                try simp only [Act.put, List.setIfInBounds_toArray, List.set_cons_succ, List.set_cons_zero]
                have q0 := lit_free HT6.out.2.1 o
                have q1 := (lit_cell HT6.out.2.1 o).trans (Array.getElem?_setIfInBounds_self_of_lt HLT.out)
                obtain ⟨ao6, ln6, cp6, rfl⟩ := own_slice hown6
                refine wpAnyH_ready (rs := [10]) (by kernel_rfl) (by simp) (AllReadyH.cons (o := ⟨none, .store 25 (.tmp 28) (.tmp 27), _, _, _, none⟩) rfl (fun K hK => ?_) AllReadyH.nil)
                go_simp
                refine hK.out _ _ (HT6.out.1.set _ HAP.out) (fun _ => ?_)
                clear hK K
                try simp only [Act.put, List.setIfInBounds_toArray, List.set_cons_succ, List.set_cons_zero]
                refine wpAnyH_done (by kernel_rfl) ?_ _
                have HST6 := Lib.hid HT6.out.2.2
                generalize w6.setCell ⟨t, o, none⟩ (.slice ao6 ln6 cp6) = w7 at *
                clear q0 q1 HT6 hown6 hg6
                go_wp2
                exact ⟨⟨i + 1, m', l ++ [x], d + k, by omega, by go_num, Lib.hid ⟨by rw [List.length_append, HLI.out]; rfl, HST6.out⟩, HE2⟩, by simp [intOf] <;> omega⟩
              · skip
                have HL5 := Lib.hid (HL4.out.below (by0 w4 (.cells #[.string ⟨x.toArray⟩] 9)))
                have HB5 := Lib.hid (lit_old (w := w4) (.cells #[.string ⟨x.toArray⟩] 9) HB4.out)
                go_simp
                refine hK.out _ _ HL5.out (fun _ => ?_)
                clear hK K
                try simp only [Act.put, List.setIfInBounds_toArray, List.set_cons_succ, List.set_cons_zero]
                refine wpAnyH_ready (rs := [3]) (by kernel_rfl) (by simp) (AllReadyH.cons (o := ⟨some 22, .load 25 (.tmp 21), _, _, _, none⟩) rfl (fun K hK => ?_) AllReadyH.nil)
                have c3 := (lit_cell HB5.out o).trans (Array.getElem?_setIfInBounds_self_of_lt HLT.out)
                go_simp
                refine hK.out _ _ HL5.out (fun _ => ?_)
                clear hK K c3
                try simp only [Act.put, List.setIfInBounds_toArray, List.set_cons_succ, List.set_cons_zero]
                refine wpAnyH_ready (rs := [8]) (by kernel_rfl) (by simp) (AllReadyH.cons (o := ⟨some 27, .call ⟨.builtin .append, #[.tmp 22, .tmp 26], #[25, 25]⟩, _, _, _, none⟩) rfl (fun K hK => ?_) AllReadyH.nil)
                refine step_append_at rfl (.tmp 22) (.tmp 26) 25 rfl (N + 1) 9 i0 (.string ⟨#[]⟩) 1 16 Tryz.underlying25 hi hz hs hby rfl (by decide) v l.length xs rfl (HOWN.out w4 ho4 _) ⟨w4.heap.size, 0, none⟩ 1 1 [.string ⟨x.toArray⟩] rfl rfl (one_new w4 _ 9) (by intro u hu; simp at hu; subst hu; rfl) (by have := HLL.out; unfold maxLen; omega) (by have := HLL.out; omega) (by have := HBS.out; have := ho4.size; have := HSZ8.out; rw [World.size_alloc]; omega) ?_
                intro v6 w6 hown6 hg6
                have HT6 := Lib.hid (lst_tail (Rel := RelS) (x := x) hH HB0.out HD8.out HOW.out HAP.out HLO.out HNN.out HBS8.out ho4 hr4 ha4 HR8.out HGL.out hown6 hg6 (by show _ = strV (l ++ [x]); rw [strV, List.map_append, HREL.out]; rfl))
                refine hK.out _ _ HT6.out.1 (fun _ => ?_)
                clear hK K
                try simp only [Act.put, List.setIfInBounds_toArray, List.set_cons_succ, List.set_cons_zero]
                refine wpAnyH_ready (rs := [9]) (by kernel_rfl) (by simp) (AllReadyH.cons (o := ⟨some 28, .nilCheck (.tmp 19), _, _, _, none⟩) rfl (fun K hK => ?_) AllReadyH.nil)
                go_simp
                refine hK.out _ _ HT6.out.1 (fun _ => ?_)
                clear hK K
                try simp only [Act.put, List.setIfInBounds_toArray, List.set_cons_succ, List.set_cons_zero]
                have q0 := lit_free HT6.out.2.1 o
                have q1 := (lit_cell HT6.out.2.1 o).trans (Array.getElem?_setIfInBounds_self_of_lt HLT.out)
                obtain ⟨ao6, ln6, cp6, rfl⟩ := own_slice hown6
                refine wpAnyH_ready (rs := [10]) (by kernel_rfl) (by simp) (AllReadyH.cons (o := ⟨none, .store 25 (.tmp 28) (.tmp 27), _, _, _, none⟩) rfl (fun K hK => ?_) AllReadyH.nil)
                go_simp
                refine hK.out _ _ (HT6.out.1.set _ HAP.out) (fun _ => ?_)
                clear hK K
                try simp only [Act.put, List.setIfInBounds_toArray, List.set_cons_succ, List.set_cons_zero]
                refine wpAnyH_done (by kernel_rfl) ?_ _
                have HST6 := Lib.hid HT6.out.2.2
                generalize w6.setCell ⟨t, o, none⟩ (.slice ao6 ln6 cp6) = w7 at *
                clear q0 q1 HT6 hown6 hg6
                go_wp2
                exact ⟨⟨i + 1, m', l ++ [x], d + k, by omega, by go_num, Lib.hid ⟨by rw [List.length_append, HLI.out]; rfl, HST6.out⟩, HE2⟩, by simp [intOf] <;> omega⟩
  · rw [if_neg hc]
    have HC := Lib.hid hc
    clear hc
    go_enter Tryz.func144, Tryz.ntmps144
    go_upto_region 1 with fail
    rw [HWA.out, HNN.out]
    go_wp2_with (first | (go_at_call 145; refine HM.out.mono ?_; rintro e w2 ⟨v, rfl, hv, hr2, ho2⟩; obtain ⟨f, rfl, hup⟩ := hv.shape (by have := HC.out; omega)) | (go_at_call 111; refine (sureI_bad _ f w2).mono ?_; rintro e w2 ⟨rfl, rfl⟩))
    exact ⟨rfl, HC.out, hup.mono HB1.out.size, (Duo.below HB1.out).trans (Duo.only ho2), [], .slice none 0 0, [], ((ho2.block t HL1.out.l.2.2.2 HAP.out.t).trans HT1.out).trans (by rw [← HCS.out]), World.ownsRow_nil _ _ _ _, rfl, fun _ => rfl⟩

set_option maxRecDepth 100000 in
set_option maxHeartbeats 4000000 in
theorem listN3_any (ka km kr t o rb F most : Nat) (C : Array Value) (T : TypeId) (cs0 : Array Value) (g : (List UInt8) → Nat → Res Nat) (S : (List UInt8)) (a : Nat) (w : World) (hent : Ent F) (hR : RdS rb S a w) (hka : Cap ka t o w) (hkm : w.cell? ⟨km, 0, none⟩ = some (.int .i64 (most : Int))) (hkr : w.cell? ⟨kr, 0, none⟩ = some (.func (.func F) #[] C))
    (ht : w.heap[t]? = some (.cells cs0 T (0, 0))) (ho : cs0[o]? = some (.slice none 0 0)) (hne : ka ≠ rb ∧ ka ≠ t ∧ kr ≠ rb ∧ kr ≠ t ∧ km ≠ rb ∧ t ≠ rb) (hG : 4 ≤ rb ∧ 4 ≤ t) (hm : most ≤ 10240)
    (hE : ∀ a w1, Duo rb t w w1 → RdS rb S a w1 → Calls Tryz.prog F (#[.agg #[.pointer (some ⟨rb, 0, none⟩)]] ++ C) w1 (ERdN rb S a w1 (g (S.drop a) a))) :
    Calls Tryz.prog 150 #[.agg #[.pointer (some ⟨rb, 0, none⟩)], .pointer (some ⟨km, 0, none⟩), .pointer (some ⟨ka, 0, none⟩), .pointer (some ⟨kr, 0, none⟩)] w (LRd 22 1 RelN rb t o S a T cs0 w (lraw most g (S.drop a) a)) := by
  have hka0 : ka < w.heap.size := World.block_lt_of_cell? w _ hka
  have hkm0 : km < w.heap.size := World.block_lt_of_cell? w _ hkm
  have hkr0 : kr < w.heap.size := World.block_lt_of_cell? w _ hkr
  have ht0 : t < w.heap.size := lit_lt ht
  have hrb0 := hR.lt
  have h1 := hR.next (by0 w (.cells #[.pointer (some ⟨rb, 0, none⟩)] 124))
  obtain ⟨P, hP⟩ : ∃ P, takeP (S.drop a) 10240 3 = P := ⟨_, rfl⟩
  obtain ⟨hT, hfit, haP⟩ := took4 S a 3 hR.a P hP
  have h0 := reader_c.list rb S a 10240 _ h1.r h1.g h1.s h1.a
  rw [hP] at h0
  have HM := Lib.hid h0
  have HB1 := Lib.hid (by0 w (.cells #[.pointer (some ⟨rb, 0, none⟩)] 124))
  have HN := Lib.hid (heap_alloc_new w (.cells #[.pointer (some ⟨rb, 0, none⟩)] 124))
  have hkm1 := (World.cell?_alloc_lt w (.cells #[.pointer (some ⟨rb, 0, none⟩)] 124) ⟨km, 0, none⟩ hkm0).trans hkm
  have HAP : Hid (Apart ka kr t rb w.heap.size) := Lib.hid ⟨⟨hne.1, hne.2.1⟩, ⟨hne.2.2.1, hne.2.2.2.1⟩, by omega, hne.2.2.2.2.2⟩
  have HL1 : Hid (LAt ka kr t o rb w.heap.size F C (w.alloc (.cells #[.pointer (some ⟨rb, 0, none⟩)] 124))) := Lib.hid ⟨(World.cell?_alloc_lt w _ ⟨ka, 0, none⟩ hka0).trans hka, (World.cell?_alloc_lt w _ ⟨kr, 0, none⟩ hkr0).trans hkr, (lit_cell HN.out 0).trans rfl, by simp; omega⟩
  have HT1 : Hid ((w.alloc (.cells #[.pointer (some ⟨rb, 0, none⟩)] 124)).heap[t]? = some (.cells cs0 T (0, 0))) := Lib.hid (lit_old _ ht)
  have HS1 := Lib.hid h1
  have HLO0 : Hid (ka < w.heap.size ∧ kr < w.heap.size ∧ t < w.heap.size ∧ rb < w.heap.size) := Lib.hid ⟨hka0, hkr0, ht0, hrb0⟩
  have HKM : Hid (km ≠ rb) := Lib.hid hne.2.2.2.2.1
  have HKML : Hid (km < w.heap.size + 1) := Lib.hid (by omega)
  have HCS : Hid (cs0 = cs0.setIfInBounds o (.slice none 0 0)) := Lib.hid (by
    apply Array.ext_getElem?
    intro j
    rw [Array.getElem?_setIfInBounds]
    split
    · rename_i h; subst h
      rw [ho, if_pos (Array.getElem?_eq_some_iff.1 ho).1]
    · rfl)
  have HLT : Hid (o < cs0.size) := Lib.hid (Array.getElem?_eq_some_iff.1 ho).1
  have HENT := Lib.hid hent
  have HE := Lib.hid hE
  have HGL := Lib.hid hG
  have HPM := Lib.hid haP
  have hnl := hfit.n16 (by decide)
  have hal := hR.a
  have HSL := Lib.hid hR.s
  obtain ⟨N, hN⟩ : ∃ N, w.heap.size = N := ⟨_, rfl⟩
  obtain ⟨wA, hwA⟩ : ∃ wA, w.alloc (.cells #[.pointer (some ⟨rb, 0, none⟩)] 124) = wA := ⟨_, rfl⟩
  have HSA : Hid (wA.heap.size = N + 1) := Lib.hid (by rw [← hwA, World.size_alloc, hN])
  rw [hwA] at HM HB1 HN HL1 HT1 HS1 hkm1
  rw [hN] at HN HAP HL1 HKML HLO0
  have HLO : Hid (ka < N ∧ kr < N ∧ t < N ∧ rb < N) := HLO0
  clear HLO0
  have HNN := Lib.hid hN
  have HWA := Lib.hid hwA
  rw [lraw, hT]
  have n0 := (lit_cell HN.out 0).trans rfl
  clear h1 h0 hP hT hfit haP hR hka hkm hkr ht ho hne hE hG hka0 hkm0 hkr0 ht0 hrb0 hN hwA hent
  by_cases hc : P.c = 0
  · rw [if_pos hc]
    simp only
    obtain ⟨n, hn0⟩ : ∃ n, P.n = n := ⟨_, rfl⟩
    obtain ⟨k0, hk0⟩ : ∃ k0, P.m = k0 := ⟨_, rfl⟩
    rw [hn0, hk0, hc] at HM
    rw [hn0] at hnl
    rw [hk0] at HPM
    rw [hn0, hk0, List.drop_drop]
    have n1 : (n : Int) < 65536 := by omega
    have m1 : (most : Int) ≤ 10240 := by omega
    clear hn0 hk0 hc
    by_cases hmn : most < n
    · rw [if_pos hmn]
      have hle : decide (n ≤ most) = false := decide_eq_false (by omega)
      go_enter Tryz.func150, Tryz.ntmps150
      go_upto_region 1 with fail
      rw [HWA.out, HNN.out]
      go_wp2_with (first | (go_at_call 145; refine HM.out.mono ?_; rintro e w2 ⟨v, rfl, hv, hr2, ho2⟩; obtain rfl := hv.nil rfl; have km2 := (World.cell?_of_block (a := ⟨km, 0, none⟩) (ho2.block km (by have := HKML.out; have := HSA.out; omega) HKM.out)).trans hkm1) | (go_at_call 111; refine (sureI_ok _ w2).mono ?_; rintro e w2 ⟨rfl, rfl⟩) | (go_at_call 117; refine (must_no 3 w2).mono ?_; rintro e w3 ⟨⟨f, hf, rfl, hf0, hf1⟩, hb3⟩))
      exact ⟨rfl, by decide, ⟨f, by have := HB1.out.size; have := ho2.size; omega, rfl, hf0, hf1⟩, ((Duo.below HB1.out).trans (Duo.only ho2)).trans (Duo.below hb3), [], .slice none 0 0, [], ((hb3.block t (by have := HL1.out.l; have := ho2.size; omega)).trans ((ho2.block t HL1.out.l.2.2.2 HAP.out.t).trans HT1.out)).trans (by rw [← HCS.out]), World.ownsRow_nil _ _ _ _, rfl, fun _ => rfl⟩
    · rw [if_neg hmn]
      have hle : decide (n ≤ most) = true := decide_eq_true (by omega)
      obtain ⟨M, hM⟩ : ∃ M, app [] k0 (manyG g n (S.drop (a + k0)) (a + k0)) = M := ⟨_, rfl⟩
      rw [hM]
      have HMM := Lib.hid hM
      have HNM : Hid (n ≤ 10240) := Lib.hid (by omega)
      clear hM
      obtain ⟨i0, hi, hz, hs, hby⟩ := infoU64
      go_enter Tryz.func150, Tryz.ntmps150
      go_upto_region 1 with fail
      rw [HWA.out, HNN.out]
      go_upto_region 4 with (first | (go_at_call 145; refine HM.out.mono ?_; rintro e w2 ⟨v, rfl, hv, hr2, ho2⟩; obtain rfl := hv.nil rfl; have km2 := (World.cell?_of_block (a := ⟨km, 0, none⟩) (ho2.block km (by have := HKML.out; have := HSA.out; omega) HKM.out)).trans hkm1; have HO2 := Lib.hid ho2; have HR2 := Lib.hid hr2; clear ho2 hr2) | (go_at_call 111; refine (sureI_ok _ w2).mono ?_; rintro e w2 ⟨rfl, rfl⟩) | (go_at_call 117; refine (must_yes 3 w2).mono ?_; rintro e w2 ⟨rfl, rfl⟩))
      have HD2 : Hid (Duo rb t w w2) := Lib.hid ((Duo.below HB1.out).trans (Duo.only HO2.out))
      have HST2 : Hid (LSt 22 1 RelN ka kr t o rb N F C (N + 1) T cs0 S (a + k0) [] w w2) := Lib.hid ⟨HL1.out.only HO2.out HAP.out, ⟨.slice none 0 0, [], ((HO2.out.block t HL1.out.l.2.2.2 HAP.out.t).trans HT1.out).trans (by rw [← HCS.out]), World.ownsRow_nil _ _ _ _, rfl, fun _ => rfl⟩, ⟨HR2.out, HS1.out.g.duo (Duo.only (x := t) HO2.out) HGL.out.1 HGL.out.2, HSL.out, HPM.out⟩, HD2.out, by have := HO2.out.size; have := HSA.out; omega⟩
      clear n0 km2 hkm1 hnl hal HS1 HT1 HL1 HR2
      go_loopw [17] (fun iv wr => ∃ i m : Nat, ∃ l : List Nat, ∃ d : Nat, i + m = n ∧ iv = .int .i64 (i : Int) ∧ Hid (l.length = i ∧ LSt 22 1 RelN ka kr t o rb N F C (N + 1) T cs0 S (a + d) l w wr) ∧ Hid (M = app l d (manyG g m (S.drop (a + d)) (a + d)))) (fun iv _ => (n : Int).toNat - (intOf iv).toNat)
      case atStart => exact ⟨0, n, [], k0, by omega, rfl, Lib.hid ⟨rfl, HST2.out⟩, Lib.hid HMM.out.symm⟩
      case round =>
        obtain ⟨i, m, l, d, him, rfl, HST, HEQ⟩ := hrel
        by_cases hm0 : m = 0
        · subst hm0
          obtain rfl : i = n := by omega
          have hl : ¬ (i : Int) < (i : Int) := by omega
          have HE2 : Hid (M = .ok (l, d)) := Lib.hid (by rw [HEQ.out]; simp [manyG, app])
          go_wp2
          refine bodyPost_end (results_none rfl _ _ _) rfl ?_
          rw [HE2.out]
          obtain ⟨v, xs, hv1, hv2, hv3⟩ := HST.out.2.h
          exact ⟨rfl, ⟨v, xs, hv1, by rw [HNN.out]; exact hv2, hv3⟩, HST.out.2.s.r, HST.out.2.s.a, HST.out.2.d⟩
        · obtain ⟨m', rfl⟩ : ∃ m', m = m' + 1 := ⟨m - 1, by omega⟩
          have hl : (i : Int) < (n : Int) := by omega
          have j0 : (0 : Int) ≤ (i : Int) := by omega
          have hi10 : (i : Int) < 10240 := by have := HNM.out; omega
          have hEQ2 := HEQ.out
          rw [manyG_step] at hEQ2
          go_upto_region 5 with fail
          have hH8 : LAt ka kr t o rb N F C wr.drew := HST.out.2.la.below (Below.refl _ _).drew
          have HD8 : Hid (Duo rb t w wr.drew) := Lib.hid (HST.out.2.d.trans (Duo.below (Below.refl _ _).drew))
          have HR8 := Lib.hid (HST.out.2.s.next (Below.refl _ _).drew)
          obtain ⟨v, xs, hv1, hv2, hv3⟩ := HST.out.2.h
          have HREL := Lib.hid hv3.1
          have HEMP := Lib.hid hv3.2
          have HB0 : Hid (wr.drew.heap[t]? = some (.cells (cs0.setIfInBounds o v) T (0, 0))) := Lib.hid hv1
          have HOW : Hid (wr.drew.ownsRow (N + 1) 22 1 v l.length xs) := Lib.hid hv2
          have HLL : Hid (l.length < 10240) := Lib.hid (by have := HST.out.1; have := HNM.out; omega)
          have HBS : Hid (N + 1 ≤ wr.heap.size) := Lib.hid HST.out.2.b
          have HSZ8 : Hid (wr.drew.heap.size = wr.heap.size) := Lib.hid rfl
          have HLI := Lib.hid HST.out.1
          have HEL := Lib.hid (HE.out (a + d) wr.drew HD8.out HR8.out)
          refine wp_region_held_drew (S := fun w' => LAt ka kr t o rb N F C w') (by kernel_rfl) hH8 (fun hH => ?_)
          generalize wr.drew = w8 at *
          clear hv1 hv2 hv3 hH8 hm0
          cases hg : g (S.drop (a + d)) (a + d) with
          | error f =>
            obtain ⟨c, b⟩ := f
            rw [hg] at hEQ2 HEL
            have HBAD : Hid (∀ w4 f, w8.heap.size ≤ f → w4.cell? ⟨f, 0, none⟩ = some (.int .i64 (c : Int)) → w4.cell? ⟨f, 1, none⟩ = some (.int .i64 (b : Int)) → Only rb w8 w4 → c ≠ 0 → LRd 22 1 RelN rb t o S a T cs0 w M (upF f) w4) := Lib.hid fun w4 f hf hf0 hf1 ho4 hc => by
              rw [hEQ2]
              exact ⟨hc, ⟨f, Nat.le_trans HD8.out.size hf, rfl, hf0, hf1⟩, HD8.out.trans (Duo.only ho4), l, v, xs, (ho4.block t hH.l.2.2.2 HAP.out.t).trans HB0.out, by rw [HNN.out]; exact own_only HOW.out ho4 (by have := HLO.out; omega), HREL.out, HEMP.out⟩
            clear hg hEQ2
            refine wpAnyH_take (i := 0) (oi := ⟨some 19, .load 112 (.tmp 2), _, _, _, none⟩) (v := .pointer (some ⟨t, o, none⟩)) rfl (by kernel_rfl) (by kernel_rfl) (by kernel_rfl) (fun _ _ _ h => h) (Or.inl ⟨by rfl, fun w hS => by have c0 := hS.a; go_simp⟩) hH ?_
            try simp only [Act.put, List.setIfInBounds_toArray, List.set_cons_succ, List.set_cons_zero]
            refine wpAnyH_take (i := 1) (oi := ⟨some 20, .load 112 (.tmp 2), _, _, _, none⟩) (v := .pointer (some ⟨t, o, none⟩)) rfl (by kernel_rfl) (by kernel_rfl) (by kernel_rfl) (fun _ _ _ h => h) (Or.inl ⟨by rfl, fun w hS => by have c0 := hS.a; go_simp⟩) hH ?_
            try simp only [Act.put, List.setIfInBounds_toArray, List.set_cons_succ, List.set_cons_zero]
            refine wpAnyH_take (i := 2) (oi := ⟨some 21, .nilCheck (.tmp 20), _, _, _, none⟩) (v := .pointer (some ⟨t, o, none⟩)) rfl (by kernel_rfl) (by kernel_rfl) (by kernel_rfl) (fun _ _ _ h => h) (Or.inl ⟨by rfl, fun _ _ => rfl⟩) hH ?_
            try simp only [Act.put, List.setIfInBounds_toArray, List.set_cons_succ, List.set_cons_zero]
            refine wpAnyH_take (i := 4) (oi := ⟨some 23, .load 177 (.tmp 3), _, _, _, none⟩) (v := .func (.func F) #[] C) rfl (by kernel_rfl) (by kernel_rfl) (by kernel_rfl) (fun _ _ _ h => h) (Or.inl ⟨by rfl, fun w hS => by have c0 := hS.r; go_simp⟩) hH ?_
            try simp only [Act.put, List.setIfInBounds_toArray, List.set_cons_succ, List.set_cons_zero]
            refine wpAnyH_take (i := 5) (oi := ⟨some 24, .load 124 (.tmp 4), _, _, _, none⟩) (v := .agg #[.pointer (some ⟨rb, 0, none⟩)]) rfl (by kernel_rfl) (by kernel_rfl) (by kernel_rfl) (fun _ _ _ h => h) (Or.inl ⟨by rfl, fun w hS => by have c0 := hS.n; go_simp⟩) hH ?_
            try simp only [Act.put, List.setIfInBounds_toArray, List.set_cons_succ, List.set_cons_zero]
            refine wpAnyH_ready (rs := [3, 6]) (by kernel_rfl) (by simp) (AllReadyH.cons (o := ⟨some 22, .load 24 (.tmp 21), _, _, _, none⟩) rfl (fun K hK => ?_) (AllReadyH.cons (o := ⟨some 25, .call ⟨.value (.tmp 23), #[.tmp 24], #[124]⟩, _, _, _, none⟩) rfl (fun K hK => ?_) AllReadyH.nil))
            · skip
              have c3 := (lit_cell HB0.out o).trans (Array.getElem?_setIfInBounds_self_of_lt HLT.out)
              go_simp
              refine hK.out _ _ hH (fun _ => ?_)
              clear hK K c3
              try simp only [Act.put, List.setIfInBounds_toArray, List.set_cons_succ, List.set_cons_zero]
              refine wpAnyH_ready (rs := [6]) (by kernel_rfl) (by simp) (AllReadyH.cons (o := ⟨some 25, .call ⟨.value (.tmp 23), #[.tmp 24], #[124]⟩, _, _, _, none⟩) rfl (fun K hK => ?_) AllReadyH.nil)
              have HK := Lib.hid hK
              clear hK
              have hent := HENT.out
              simp only [Ent] at hent
              go_simp
              refine HEL.out.mono ?_
              rintro e w4 ⟨hc4, ⟨f, hf, rfl, hf0, hf1⟩, ho4⟩
              exact ⟨rfl, HBAD.out _ f hf hf0 hf1 ho4 hc4⟩
            · skip
              have HK := Lib.hid hK
              clear hK
              have hent := HENT.out
              simp only [Ent] at hent
              go_simp
              refine HEL.out.mono ?_
              rintro e w4 ⟨hc4, ⟨f, hf, rfl, hf0, hf1⟩, ho4⟩
              exact ⟨rfl, HBAD.out _ f hf hf0 hf1 ho4 hc4⟩
          | ok q =>
            obtain ⟨x, k⟩ := q
            rw [hg] at hEQ2 HEL
            simp only at hEQ2
            have HE2 : Hid (M = app (l ++ [x]) (d + k) (manyG g m' (S.drop (a + (d + k))) (a + (d + k)))) := Lib.hid (by rw [hEQ2, List.drop_drop, show a + (d + k) = a + d + k by omega])
            have HOWN : Hid (∀ w4, Only rb w8 w4 → ∀ o', (w4.alloc o').ownsRow (N + 1) 22 1 v l.length xs) := Lib.hid fun w4 ho4 o' => (own_only HOW.out ho4 (by have := HLO.out; omega)).alloc o'
            have HBS8 : Hid (N + 1 ≤ w8.heap.size) := Lib.hid (by have := HBS.out; have := HSZ8.out; omega)
            clear hg hEQ2
            refine wpAnyH_take (i := 0) (oi := ⟨some 19, .load 112 (.tmp 2), _, _, _, none⟩) (v := .pointer (some ⟨t, o, none⟩)) rfl (by kernel_rfl) (by kernel_rfl) (by kernel_rfl) (fun _ _ _ h => h) (Or.inl ⟨by rfl, fun w hS => by have c0 := hS.a; go_simp⟩) hH ?_
            try simp only [Act.put, List.setIfInBounds_toArray, List.set_cons_succ, List.set_cons_zero]
            refine wpAnyH_take (i := 1) (oi := ⟨some 20, .load 112 (.tmp 2), _, _, _, none⟩) (v := .pointer (some ⟨t, o, none⟩)) rfl (by kernel_rfl) (by kernel_rfl) (by kernel_rfl) (fun _ _ _ h => h) (Or.inl ⟨by rfl, fun w hS => by have c0 := hS.a; go_simp⟩) hH ?_
            try simp only [Act.put, List.setIfInBounds_toArray, List.set_cons_succ, List.set_cons_zero]
            refine wpAnyH_take (i := 2) (oi := ⟨some 21, .nilCheck (.tmp 20), _, _, _, none⟩) (v := .pointer (some ⟨t, o, none⟩)) rfl (by kernel_rfl) (by kernel_rfl) (by kernel_rfl) (fun _ _ _ h => h) (Or.inl ⟨by rfl, fun _ _ => rfl⟩) hH ?_
            try simp only [Act.put, List.setIfInBounds_toArray, List.set_cons_succ, List.set_cons_zero]
            refine wpAnyH_take (i := 4) (oi := ⟨some 23, .load 177 (.tmp 3), _, _, _, none⟩) (v := .func (.func F) #[] C) rfl (by kernel_rfl) (by kernel_rfl) (by kernel_rfl) (fun _ _ _ h => h) (Or.inl ⟨by rfl, fun w hS => by have c0 := hS.r; go_simp⟩) hH ?_
            try simp only [Act.put, List.setIfInBounds_toArray, List.set_cons_succ, List.set_cons_zero]
            refine wpAnyH_take (i := 5) (oi := ⟨some 24, .load 124 (.tmp 4), _, _, _, none⟩) (v := .agg #[.pointer (some ⟨rb, 0, none⟩)]) rfl (by kernel_rfl) (by kernel_rfl) (by kernel_rfl) (fun _ _ _ h => h) (Or.inl ⟨by rfl, fun w hS => by have c0 := hS.n; go_simp⟩) hH ?_
            try simp only [Act.put, List.setIfInBounds_toArray, List.set_cons_succ, List.set_cons_zero]
            refine wpAnyH_ready (rs := [3, 6]) (by kernel_rfl) (by simp) (AllReadyH.cons (o := ⟨some 22, .load 24 (.tmp 21), _, _, _, none⟩) rfl (fun K hK => ?_) (AllReadyH.cons (o := ⟨some 25, .call ⟨.value (.tmp 23), #[.tmp 24], #[124]⟩, _, _, _, none⟩) rfl (fun K hK => ?_) AllReadyH.nil))
            · skip
              have c3 := (lit_cell HB0.out o).trans (Array.getElem?_setIfInBounds_self_of_lt HLT.out)
              go_simp
              refine hK.out _ _ hH (fun _ => ?_)
              clear hK K c3
              try simp only [Act.put, List.setIfInBounds_toArray, List.set_cons_succ, List.set_cons_zero]
              refine wpAnyH_ready (rs := [6]) (by kernel_rfl) (by simp) (AllReadyH.cons (o := ⟨some 25, .call ⟨.value (.tmp 23), #[.tmp 24], #[124]⟩, _, _, _, none⟩) rfl (fun K hK => ?_) AllReadyH.nil)
              have HK := Lib.hid hK
              clear hK
              have hent := HENT.out
              simp only [Ent] at hent
              go_simp
              refine HEL.out.mono ?_
              rintro e w4 ⟨rfl, hr4, ha4, ho4⟩
              have HL4 := Lib.hid (hH.only ho4 HAP.out)
              have HB4 := Lib.hid ((ho4.block t hH.l.2.2.2 HAP.out.t).trans HB0.out)
              refine HK.out.out _ _ HL4.out (fun _ => ?_)
              clear HK K
              try simp only [Act.put, List.setIfInBounds_toArray, List.set_cons_succ, List.set_cons_zero]
              refine wpAnyH_ready (rs := [7]) (by kernel_rfl) (by simp) (AllReadyH.cons (o := ⟨some 26, .buildSlice 24 1 #[(0, .tmp 25)], _, _, _, none⟩) rfl (fun K hK => ?_) AllReadyH.nil)
              have HL5 := Lib.hid (HL4.out.below (by0 w4 (.cells #[.int .u64 (x : Int)] 22)))
              have HB5 := Lib.hid (lit_old (w := w4) (.cells #[.int .u64 (x : Int)] 22) HB4.out)
              go_simp
              refine hK.out _ _ HL5.out (fun _ => ?_)
              clear hK K
              try simp only [Act.put, List.setIfInBounds_toArray, List.set_cons_succ, List.set_cons_zero]
              refine wpAnyH_ready (rs := [8]) (by kernel_rfl) (by simp) (AllReadyH.cons (o := ⟨some 27, .call ⟨.builtin .append, #[.tmp 22, .tmp 26], #[24, 24]⟩, _, _, _, none⟩) rfl (fun K hK => ?_) AllReadyH.nil)
              refine step_append_at rfl (.tmp 22) (.tmp 26) 24 rfl (N + 1) 22 i0 (.int .u64 0) 1 8 Tryz.underlying24 hi hz hs hby rfl (by decide) v l.length xs rfl (HOWN.out w4 ho4 _) ⟨w4.heap.size, 0, none⟩ 1 1 [.int .u64 (x : Int)] rfl rfl (one_new w4 _ 22) (by intro u hu; simp at hu; subst hu; rfl) (by have := HLL.out; unfold maxLen; omega) (by have := HLL.out; omega) (by have := HBS.out; have := ho4.size; have := HSZ8.out; rw [World.size_alloc]; omega) ?_
              intro v6 w6 hown6 hg6
              have HT6 := Lib.hid (lst_tail (Rel := RelN) (x := x) hH HB0.out HD8.out HOW.out HAP.out HLO.out HNN.out HBS8.out ho4 hr4 ha4 HR8.out HGL.out hown6 hg6 (by show _ = intV (l ++ [x]); rw [intV, List.map_append, HREL.out]; rfl))
              refine hK.out _ _ HT6.out.1 (fun _ => ?_)
              clear hK K
              try simp only [Act.put, List.setIfInBounds_toArray, List.set_cons_succ, List.set_cons_zero]
              refine wpAnyH_ready (rs := [9]) (by kernel_rfl) (by simp) (AllReadyH.cons (o := ⟨some 28, .nilCheck (.tmp 19), _, _, _, none⟩) rfl (fun K hK => ?_) AllReadyH.nil)
              go_simp
              refine hK.out _ _ HT6.out.1 (fun _ => ?_)
              clear hK K
              try simp only [Act.put, List.setIfInBounds_toArray, List.set_cons_succ, List.set_cons_zero]
              have q0 := lit_free HT6.out.2.1 o
              have q1 := (lit_cell HT6.out.2.1 o).trans (Array.getElem?_setIfInBounds_self_of_lt HLT.out)
              obtain ⟨ao6, ln6, cp6, rfl⟩ := own_slice hown6
              refine wpAnyH_ready (rs := [10]) (by kernel_rfl) (by simp) (AllReadyH.cons (o := ⟨none, .store 24 (.tmp 28) (.tmp 27), _, _, _, none⟩) rfl (fun K hK => ?_) AllReadyH.nil)
              go_simp
              refine hK.out _ _ (HT6.out.1.set _ HAP.out) (fun _ => ?_)
              clear hK K
              try simp only [Act.put, List.setIfInBounds_toArray, List.set_cons_succ, List.set_cons_zero]
              refine wpAnyH_done (by kernel_rfl) ?_ _
              have HST6 := Lib.hid HT6.out.2.2
              generalize w6.setCell ⟨t, o, none⟩ (.slice ao6 ln6 cp6) = w7 at *
              clear q0 q1 HT6 hown6 hg6
              go_wp2
              exact ⟨⟨i + 1, m', l ++ [x], d + k, by omega, by go_num, Lib.hid ⟨by rw [List.length_append, HLI.out]; rfl, HST6.out⟩, HE2⟩, by simp [intOf] <;> omega⟩
            · skip
              have HK := Lib.hid hK
              clear hK
              have hent := HENT.out
              simp only [Ent] at hent
              go_simp
              refine HEL.out.mono ?_
              rintro e w4 ⟨rfl, hr4, ha4, ho4⟩
              have HL4 := Lib.hid (hH.only ho4 HAP.out)
              have HB4 := Lib.hid ((ho4.block t hH.l.2.2.2 HAP.out.t).trans HB0.out)
              refine HK.out.out _ _ HL4.out (fun _ => ?_)
              clear HK K
              try simp only [Act.put, List.setIfInBounds_toArray, List.set_cons_succ, List.set_cons_zero]
              refine wpAnyH_ready (rs := [3, 7]) (by kernel_rfl) (by simp) (AllReadyH.cons (o := ⟨some 22, .load 24 (.tmp 21), _, _, _, none⟩) rfl (fun K hK => ?_) (AllReadyH.cons (o := ⟨some 26, .buildSlice 24 1 #[(0, .tmp 25)], _, _, _, none⟩) rfl (fun K hK => ?_) AllReadyH.nil))
              · skip
                have c3 := (lit_cell HB4.out o).trans (Array.getElem?_setIfInBounds_self_of_lt HLT.out)
                go_simp
                refine hK.out _ _ HL4.out (fun _ => ?_)
                clear hK K c3
                try simp only [Act.put, List.setIfInBounds_toArray, List.set_cons_succ, List.set_cons_zero]
                refine wpAnyH_ready (rs := [7]) (by kernel_rfl) (by simp) (AllReadyH.cons (o := ⟨some 26, .buildSlice 24 1 #[(0, .tmp 25)], _, _, _, none⟩) rfl (fun K hK => ?_) AllReadyH.nil)
                have HL5 := Lib.hid (HL4.out.below (by0 w4 (.cells #[.int .u64 (x : Int)] 22)))
                have HB5 := Lib.hid (lit_old (w := w4) (.cells #[.int .u64 (x : Int)] 22) HB4.out)
                go_simp
                refine hK.out _ _ HL5.out (fun _ => ?_)
                clear hK K
                try simp only [Act.put, List.setIfInBounds_toArray, List.set_cons_succ, List.set_cons_zero]
                refine wpAnyH_ready (rs := [8]) (by kernel_rfl) (by simp) (AllReadyH.cons (o := ⟨some 27, .call ⟨.builtin .append, #[.tmp 22, .tmp 26], #[24, 24]⟩, _, _, _, none⟩) rfl (fun K hK => ?_) AllReadyH.nil)
                refine step_append_at rfl (.tmp 22) (.tmp 26) 24 rfl (N + 1) 22 i0 (.int .u64 0) 1 8 Tryz.underlying24 hi hz hs hby rfl (by decide) v l.length xs rfl (HOWN.out w4 ho4 _) ⟨w4.heap.size, 0, none⟩ 1 1 [.int .u64 (x : Int)] rfl rfl (one_new w4 _ 22) (by intro u hu; simp at hu; subst hu; rfl) (by have := HLL.out; unfold maxLen; omega) (by have := HLL.out; omega) (by have := HBS.out; have := ho4.size; have := HSZ8.out; rw [World.size_alloc]; omega) ?_
                intro v6 w6 hown6 hg6
                have HT6 := Lib.hid (lst_tail (Rel := RelN) (x := x) hH HB0.out HD8.out HOW.out HAP.out HLO.out HNN.out HBS8.out ho4 hr4 ha4 HR8.out HGL.out hown6 hg6 (by show _ = intV (l ++ [x]); rw [intV, List.map_append, HREL.out]; rfl))
                refine hK.out _ _ HT6.out.1 (fun _ => ?_)
                clear hK K
                try simp only [Act.put, List.setIfInBounds_toArray, List.set_cons_succ, List.set_cons_zero]
                refine wpAnyH_ready (rs := [9]) (by kernel_rfl) (by simp) (AllReadyH.cons (o := ⟨some 28, .nilCheck (.tmp 19), _, _, _, none⟩) rfl (fun K hK => ?_) AllReadyH.nil)
                go_simp
                refine hK.out _ _ HT6.out.1 (fun _ => ?_)
                clear hK K
                try simp only [Act.put, List.setIfInBounds_toArray, List.set_cons_succ, List.set_cons_zero]
                have q0 := lit_free HT6.out.2.1 o
                have q1 := (lit_cell HT6.out.2.1 o).trans (Array.getElem?_setIfInBounds_self_of_lt HLT.out)
                obtain ⟨ao6, ln6, cp6, rfl⟩ := own_slice hown6
                refine wpAnyH_ready (rs := [10]) (by kernel_rfl) (by simp) (AllReadyH.cons (o := ⟨none, .store 24 (.tmp 28) (.tmp 27), _, _, _, none⟩) rfl (fun K hK => ?_) AllReadyH.nil)
                go_simp
                refine hK.out _ _ (HT6.out.1.set _ HAP.out) (fun _ => ?_)
                clear hK K
                try simp only [Act.put, List.setIfInBounds_toArray, List.set_cons_succ, List.set_cons_zero]
                refine wpAnyH_done (by kernel_rfl) ?_ _
                have HST6 := Lib.hid HT6.out.2.2
                generalize w6.setCell ⟨t, o, none⟩ (.slice ao6 ln6 cp6) = w7 at *
                clear q0 q1 HT6 hown6 hg6
                go_wp2
                exact ⟨⟨i + 1, m', l ++ [x], d + k, by omega, by go_num, Lib.hid ⟨by rw [List.length_append, HLI.out]; rfl, HST6.out⟩, HE2⟩, by simp [intOf] <;> omega⟩
              · skip
                have HL5 := Lib.hid (HL4.out.below (by0 w4 (.cells #[.int .u64 (x : Int)] 22)))
                have HB5 := Lib.hid (lit_old (w := w4) (.cells #[.int .u64 (x : Int)] 22) HB4.out)
                go_simp
                refine hK.out _ _ HL5.out (fun _ => ?_)
                clear hK K
                try simp only [Act.put, List.setIfInBounds_toArray, List.set_cons_succ, List.set_cons_zero]
                refine wpAnyH_ready (rs := [3]) (by kernel_rfl) (by simp) (AllReadyH.cons (o := ⟨some 22, .load 24 (.tmp 21), _, _, _, none⟩) rfl (fun K hK => ?_) AllReadyH.nil)
                have c3 := (lit_cell HB5.out o).trans (Array.getElem?_setIfInBounds_self_of_lt HLT.out)
                go_simp
                refine hK.out _ _ HL5.out (fun _ => ?_)
                clear hK K c3
                try simp only [Act.put, List.setIfInBounds_toArray, List.set_cons_succ, List.set_cons_zero]
                refine wpAnyH_ready (rs := [8]) (by kernel_rfl) (by simp) (AllReadyH.cons (o := ⟨some 27, .call ⟨.builtin .append, #[.tmp 22, .tmp 26], #[24, 24]⟩, _, _, _, none⟩) rfl (fun K hK => ?_) AllReadyH.nil)
                refine step_append_at rfl (.tmp 22) (.tmp 26) 24 rfl (N + 1) 22 i0 (.int .u64 0) 1 8 Tryz.underlying24 hi hz hs hby rfl (by decide) v l.length xs rfl (HOWN.out w4 ho4 _) ⟨w4.heap.size, 0, none⟩ 1 1 [.int .u64 (x : Int)] rfl rfl (one_new w4 _ 22) (by intro u hu; simp at hu; subst hu; rfl) (by have := HLL.out; unfold maxLen; omega) (by have := HLL.out; omega) (by have := HBS.out; have := ho4.size; have := HSZ8.out; rw [World.size_alloc]; omega) ?_
                intro v6 w6 hown6 hg6
                have HT6 := Lib.hid (lst_tail (Rel := RelN) (x := x) hH HB0.out HD8.out HOW.out HAP.out HLO.out HNN.out HBS8.out ho4 hr4 ha4 HR8.out HGL.out hown6 hg6 (by show _ = intV (l ++ [x]); rw [intV, List.map_append, HREL.out]; rfl))
                refine hK.out _ _ HT6.out.1 (fun _ => ?_)
                clear hK K
                try simp only [Act.put, List.setIfInBounds_toArray, List.set_cons_succ, List.set_cons_zero]
                refine wpAnyH_ready (rs := [9]) (by kernel_rfl) (by simp) (AllReadyH.cons (o := ⟨some 28, .nilCheck (.tmp 19), _, _, _, none⟩) rfl (fun K hK => ?_) AllReadyH.nil)
                go_simp
                refine hK.out _ _ HT6.out.1 (fun _ => ?_)
                clear hK K
                try simp only [Act.put, List.setIfInBounds_toArray, List.set_cons_succ, List.set_cons_zero]
                have q0 := lit_free HT6.out.2.1 o
                have q1 := (lit_cell HT6.out.2.1 o).trans (Array.getElem?_setIfInBounds_self_of_lt HLT.out)
                obtain ⟨ao6, ln6, cp6, rfl⟩ := own_slice hown6
                refine wpAnyH_ready (rs := [10]) (by kernel_rfl) (by simp) (AllReadyH.cons (o := ⟨none, .store 24 (.tmp 28) (.tmp 27), _, _, _, none⟩) rfl (fun K hK => ?_) AllReadyH.nil)
                go_simp
                refine hK.out _ _ (HT6.out.1.set _ HAP.out) (fun _ => ?_)
                clear hK K
                try simp only [Act.put, List.setIfInBounds_toArray, List.set_cons_succ, List.set_cons_zero]
                refine wpAnyH_done (by kernel_rfl) ?_ _
                have HST6 := Lib.hid HT6.out.2.2
                generalize w6.setCell ⟨t, o, none⟩ (.slice ao6 ln6 cp6) = w7 at *
                clear q0 q1 HT6 hown6 hg6
                go_wp2
                exact ⟨⟨i + 1, m', l ++ [x], d + k, by omega, by go_num, Lib.hid ⟨by rw [List.length_append, HLI.out]; rfl, HST6.out⟩, HE2⟩, by simp [intOf] <;> omega⟩
  · rw [if_neg hc]
    have HC := Lib.hid hc
    clear hc
    go_enter Tryz.func150, Tryz.ntmps150
    go_upto_region 1 with fail
    rw [HWA.out, HNN.out]
    go_wp2_with (first | (go_at_call 145; refine HM.out.mono ?_; rintro e w2 ⟨v, rfl, hv, hr2, ho2⟩; obtain ⟨f, rfl, hup⟩ := hv.shape (by have := HC.out; omega)) | (go_at_call 111; refine (sureI_bad _ f w2).mono ?_; rintro e w2 ⟨rfl, rfl⟩))
    exact ⟨rfl, HC.out, hup.mono HB1.out.size, (Duo.below HB1.out).trans (Duo.only ho2), [], .slice none 0 0, [], ((ho2.block t HL1.out.l.2.2.2 HAP.out.t).trans HT1.out).trans (by rw [← HCS.out]), World.ownsRow_nil _ _ _ _, rfl, fun _ => rfl⟩
end Go.Proofs.YtlhmmplkdjibkaaGreatDoor
