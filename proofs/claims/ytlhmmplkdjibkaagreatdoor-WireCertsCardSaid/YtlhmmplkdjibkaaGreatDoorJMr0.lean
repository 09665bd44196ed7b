/- The reference's cursor: what is kept while a certificate is read: its rows in memory. -/
import Derived.Test.YtlhmmplkdjibkaaGreatDoorJMq
import Derived.Test.YtlhmmplkdjibkaaGreatDoorJ27
import Derived.Test.YtlhmmplkdjibkaaGreatDoorJ25
namespace Go.Proofs.YtlhmmplkdjibkaaGreatDoor
open Go.RowKit

theorem own_from {lo m n : Nat} {e : TypeId} {v : Value} {xs : List Value} {w w' : World} (h : w.ownsRow lo e m v n xs) (hk : ∀ k, lo ≤ k → k < w.heap.size → w'.heap[k]? = w.heap[k]?) : w'.ownsRow lo e m v n xs := by
  refine ⟨h.1, ?_⟩
  rcases h.2 with h | ⟨g, cap, cur, e, hb, hg0, r⟩
  · exact .inl h
  · exact .inr ⟨g, cap, cur, e, hb, (hk g hb (lit_lt hg0)).trans hg0, r⟩
theorem own_two {lo m1 n1 m2 n2 : Nat} {e1 e2 : TypeId} {v1 v2 : Value} {xs ys : List Value} {w : World} (h1 : w.ownsRow lo e1 m1 v1 n1 xs) (h2 : w.ownsRow lo e2 m2 v2 n2 ys) (he : e1 ≠ e2) : v1.ownBlock = none ∨ v1.ownBlock ≠ v2.ownBlock := by
  obtain ⟨-, ⟨rfl, _⟩ | ⟨g, cap, cur, rfl, hb, hg0, _⟩⟩ := h1
  · exact .inl rfl
  · right
    obtain ⟨-, ⟨rfl, _⟩ | ⟨g2, cap2, cur2, rfl, hb2, hg2, _⟩⟩ := h2
    · intro e; cases e
    · intro e
      obtain rfl : g = g2 := by simpa [Value.ownBlock] using e
      rw [hg0] at hg2
      exact he (by cases hg2; rfl)
/-- the row's block, if it has one, begins by a number -/
def NumHead (v : Value) (w : World) : Prop := ∀ j, v.ownBlock = some j → ∃ x : Int, w.cell? ⟨j, 0, none⟩ = some (.int .u64 x)
theorem NumHead.keep {lo m n : Nat} {e : TypeId} {v : Value} {xs : List Value} {w w' : World} (h : NumHead v w) (ho : w.ownsRow lo e m v n xs) (hk : ∀ k, lo ≤ k → k < w.heap.size → w'.heap[k]? = w.heap[k]?) : NumHead v w' := fun j hj => by
  obtain ⟨x, hx⟩ := h j hj
  exact ⟨x, (World.cell?_of_block (a := ⟨j, 0, none⟩) (hk j (ho.lt j hj).1 (ho.lt j hj).2)).trans hx⟩
theorem NumHead.beside {lo m n : Nat} {e : TypeId} {v : Value} {xs : List Value} {w w' : World} {o : Option Nat} (h : NumHead v w) (ho : w.ownsRow lo e m v n xs) (hg : w.grownBy w' o) (hne : v.ownBlock = none ∨ v.ownBlock ≠ o) : NumHead v w' := fun j hj => by
  obtain ⟨x, hx⟩ := h j hj
  refine ⟨x, (World.cell?_of_block (a := ⟨j, 0, none⟩) (hg.block j (ho.lt j hj).2 ?_)).trans hx⟩
  rw [← hj]
  rcases hne with e | e
  · rw [e] at hj; cases hj
  · exact e
theorem head_new {lo m n : Nat} {e : TypeId} {v : Value} {xs : List Value} {w : World} {x : Int} (h : w.ownsRow lo e m v n xs) (hx : xs[0]? = some (.int .u64 x)) : NumHead v w := fun j hj => ⟨x, by have := h.cells hj 0 _ hx; rwa [Addr.add_mid] at this⟩
theorem Fresh.beside {lo : Nat} {ao : Option Addr} {L : List (List UInt8)} {v : Value} {w w' : World} (h : Fresh lo ao L w) (hv : NumHead v w) (hg : w.grownBy w' v.ownBlock) : Fresh lo ao L w' := by
  rcases h with h | ⟨b, h1, h2, h3, h4⟩
  · exact .inl h
  · by_cases hL : L = []
    · exact .inl hL
    · have hl0 := List.length_pos_iff.2 hL
      have hb : w'.heap[b]? = w.heap[b]? := hg.block b h3 (fun e => by
        obtain ⟨x, hx⟩ := hv b e.symm
        have := h4 0 hl0
        rw [this] at hx
        cases hx)
      exact .inr ⟨b, h1, h2, Nat.lt_of_lt_of_le h3 hg.size, fun i hi => (World.cell?_of_block (a := ⟨b, i, none⟩) hb).trans (h4 i hi)⟩
/-- a certificate's rows, from a block on -/
structure CertW (lo : Nat) (c : CertE) (w : World) : Prop where
  rv : w.ownsRow lo 57 11 (.slice c.ra c.rl.length c.rc) c.rl.length (c.rl.flatMap revQ)
  co : w.ownsRow lo 22 1 (.slice c.ca c.coins.length c.cc) c.coins.length (c.coins.map encN)
  rh : NumHead (.slice c.ra c.rl.length c.rc) w
  ch : NumHead (.slice c.ca c.coins.length c.cc) w
  x : ∀ x ∈ c.rl, Fresh lo x.wa x.r.slot.sig.wots w ∧ Fresh lo x.pa x.r.slot.sig.path w
  s : Fresh lo c.sa c.sp w
  p : Fresh lo c.pa c.pp w
def zC : CertE := ⟨[], 0, [], [], [], [], none, 0, none, 0, none, 0, none, 0⟩
theorem CertW.zero (lo : Nat) (w : World) : CertW lo zC w := ⟨World.ownsRow_nil _ _ _ _, World.ownsRow_nil _ _ _ _, (fun j hj => by cases hj), (fun j hj => by cases hj), (fun x hx => by cases hx), .inl rfl, .inl rfl⟩
section
variable {lo : Nat} {c : CertE} {w w' : World}
theorem CertW.keep (h : CertW lo c w) (hk : ∀ k, lo ≤ k → k < w.heap.size → w'.heap[k]? = w.heap[k]?) (hs : w.heap.size ≤ w'.heap.size) : CertW lo c w' :=
  ⟨own_from h.rv hk, own_from h.co hk, h.rh.keep h.rv hk, h.ch.keep h.co hk, fun x hx => ⟨(h.x x hx).1.to hk hs, (h.x x hx).2.to hk hs⟩, h.s.to hk hs, h.p.to hk hs⟩
theorem CertW.weak {lo2 : Nat} (h : CertW lo c w) (hl : lo2 ≤ lo) : CertW lo2 c w := by
  have ow : ∀ {m n : Nat} {e : TypeId} {v : Value} {xs : List Value}, w.ownsRow lo e m v n xs → w.ownsRow lo2 e m v n xs := fun h => by
    refine ⟨h.1, ?_⟩
    rcases h.2 with h | ⟨g, cap, cur, e, hb, r⟩
    · exact .inl h
    · exact .inr ⟨g, cap, cur, e, Nat.le_trans hl hb, r⟩
  exact ⟨ow h.rv, ow h.co, h.rh, h.ch, fun x hx => ⟨(h.x x hx).1.weak hl, (h.x x hx).2.weak hl⟩, h.s.weak hl, h.p.weak hl⟩
theorem CertW.coin (h : CertW lo c w) (X g cap : Nat) (hown : w'.ownsRow lo 22 1 (.slice (some ⟨g, 0, none⟩) (c.coins.length + 1) cap) (c.coins.length + 1) (c.coins.map encN ++ [encN X])) (hg : w.grownBy w' (Value.slice c.ca c.coins.length c.cc).ownBlock) :
    CertW lo { c with coins := c.coins ++ [X], ca := some ⟨g, 0, none⟩, cc := cap } w' := by
  have hne := own_two h.rv h.co (by decide)
  have e1 : (c.coins ++ [X]).length = c.coins.length + 1 := by simp
  refine ⟨h.rv.kept hg hne, ?_, h.rh.beside h.rv hg hne, ?_, fun x hx => ⟨(h.x x hx).1.beside h.ch hg, (h.x x hx).2.beside h.ch hg⟩, h.s.beside h.ch hg, h.p.beside h.ch hg⟩
  · show w'.ownsRow lo 22 1 (.slice (some ⟨g, 0, none⟩) (c.coins ++ [X]).length cap) (c.coins ++ [X]).length ((c.coins ++ [X]).map encN)
    rw [e1, List.map_append]; exact hown
  · show NumHead (.slice (some ⟨g, 0, none⟩) (c.coins ++ [X]).length cap) w'
    rw [e1]
    cases hc : c.coins with
    | nil => rw [hc] at hown; exact head_new (x := (X : Int)) hown (by simp)
    | cons y l => rw [hc] at hown; exact head_new (x := (y : Int)) hown (by simp)
theorem CertW.rev (h : CertW lo c w) (x : RevE) (g cap : Nat) (hx : Fresh lo x.wa x.r.slot.sig.wots w ∧ Fresh lo x.pa x.r.slot.sig.path w) (hown : w'.ownsRow lo 57 11 (.slice (some ⟨g, 0, none⟩) (c.rl.length + 1) cap) (c.rl.length + 1) (c.rl.flatMap revQ ++ revQ x)) (hg : w.grownBy w' (Value.slice c.ra c.rl.length c.rc).ownBlock) :
    CertW lo { c with rl := c.rl ++ [x], ra := some ⟨g, 0, none⟩, rc := cap } w' := by
  have hne := own_two h.co h.rv (by decide)
  have e1 : (c.rl ++ [x]).length = c.rl.length + 1 := by simp
  refine ⟨?_, h.co.kept hg hne, ?_, h.ch.beside h.co hg hne, fun y hy => ?_, h.s.beside h.rh hg, h.p.beside h.rh hg⟩
  · show w'.ownsRow lo 57 11 (.slice (some ⟨g, 0, none⟩) (c.rl ++ [x]).length cap) (c.rl ++ [x]).length ((c.rl ++ [x]).flatMap revQ)
    rw [e1, List.flatMap_append, List.flatMap_cons, List.flatMap_nil, List.append_nil]; exact hown
  · show NumHead (.slice (some ⟨g, 0, none⟩) (c.rl ++ [x]).length cap) w'
    rw [e1]
    cases hc : c.rl with
    | nil => rw [hc] at hown; exact head_new (x := (x.r.pos : Int)) hown (by simp [revQ])
    | cons y l => rw [hc] at hown; exact head_new (x := (y.r.pos : Int)) hown (by simp [revQ])
  · rcases List.mem_append.1 hy with hy | hy
    · exact ⟨(h.x y hy).1.beside h.rh hg, (h.x y hy).2.beside h.rh hg⟩
    · obtain rfl := List.mem_singleton.1 hy
      exact ⟨hx.1.beside h.rh hg, hx.2.beside h.rh hg⟩
theorem CertW.certM (h : CertW lo c w) : CertM c w := by
  refine ⟨?_, fun x hx => ⟨(h.x x hx).1.strs, (h.x x hx).2.strs⟩, ?_, h.s.strs, h.p.strs⟩
  · obtain ⟨-, ⟨_, e⟩ | ⟨g, cap, cur, e, hb, hg0, hc1, hc2, hc3, hc4⟩⟩ := h.rv
    · exact .inl (List.eq_nil_of_length_eq_zero e)
    · refine .inr ⟨g, 0, (Value.slice.inj e).1, lit_lt hg0, fun i x hx j hj => ?_⟩
      have hi : i < c.rl.length := (List.getElem?_eq_some_iff.1 hx).1
      rw [lit_cell hg0, Nat.zero_add, ← revs_get x j hj c.rl i hx, ← hc4, List.getElem?_take_of_lt (by omega), Array.getElem?_toList]
  · obtain ⟨-, ⟨_, e⟩ | ⟨g, cap, cur, e, hb, hg0, hc1, hc2, hc3, hc4⟩⟩ := h.co
    · exact .inl (List.eq_nil_of_length_eq_zero e)
    · refine .inr ⟨g, 0, (Value.slice.inj e).1, lit_lt hg0, fun i hi => ?_⟩
      have e2 : (cur.toList.take (c.coins.length * 1))[i]? = some (.int .u64 (c.coins[i] : Int)) := by rw [hc4]; simp [hi]
      rw [List.getElem?_take_of_lt (by omega), Array.getElem?_toList] at e2
      rw [lit_cell hg0, Nat.zero_add]
      exact e2
end
theorem Rd.grown {w0 wz wy : World} {cb rb : Nat} {S : (List UInt8)} {st : St} {T : TypeId} {r0 cs : Array Value} {o : Option Nat} (h : Rd w0 cb rb S st T r0 cs wz) (hg : wz.grownBy wy o) (ho : ∀ j, o = some j → w0.heap.size + 2 ≤ j) : Rd w0 cb rb S st T r0 cs wy := by
  have h1 := h.lt
  exact ⟨h.c.grown hg ho (by omega) (by omega), h.o.grown hg (fun j e => by have := ho j e; omega), (hg.block _ (lit_lt h.r) (fun e => by have := ho _ e.symm; omega)).trans h.r, (hg.block _ (lit_lt h.p) (fun e => by have := ho _ e.symm; omega)).trans h.p, h1⟩
/-- what is kept through a certificate's loop -/
structure Ct (w0 : World) (cb rb : Nat) (S : (List UInt8)) (st : St) (c : CertE) (wz : World) : Prop where
  r : Rd w0 cb rb S st 27 #[.string ⟨#[]⟩, .int .u64 0, .slice none 0 0, .slice none 0 0, .slice none 0 0, .slice none 0 0] #[.string ⟨c.root.toArray⟩, .int .u64 (c.signed : Int), .slice c.ra c.rl.length c.rc, .slice c.ca c.coins.length c.cc, .slice c.sa c.sp.length c.sc, .slice c.pa c.pp.length c.pc] wz
  m : CertW (w0.heap.size + 2) c wz
section
variable {w0 wz wy : World} {cb rb : Nat} {S : (List UInt8)} {st st2 : St} {c : CertE}
theorem Ct.call (h : Ct w0 cb rb S st c wz) (ho : Duo cb rb wz wy) (hc : Curs cb rb S st2 wy) : Ct w0 cb rb S st2 c wy :=
  ⟨h.r.call ho hc, h.m.keep (fun k hk hl => ho.block k hl (by have := h.r.lt.1; omega) (by have := h.r.lt.2; omega)) ho.size⟩
theorem Ct.set (h : Ct w0 cb rb S st c wz) (k : Nat) (v : Value) (c2 : CertE) (e : (#[.string ⟨c.root.toArray⟩, .int .u64 (c.signed : Int), .slice c.ra c.rl.length c.rc, .slice c.ca c.coins.length c.cc, .slice c.sa c.sp.length c.sc, .slice c.pa c.pp.length c.pc] : Array Value).setIfInBounds k v = #[.string ⟨c2.root.toArray⟩, .int .u64 (c2.signed : Int), .slice c2.ra c2.rl.length c2.rc, .slice c2.ca c2.coins.length c2.cc, .slice c2.sa c2.sp.length c2.sc, .slice c2.pa c2.pp.length c2.pc])
    (hm : CertW (w0.heap.size + 2) c2 wz) : Ct w0 cb rb S st c2 (wz.setCell ⟨w0.heap.size + 1, k, none⟩ v) := by
  have h1 := h.r.set k v
  rw [e] at h1
  have ho := Only.set (w0.heap.size + 1) k v wz
  exact ⟨h1, hm.keep (fun j hj hl => ho.block j hl (by omega)) ho.size⟩
theorem Ct.root (h : Ct w0 cb rb S st c wz) (t : (List UInt8)) : Ct w0 cb rb S st { c with root := t } (wz.setCell ⟨w0.heap.size + 1, 0, none⟩ (.string ⟨t.toArray⟩)) := h.set 0 _ _ rfl ⟨h.m.rv, h.m.co, h.m.rh, h.m.ch, h.m.x, h.m.s, h.m.p⟩
theorem Ct.signed (h : Ct w0 cb rb S st c wz) (n : Nat) : Ct w0 cb rb S st { c with signed := n } (wz.setCell ⟨w0.heap.size + 1, 1, none⟩ (.int .u64 (n : Int))) := h.set 1 _ _ rfl ⟨h.m.rv, h.m.co, h.m.rh, h.m.ch, h.m.x, h.m.s, h.m.p⟩
theorem Ct.sp (h : Ct w0 cb rb S st c wz) (ao : Option Addr) (cp : Nat) (L : List (List UInt8)) (hL : Fresh (w0.heap.size + 2) ao L wz) : Ct w0 cb rb S st { c with sp := L, sa := ao, sc := cp } (wz.setCell ⟨w0.heap.size + 1, 4, none⟩ (.slice ao L.length cp)) := h.set 4 _ _ rfl ⟨h.m.rv, h.m.co, h.m.rh, h.m.ch, h.m.x, hL, h.m.p⟩
theorem Ct.pp (h : Ct w0 cb rb S st c wz) (ao : Option Addr) (cp : Nat) (L : List (List UInt8)) (hL : Fresh (w0.heap.size + 2) ao L wz) : Ct w0 cb rb S st { c with pp := L, pa := ao, pc := cp } (wz.setCell ⟨w0.heap.size + 1, 5, none⟩ (.slice ao L.length cp)) := h.set 5 _ _ rfl ⟨h.m.rv, h.m.co, h.m.rh, h.m.ch, h.m.x, h.m.s, hL⟩
theorem Ct.alloc (h : Ct w0 cb rb S st c wz) (o : Obj) : Ct w0 cb rb S st c (wz.alloc o) := h.call (Duo.below (by0 wz o)) (h.r.c.next (by0 wz o))
theorem Ct.coin (h : Ct w0 cb rb S st c wz) (X g cap : Nat) (hown : wy.ownsRow (w0.heap.size + 2) 22 1 (.slice (some ⟨g, 0, none⟩) (c.coins.length + 1) cap) (c.coins.length + 1) (c.coins.map encN ++ [encN X])) (hg : wz.grownBy wy (Value.slice c.ca c.coins.length c.cc).ownBlock) :
    Ct w0 cb rb S st { c with coins := c.coins ++ [X], ca := some ⟨g, 0, none⟩, cc := cap } (wy.setCell ⟨w0.heap.size + 1, 3, none⟩ (.slice (some ⟨g, 0, none⟩) (c.coins.length + 1) cap)) := by
  have h1 := (h.r.grown hg (fun j e => (h.m.co.lt j e).1)).set 3 (.slice (some ⟨g, 0, none⟩) (c.coins.length + 1) cap)
  have ho := Only.set (w0.heap.size + 1) 3 (.slice (some ⟨g, 0, none⟩) (c.coins.length + 1) cap) wy
  refine ⟨?_, (h.m.coin X g cap hown hg).keep (fun j hj hl => ho.block j hl (by omega)) ho.size⟩
  show Rd w0 cb rb S st 27 _ #[.string ⟨c.root.toArray⟩, .int .u64 (c.signed : Int), .slice c.ra c.rl.length c.rc, .slice (some ⟨g, 0, none⟩) (c.coins ++ [X]).length cap, .slice c.sa c.sp.length c.sc, .slice c.pa c.pp.length c.pc] _
  rw [show (c.coins ++ [X]).length = c.coins.length + 1 by simp]
  exact h1
theorem Ct.rev (h : Ct w0 cb rb S st c wz) (x : RevE) (g cap : Nat) (hx : Fresh (w0.heap.size + 2) x.wa x.r.slot.sig.wots wz ∧ Fresh (w0.heap.size + 2) x.pa x.r.slot.sig.path wz) (hown : wy.ownsRow (w0.heap.size + 2) 57 11 (.slice (some ⟨g, 0, none⟩) (c.rl.length + 1) cap) (c.rl.length + 1) (c.rl.flatMap revQ ++ revQ x)) (hg : wz.grownBy wy (Value.slice c.ra c.rl.length c.rc).ownBlock) :
    Ct w0 cb rb S st { c with rl := c.rl ++ [x], ra := some ⟨g, 0, none⟩, rc := cap } (wy.setCell ⟨w0.heap.size + 1, 2, none⟩ (.slice (some ⟨g, 0, none⟩) (c.rl.length + 1) cap)) := by
  have h1 := (h.r.grown hg (fun j e => (h.m.rv.lt j e).1)).set 2 (.slice (some ⟨g, 0, none⟩) (c.rl.length + 1) cap)
  have ho := Only.set (w0.heap.size + 1) 2 (.slice (some ⟨g, 0, none⟩) (c.rl.length + 1) cap) wy
  refine ⟨?_, (h.m.rev x g cap hx hown hg).keep (fun j hj hl => ho.block j hl (by omega)) ho.size⟩
  show Rd w0 cb rb S st 27 _ #[.string ⟨c.root.toArray⟩, .int .u64 (c.signed : Int), .slice (some ⟨g, 0, none⟩) (c.rl ++ [x]).length cap, .slice c.ca c.coins.length c.cc, .slice c.sa c.sp.length c.sc, .slice c.pa c.pp.length c.pc] _
  rw [show (c.rl ++ [x]).length = c.rl.length + 1 by simp]
  exact h1
end
/-! ## Keys rise -/
theorem key_less {S : (List UInt8)} {A : List UInt8} {last t : (List UInt8)} {a : Nat} (h : Got (runS S (keyG A last) (.ok a)) t) : badS (endS (runS S (keyG A last) (.ok a))) = true ∨ Op.bytesLess last t = true := by
  unfold runS keyG at *
  simp only at h ⊢
  cases he : takeE 2 (S.drop a) a with
  | error f => exact .inl rfl
  | ok p =>
    obtain ⟨⟨n, u⟩, k⟩ := p
    rw [he] at h
    simp only at h ⊢
    by_cases hc : (isKey A u && Op.bytesLess last u) = true
    · simp only [hc, if_true] at h ⊢
      have hu := h.is
      subst hu
      exact .inr (by simp at hc; exact hc.2)
    · simp only [hc] at h ⊢
      exact .inl rfl
theorem less_mono {last : (List UInt8)} {c d : UInt8} (h : Op.bytesLess last [c] = true) (hcd : c < d) : Op.bytesLess last [d] = true := by
  cases last with
  | nil => rfl
  | cons a r =>
    have h1 : ∀ x : UInt8, Op.bytesLess (a :: r) [x] = decide (a < x) := fun x => by
      have h2 : Op.bytesLess (a :: r) [x] = (decide (a < x) || (a == x && Op.bytesLess r [])) := rfl
      have h3 : Op.bytesLess r [] = false := by cases r <;> rfl
      rw [h2, h3, Bool.and_false, Bool.or_false]
    rw [h1] at h ⊢
    simp only [decide_eq_true_eq] at h ⊢
    rw [UInt8.lt_iff_toNat_lt] at *
    omega
theorem bad_end {α : Type} {S : (List UInt8)} {g : (List UInt8) → Nat → Res α} {st : St} (h : badS st = true) : badS (endS (runS S g st)) = true := by
  cases st with
  | error f => rfl
  | ok a => cases h
theorem KInv.bad {ρ : Type} {S : (List UInt8)} {fs : List (Fld ρ)} {tot : Except Flt (ρ × Nat)} {n : Nat} {q : ρ} {t : (List UInt8)} {st : St} (h : KInv S fs tot n q t st) (ht : ∀ g ∈ fs, [g.key] ≠ t) : badS st = true := by
  cases st with
  | error f => rfl
  | ok a => obtain ⟨g, hg, he, _⟩ := h; exact absurd he (ht g hg)
theorem PInv.err {ρ : Type} {S : (List UInt8)} {fs : List (Fld ρ)} {tot : Except Flt (ρ × Nat)} {n m : Nat} {q p : ρ} {t u : (List UInt8)} {st : St} (h : PInv S fs tot n q t st) (hb : badS st = true) : PInv S fs tot m p u st := by
  cases st with
  | error f => exact h
  | ok a => cases hb
/-- the rows that a key comes ahead of are empty -/
def Ahead (last : (List UInt8)) (st : St) (c : CertE) : Prop := badS st = true ∨ ((Op.bytesLess last [112] = true → c.coins = []) ∧ (Op.bytesLess last [114] = true → c.rl = []))
end Go.Proofs.YtlhmmplkdjibkaaGreatDoor
