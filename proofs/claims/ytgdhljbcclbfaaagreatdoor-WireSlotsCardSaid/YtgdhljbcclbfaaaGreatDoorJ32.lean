/- The reference's cursor: a list of digests; what a map's walk keeps. -/
import Derived.Test.YtgdhljbcclbfaaaGreatDoorJ31
import Derived.Test.YtgdhljbcclbfaaaGreatDoorJ27
import Derived.Laws.AppendOwnNone
namespace Go.Proofs.YtgdhljbcclbfaaaGreatDoor
open Go.RowKit

/-- append of one text -/
theorem append_txt {ops : Array Oper} {rest : List Oper} {o : Oper} {a : Act} {Q : Exit → Act → World → Prop} {wr : World} {base : Nat} {X : List (List UInt8)} {v : Value} {c : (List UInt8)} (hgd : o.guard = none) (s x : Operand)
    (ho : o.op = .call { callee := .builtin .append, args := #[s, x], argTypes := #[44, 44] })
    (hs : a.eval s = v) (hx : a.eval x = .slice (some ⟨wr.heap.size, 0, none⟩) 1 1) (hown : wr.ownsRow base 9 1 v X.length (txtCells X)) (hn : X.length ≤ 100000) (h0 : base ≤ wr.heap.size)
    (h : ∀ v' w', w'.ownsRow base 9 1 v' (X ++ [c]).length (txtCells (X ++ [c])) → wr.grownBy w' v.ownBlock → wpList Tryz.prog ops Q rest (a.put o.dst v') w') :
    wpList Tryz.prog ops Q (o :: rest) a (wr.alloc (.cells #[.string ⟨c.toArray⟩] 9)) := by
  obtain ⟨i0, hi, hz0, hz1, hz2⟩ := info_parts Tryz.info9
  refine wpList_append_own _ hgd s x 44 ho base 9 i0 (.string ⟨#[]⟩) 1 16 Tryz.underlying44 hi hz0 hz1 hz2 rfl (by decide) v X.length _ hs (hown.alloc _) ⟨wr.heap.size, 0, none⟩ 1 1 [.string ⟨c.toArray⟩] hx rfl ?_ ?_ (by unfold maxLen; omega) (by omega) (by rw [World.size_alloc]; omega) ?_
  · exact cell_one_new _ _ _
  · intro u hu; simp at hu; subst hu; rfl
  · intro v' w' hown' hg _
    refine h v' w' (by simpa [txtCells] using hown') ?_
    have h0 := World.grownBy_alloc wr (.cells #[.string ⟨c.toArray⟩] 9) none
    exact ⟨hg.os.trans h0.os, hg.tape.trans h0.tape, hg.output.trans h0.output, Nat.le_trans h0.size hg.size, fun i hi hne => (hg.block i (Nat.lt_of_lt_of_le hi h0.size) hne).trans (h0.block i hi (by simp))⟩
theorem Duo.grown {A x : Nat} {w w1 w2 : World} {o : Option Nat} (h : Duo A x w w1) (hg : w1.grownBy w2 o) (hl : ∀ j, o = some j → w.heap.size ≤ j) : Duo A x w w2 :=
  ⟨hg.os.trans h.os, hg.tape.trans h.tape, hg.output.trans h.output, Nat.le_trans h.size hg.size, fun k hk h1 h2 => (hg.block k (Nat.lt_of_lt_of_le hk h.size) (fun e => by have := hl k e.symm; omega)).trans (h.block k hk h1 h2)⟩
theorem row_low {base m B : Nat} {wr : World} {e : TypeId} {v : Value} {xs : List Value} (ho : wr.ownsRow base e 1 v m xs) (hB : B ≤ base) : ∀ j, v.ownBlock = some j → B ≤ j := by
  intro j hj
  rcases ho.2 with ⟨rfl, _⟩ | ⟨g, cap, cur, rfl, h, _⟩
  · cases hj
  · cases hj
    exact Nat.le_trans hB h
theorem Curs.grown {cb rb B : Nat} {S : (List UInt8)} {st : St} {w w' : World} {o : Option Nat} (h : Curs cb rb S st w) (hg : w.grownBy w' o) (hl : ∀ j, o = some j → B ≤ j) (h1 : cb < B) (h2 : rb < B) : Curs cb rb S st w' :=
  h.to (hg.block _ h.lt (fun e => by have := hl _ e.symm; omega)) (hg.block _ h.rt (fun e => by have := hl _ e.symm; omega))
/-- a row of one's own is left alone by who writes a cursor alone -/
theorem own_duo {cb rb base n : Nat} {v : Value} {xs : List Value} {w w' : World} (h : w.ownsRow base 9 1 v n xs) (hd : Duo cb rb w w') (h1 : cb < base) (h2 : rb < base) : w'.ownsRow base 9 1 v n xs := by
  refine ⟨h.1, ?_⟩
  rcases h.2 with h | ⟨g, cap, cur, e, hg, hh, r⟩
  · exact .inl h
  · exact .inr ⟨g, cap, cur, e, hg, (hd.block g (Array.getElem?_eq_some_iff.1 hh).1 (by omega) (by omega)).trans hh, r⟩
/-- a list's walk -/
structure DInv (m n k : Nat) (S : (List UInt8)) (st : St) (tot : Except Flt (List (List UInt8) × Nat)) (L : List (List UInt8)) : Prop where
  l : L.length = k
  b : k = 0 ∨ n ≤ m
  t : ∀ x ∈ L, x.length ≤ S.length
  i : LInv S digG tot (n - k) L st
set_option maxRecDepth 100000 in
set_option maxHeartbeats 1000000 in
theorem cdigests_any {cb rb : Nat} {S : (List UInt8)} {st : St} {w : World} (m : Nat) (hm : m ≤ 10240) (hS : S.length ≤ 1000000) (h : Curs cb rb S st w) :
    Calls Tryz.prog 117 #[.pointer (some ⟨cb, 0, none⟩), .int .u64 (m : Int)] w fun e w' => ∃ (ao : Option Addr) (cp : Nat) (L : List (List UInt8)), e = .returned (.slice ao L.length cp) ∧ Hid (L.length ≤ m ∧ (∀ x ∈ L, x.length ≤ S.length) ∧ Fresh w.heap.size ao L w') ∧ Hid (CGot cb rb S (runS S (listG m digG) st) L w w') := by
  have HL := Lib.hid (clist_any m hS h)
  have HD := Lib.hid (fun st wz (h : Curs cb rb S st wz) => cdigest_any hS h)
  have HLT := Lib.hid (And.intro h.lt h.rt)
  have HM := Lib.hid hm
  clear h hS hm
  obtain ⟨tot, hT⟩ : ∃ tot, runS S (listG m digG) st = tot := ⟨_, rfl⟩
  rw [hT]
  have HTOT := Lib.hid hT
  clear hT
  go_enter Tryz.func117, Tryz.ntmps117
  go_wp2_with fail
  refine HL.out.mono ?_
  rintro e w1 ⟨n, rfl, hn, HQ⟩
  have HI := Lib.hid (HTOT.out ▸ LInv.start S m digG st n HQ.out.g)
  have HNM := Lib.hid (show badS (endS (runS S (headG 3 m) st)) = true ∨ n ≤ m from by
    cases hr : runS S (headG 3 m) st with
    | error f => exact .inl rfl
    | ok p =>
      obtain ⟨y, a⟩ := p
      have hg := HQ.out.g
      rw [hr] at hg
      cases hg.is
      right
      cases st with
      | error f => cases hr
      | ok a0 =>
        unfold runS headG at hr
        simp only at hr
        cases he : takeE 3 (S.drop a0) a0 with
        | error f => rw [he] at hr; cases hr
        | ok p =>
          obtain ⟨⟨n2, t⟩, k⟩ := p
          rw [he] at hr
          simp only at hr
          by_cases h1 : m < n2
          · simp only [if_pos h1] at hr; cases hr
          · simp only [if_neg h1] at hr
            by_cases h2 : n2 = 0
            · simp only [if_pos h2] at hr; cases hr
            · simp only [if_neg h2] at hr; cases hr; omega)
  have HC := Lib.hid HQ.out.c
  have HO := Lib.hid HQ.out.o
  clear HQ HL
  generalize endS (runS S (headG 3 m) st) = st1 at *
  have HN := Lib.hid hn
  clear hn
  go_wp2_with fail
  go_loopw [6, 7] (fun v i wr => ∃ (k : Nat) (L : List (List UInt8)) (st2 : St), k ≤ n ∧ i = .int .u64 (k : Int) ∧ Hid (DInv m n k S st2 tot L) ∧ Hid (badS st2 = true ∨ n ≤ m) ∧ Hid (wr.ownsRow w.heap.size 9 1 v L.length (txtCells L)) ∧ Hid (Curs cb rb S st2 wr) ∧ Hid (Duo cb rb w wr))
    (fun _ i _ => n - (intOf i).toNat)
  case atStart => exact ⟨0, [], st1, Nat.zero_le _, rfl, Lib.hid ⟨rfl, .inl rfl, (fun x hx => by cases hx), HI.out⟩, HNM, Lib.hid (World.ownsRow_nil _ _ _ _), HC, HO⟩
  case round =>
    obtain ⟨k, L, st2, hk, rfl, HI, HNM, HW, HC, HO⟩ := hrel
    have HB := Lib.hid (bad_any HC.out)
    by_cases hlt : k < n
    · have k1 : (k : Int) < (n : Int) := by omega
      have k0 : (0 : Int) ≤ (k : Int) := by omega
      have k3 : (k : Int) ≤ 65536 := by have := HN.out; omega
      have k4 : (0 : Int) ≤ (k : Int) := by omega
      have HLT2 := Lib.hid hlt
      cases hst : st2 with
      | error f =>
        subst hst
        clear hlt hk
        go_wp2_with (go_at_call 91; refine HB.out.mono ?_; rintro e w2 ⟨rfl, rfl⟩)
        go_ret
        obtain ⟨h1, h2⟩ := HI.out.i.done (.inr rfl)
        obtain ⟨ao, cp, rfl, hf⟩ := txt_of_owns HW.out rfl
        refine ⟨ao, cp, L, rfl, Lib.hid ⟨?_, HI.out.t, hf⟩, Lib.hid ⟨h2, h1 ▸ HC.out, HO.out⟩⟩
        have := HI.out.l; have := HI.out.b; have := HLT2.out; omega
      | ok a =>
        subst hst
        have HDG := Lib.hid (fun wz h => HD.out (.ok a) wz h)
        have hnm : n ≤ m := by
          rcases HNM.out with h | h
          · cases h
          · exact h
        have HNM2 := Lib.hid hnm
        clear hlt hk HNM hnm
        go_upto_region 6 with (go_at_call 91; refine HB.out.mono ?_; rintro e w2 ⟨rfl, rfl⟩)
        go_wp2_with (first
          | (go_at_call 94; refine (HDG.out _ HC.out).mono ?_; rintro e w3 ⟨t, rfl, ht, HX⟩; have HW3 := Lib.hid (own_duo HW.out HX.out.o (by have := HLT.out.1; omega) (by have := HLT.out.2; omega)); have HG3 := Lib.hid (Nat.le_trans HO.out.size HX.out.o.size); have HT3 := Lib.hid ht; clear ht)
          | (at_builtin; refine append_txt rfl _ _ rfl rfl rfl HW3.out (by have := HI.out.l; have := HLT2.out; have := HNM2.out; have := HM.out; omega) HG3.out ?_; intro v4 w4 ho4 hg4; have HO4 := Lib.hid ho4; have HG4 := Lib.hid hg4; clear ho4 hg4))
        go_roundw
        case rel =>
          have hlow := row_low HW3.out (Nat.le_refl w.heap.size)
          refine ⟨k + 1, L ++ [t], _, HLT2.out, by go_num, Lib.hid ⟨by rw [List.length_append, HI.out.l]; rfl, .inr HNM2.out, ?_, ?_⟩, Lib.hid (.inr HNM2.out), HO4, Lib.hid (HX.out.c.grown HG4.out hlow HLT.out.1 HLT.out.2), Lib.hid ((HO.out.trans HX.out.o).grown HG4.out hlow)⟩
          · intro x hx
            rcases List.mem_append.1 hx with hx | hx
            · exact HI.out.t x hx
            · obtain rfl := List.mem_singleton.1 hx
              exact HT3.out
          · have h1 := HI.out.i
            rw [show n - k = (n - (k + 1)) + 1 by have := HLT2.out; omega] at h1
            exact h1.step t HX.out.g
        case measure => have := HLT2.out; simp [intOf] <;> omega
    · have k1 : ¬ (k : Int) < (n : Int) := by omega
      obtain rfl : k = n := by omega
      clear hlt hk
      go_wp2_with (go_at_call 91; refine HB.out.mono ?_; rintro e w2 ⟨rfl, rfl⟩)
      go_ret
      obtain ⟨h1, h2⟩ := HI.out.i.done (.inl (Nat.sub_self _))
      obtain ⟨ao, cp, rfl, hf⟩ := txt_of_owns HW.out rfl
      refine ⟨ao, cp, L, rfl, Lib.hid ⟨?_, HI.out.t, hf⟩, Lib.hid ⟨h2, h1 ▸ HC.out, HO.out⟩⟩
      have := HI.out.l; have := HI.out.b; omega

/-- what a map's walk keeps: the cursor; the result's cells (to be written), the thing's cells -/
structure Rd (w0 : World) (cb rb : Nat) (S : (List UInt8)) (st : St) (T : TypeId) (r0 cs : Array Value) (wz : World) : Prop where
  c : Curs cb rb S st wz
  o : Duo cb rb w0 wz
  r : wz.heap[w0.heap.size]? = some (.cells r0 T (0, 0))
  p : wz.heap[w0.heap.size + 1]? = some (.cells cs T (0, 0))
  lt : cb < w0.heap.size ∧ rb < w0.heap.size
theorem Rd.call {w0 wz wa : World} {cb rb : Nat} {S : (List UInt8)} {st st2 : St} {T : TypeId} {r0 cs : Array Value} (h : Rd w0 cb rb S st T r0 cs wz) (ho : Duo cb rb wz wa) (hc : Curs cb rb S st2 wa) : Rd w0 cb rb S st2 T r0 cs wa := by
  have h1 := h.lt
  exact ⟨hc, h.o.trans ho, (ho.block _ (lit_lt h.r) (by omega) (by omega)).trans h.r, (ho.block _ (lit_lt h.p) (by omega) (by omega)).trans h.p, h1⟩
theorem Rd.set {w0 wz : World} {cb rb : Nat} {S : (List UInt8)} {st : St} {T : TypeId} {r0 cs : Array Value} (h : Rd w0 cb rb S st T r0 cs wz) (k : Nat) (v : Value) : Rd w0 cb rb S st T r0 (cs.setIfInBounds k v) (wz.setCell ⟨w0.heap.size + 1, k, none⟩ v) := by
  have h1 := h.lt
  have ho := Only.set (w0.heap.size + 1) k v wz
  exact ⟨h.c.only ho (by omega) (by omega), ⟨ho.os.trans h.o.os, ho.tape.trans h.o.tape, ho.output.trans h.o.output, Nat.le_trans h.o.size ho.size, fun j hj a b => (ho.block j (Nat.lt_of_lt_of_le hj h.o.size) (by omega)).trans (h.o.block j hj a b)⟩,
    (ho.block _ (lit_lt h.r) (by omega)).trans h.r, lit_set v h.p, h1⟩
theorem Rd.start {w : World} {cb rb : Nat} {S : (List UInt8)} {st : St} (h : Curs cb rb S st w) (T : TypeId) (cs : Array Value) : Rd w cb rb S st T cs cs ((w.alloc (.cells cs T)).alloc (.cells cs T)) := by
  have hb : Below w.heap.size w ((w.alloc (.cells cs T)).alloc (.cells cs T)) := (by0 w _).alloc (by simp) _
  refine ⟨h.next hb, Duo.below hb, lit_old _ (heap_alloc_new w _), ?_, ⟨h.lt, h.rt⟩⟩
  rw [show w.heap.size + 1 = (w.alloc (.cells cs T)).heap.size by simp]
  exact heap_alloc_new _ _
/-- the end: the result's cells are written -/
theorem Rd.fin {w0 wz wa : World} {cb rb : Nat} {S : (List UInt8)} {st : St} {T : TypeId} {r0 cs : Array Value} (h : Rd w0 cb rb S st T r0 cs wz) (ho : Only w0.heap.size wz wa) : Curs cb rb S st wa ∧ Duo cb rb w0 wa := by
  have h1 := h.lt
  exact ⟨h.c.only ho (by omega) (by omega), ⟨ho.os.trans h.o.os, ho.tape.trans h.o.tape, ho.output.trans h.o.output, Nat.le_trans h.o.size ho.size, fun j hj a b => (ho.block j (Nat.lt_of_lt_of_le hj h.o.size) (by omega)).trans (h.o.block j hj a b)⟩⟩
end Go.Proofs.YtgdhljbcclbfaaaGreatDoor
