/- The reference's cursor: how it begins and ends. -/
import Derived.Test.YtlhmmplkdjibkaaGreatDoorJ20
import Derived.Deep.QuietTactic
namespace Go.Proofs.YtlhmmplkdjibkaaGreatDoor
open Go.RowKit

set_option maxRecDepth 100000 in
theorem refNew_at (S : List UInt8) (w : World) :
    Calls Tryz.prog 62 #[.string ⟨S.toArray⟩, .int .i64 10240] w fun e w' => e = .returned (.pointer (some ⟨w.heap.size, 0, none⟩)) ∧ RefAt w.heap.size S 0 10240 w' ∧ Below w.heap.size w w' := by
  have HR := Lib.hid (heap_alloc_new w (.cells #[.string ⟨S.toArray⟩, .int .i64 0, .int .i64 10240] 140))
  go_enter Tryz.func62, Tryz.ntmps62
  go_wp2
  go_ret
  exact ⟨rfl, HR.out, by0 _ _⟩
set_option maxRecDepth 100000 in
theorem cbegin_any (S : (List UInt8)) (w : World) :
    Calls Tryz.prog 29 #[.string ⟨S.toArray⟩] w fun e w' => ∃ cb rb : Nat, e = .returned (.pointer (some ⟨cb, 0, none⟩)) ∧ Hid (Curs cb rb S (.ok 0) w' ∧ w.heap.size ≤ cb ∧ w.heap.size ≤ rb ∧ Below w.heap.size w w') := by
  have HN := Lib.hid (refNew_at S w)
  go_enter Tryz.func29, Tryz.ntmps29
  go_wp2_with fail
  refine HN.out.mono ?_
  rintro e w1 ⟨rfl, hr, hb⟩
  go_wp2
  go_ret
  have hlt := lit_lt hr
  refine ⟨_, _, rfl, Lib.hid ⟨⟨heap_alloc_new w1 _, (fun f hf => by cases hf), ⟨0, lit_old _ hr, Nat.zero_le _, (fun b hb => by cases hb; rfl)⟩, by omega⟩, hb.size, Nat.le_refl _, hb.trans ((by0 w1 _).mono hb.size)⟩⟩
theorem bad_at {cb rb : Nat} {S : (List UInt8)} {st : St} {w : World} (h : Curs cb rb S st w) (wz : World) (hw : wz.heap = w.heap) :
    Calls Tryz.prog 64 #[.pointer (some ⟨cb, 0, none⟩)] wz fun e w' => e = .returned (.bool (badS st)) ∧ w' = wz := bad_any (h.to (by rw [hw]) (by rw [hw]))
set_option maxRecDepth 100000 in
set_option maxHeartbeats 2000000 in
theorem cend_any {cb rb : Nat} {S : (List UInt8)} {st : St} {w : World} (hS : S.length ≤ 1000000) (h : Curs cb rb S st w) :
    Calls Tryz.prog 31 #[.pointer (some ⟨cb, 0, none⟩)] w fun e w' => e = .returned (.agg #[.int .i64 ((lastS S st).1 : Int), .int .i64 ((lastS S st).2 : Int)]) ∧ Duo cb rb w w' := by
  have hb0 := by0 w (.cells #[.int .i64 0, .int .i64 0] 42)
  have H := Lib.hid (h.next hb0)
  have HB := Lib.hid (bad_at H.out)
  have HO := Lib.hid (Duo.below (A := cb) (x := rb) hb0)
  have HR := Lib.hid (heap_alloc_new w (.cells #[.int .i64 0, .int .i64 0] 42))
  have HLT := Lib.hid (And.intro h.lt h.rt)
  clear hb0 h
  cases st with
  | error f =>
    obtain ⟨c, b⟩ := f
    simp only [badS] at HB
    go_enter Tryz.func31, Tryz.ntmps31
    go_upto_region 1 with fail
    change Code.wp _ _ _ _ (w.alloc (.cells #[.int .i64 0, .int .i64 0] 42))
    generalize w.alloc (.cells #[.int .i64 0, .int .i64 0] 42) = w1 at *
    go_quiet (first | (go_at_call 64; refine Calls.quiet_of_same (HB.out _ ?_); rfl))
    have hq := by0q w1 nq
    have h2 := H.out.next hq
    have hr2 := (hq.block _ (lit_lt HR.out)).trans HR.out
    have ho2 := HO.out.trans (Duo.below hq)
    generalize w1.drewN nq = w2 at *
    have c1 := (lit_cell h2.c 1).trans rfl
    have c2 := (lit_cell h2.c 2).trans rfl
    have r0 := (lit_cell hr2 0).trans rfl
    have r1 := (lit_cell hr2 1).trans rfl
    have f0 := lit_free hr2 0
    have f1 := lit_free hr2 1
    have HR2 := Lib.hid hr2
    have HO2 := Lib.hid ho2
    clear hq h2 hr2 ho2 H HO HR HB
    simp only [codeS, atS] at c1 c2
    go_wp2
    have hx := lit_set (k := 1) (.int .i64 (b : Int)) (lit_set (k := 0) (.int .i64 (c : Int)) HR2.out)
    have ho := (Only.set w.heap.size 0 (.int .i64 (c : Int)) w2).trans (Only.set w.heap.size 1 (.int .i64 (b : Int)) _)
    generalize ((w2).setCell ⟨w.heap.size, 0, none⟩ (.int .i64 (c : Int))).setCell ⟨w.heap.size, 1, none⟩ (.int .i64 (b : Int)) = w7 at *
    have v0 := (lit_cell hx 0).trans rfl
    have v1 := (lit_cell hx 1).trans rfl
    refine bodyPost_ret (v := .agg #[.int .i64 (c : Int), .int .i64 (b : Int)]) (by simp [results, Tryz.results31, go_sem, v0, v1]) rfl ⟨rfl, ?_⟩
    have h1 := HO2.out
    exact ⟨ho.os.trans h1.os, ho.tape.trans h1.tape, ho.output.trans h1.output, Nat.le_trans h1.size ho.size, fun j hj a b => (ho.block j (Nat.lt_of_lt_of_le hj h1.size) (by omega)).trans (h1.block j hj a b)⟩
  | ok a =>
    obtain ⟨p, r1, r2, r3⟩ := H.out.r
    obtain rfl := r3 a rfl
    have HRR := Lib.hid r1
    have HS := Lib.hid hS
    simp only [badS] at HB
    have c0 := (lit_cell H.out.c 0).trans rfl
    have e0 := (lit_cell r1 0).trans rfl
    have e1 := (lit_cell r1 1).trans rfl
    by_cases hlt : a < S.length
    · have k1 : (a : Int) < (S.length : Int) := by omega
      have HE := Lib.hid (show lastS S (.ok a) = (5, a) from if_pos hlt)
      rw [HE.out]
      clear hlt r1 r2 r3 hS
      go_enter Tryz.func31, Tryz.ntmps31
      go_upto_region 1 with fail
      change Code.wp _ _ _ _ (w.alloc (.cells #[.int .i64 0, .int .i64 0] 42))
      generalize w.alloc (.cells #[.int .i64 0, .int .i64 0] 42) = w1 at *
      go_quiet (first | (go_at_call 64; refine Calls.quiet_of_same (HB.out _ ?_); rfl))
      have hq := by0q w1 nq
      have h2 := H.out.next hq
      have hr2 := (hq.block _ (lit_lt HR.out)).trans HR.out
      have hrr2 := (hq.block _ (lit_lt HRR.out)).trans HRR.out
      have ho2 := HO.out.trans (Duo.below hq)
      generalize w1.drewN nq = w2 at *
      have ho3 := (Only.set cb 1 (.int .i64 5) w2).trans (Only.set cb 2 (.int .i64 (a : Int)) _)
      have hx3 := lit_set (k := 2) (.int .i64 (a : Int)) (lit_set (k := 1) (.int .i64 5) h2.c)
      have hr3 := (ho3.block _ (lit_lt hr2) (by have := HLT.out.1; omega)).trans hr2
      have ho4 := ho2.trans (Duo.only (x := rb) ho3)
      have d0 := (lit_cell h2.c 0).trans rfl
      have d1 := (lit_cell h2.c 1).trans rfl
      have d2 := (lit_cell h2.c 2).trans rfl
      have g1 := lit_free h2.c 1
      have g2 := lit_free h2.c 2
      have q0 := (lit_cell hrr2 0).trans rfl
      have q1 := (lit_cell hrr2 1).trans rfl
      have HX3 := Lib.hid hx3
      have HR3 := Lib.hid hr3
      have HO4 := Lib.hid ho4
      clear hq h2 hr2 ho2 ho3 ho4 hx3 hr3 hrr2 H HO HR HB HRR c0 e0 e1
      go_upto_region 3 with fail
      generalize ((w2).setCell ⟨cb, 1, none⟩ (.int .i64 5)).setCell ⟨cb, 2, none⟩ (.int .i64 (a : Int)) = w3 at *
      clear d0 d1 d2 g1 g2 q0 q1
      have c1 := (lit_cell HX3.out 1).trans rfl
      have c2 := (lit_cell HX3.out 2).trans rfl
      have r0 := (lit_cell HR3.out 0).trans rfl
      have r1 := (lit_cell HR3.out 1).trans rfl
      have f0 := lit_free HR3.out 0
      have f1 := lit_free HR3.out 1
      go_wp2
      have hx := lit_set (k := 1) (.int .i64 (a : Int)) (lit_set (k := 0) (.int .i64 5) HR3.out)
      have ho := (Only.set w.heap.size 0 (.int .i64 5) w3).trans (Only.set w.heap.size 1 (.int .i64 (a : Int)) _)
      generalize ((w3).setCell ⟨w.heap.size, 0, none⟩ (.int .i64 5)).setCell ⟨w.heap.size, 1, none⟩ (.int .i64 (a : Int)) = w7 at *
      have v0 := (lit_cell hx 0).trans rfl
      have v1 := (lit_cell hx 1).trans rfl
      refine bodyPost_ret (v := .agg #[.int .i64 5, .int .i64 (a : Int)]) (by simp [results, Tryz.results31, go_sem, v0, v1]) rfl ⟨rfl, ?_⟩
      have h1 := HO4.out
      exact ⟨ho.os.trans h1.os, ho.tape.trans h1.tape, ho.output.trans h1.output, Nat.le_trans h1.size ho.size, fun j hj a b => (ho.block j (Nat.lt_of_lt_of_le hj h1.size) (by omega)).trans (h1.block j hj a b)⟩
    · have k1 : ¬ (a : Int) < (S.length : Int) := by omega
      have kd : decide ((a : Int) < (S.length : Int)) = false := decide_eq_false k1
      have HE := Lib.hid (show lastS S (.ok a) = (0, 0) from if_neg hlt)
      rw [HE.out]
      clear hlt r1 r2 r3 hS
      go_enter Tryz.func31, Tryz.ntmps31
      go_upto_region 1 with fail
      change Code.wp _ _ _ _ (w.alloc (.cells #[.int .i64 0, .int .i64 0] 42))
      generalize w.alloc (.cells #[.int .i64 0, .int .i64 0] 42) = w1 at *
      go_quiet (first | (go_at_call 64; refine Calls.quiet_of_same (HB.out _ ?_); rfl))
      have hq := by0q w1 nq
      have h2 := H.out.next hq
      have hr2 := (hq.block _ (lit_lt HR.out)).trans HR.out
      have ho2 := HO.out.trans (Duo.below hq)
      generalize w1.drewN nq = w2 at *
      have c1 := (lit_cell h2.c 1).trans rfl
      have c2 := (lit_cell h2.c 2).trans rfl
      have r0 := (lit_cell hr2 0).trans rfl
      have r1 := (lit_cell hr2 1).trans rfl
      have f0 := lit_free hr2 0
      have f1 := lit_free hr2 1
      have HR2 := Lib.hid hr2
      have HO2 := Lib.hid ho2
      clear hq h2 hr2 ho2 H HO HR HB HRR c0 e0 e1
      simp only [codeS, atS] at c1 c2
      go_wp2
      have hx := lit_set (k := 1) (.int .i64 0) (lit_set (k := 0) (.int .i64 0) HR2.out)
      have ho := (Only.set w.heap.size 0 (.int .i64 0) w2).trans (Only.set w.heap.size 1 (.int .i64 0) _)
      generalize ((w2).setCell ⟨w.heap.size, 0, none⟩ (.int .i64 0)).setCell ⟨w.heap.size, 1, none⟩ (.int .i64 0) = w7 at *
      have v0 := (lit_cell hx 0).trans rfl
      have v1 := (lit_cell hx 1).trans rfl
      refine bodyPost_ret (v := .agg #[.int .i64 0, .int .i64 0]) (by simp [results, Tryz.results31, go_sem, v0, v1]) rfl ⟨rfl, ?_⟩
      have h1 := HO2.out
      exact ⟨ho.os.trans h1.os, ho.tape.trans h1.tape, ho.output.trans h1.output, Nat.le_trans h1.size ho.size, fun j hj a b => (ho.block j (Nat.lt_of_lt_of_le hj h1.size) (by omega)).trans (h1.block j hj a b)⟩
end Go.Proofs.YtlhmmplkdjibkaaGreatDoor
/- The reference's ReadPart, ReadMsg, ReadHeader. -/
namespace Go.Proofs.YtlhmmplkdjibkaaGreatDoor
open Go.RowKit

/-- what a reading's walk keeps: the cursor; the results' cells -/
structure Rr (w0 : World) (cb rb : Nat) (S : (List UInt8)) (st : St) (T : TypeId) (z : Array Value) (wz : World) : Prop where
  c : Curs cb rb S st wz
  o : Below w0.heap.size w0 wz
  r : wz.heap[w0.heap.size]? = some (.cells z T (0, 0))
  f : wz.heap[w0.heap.size + 1]? = some (.cells #[.int .i64 0, .int .i64 0] 42 (0, 0))
  lt : w0.heap.size + 2 ≤ cb ∧ w0.heap.size + 2 ≤ rb
theorem Rr.call {w0 wz wa : World} {cb rb : Nat} {S : (List UInt8)} {st st2 : St} {T : TypeId} {z : Array Value} (h : Rr w0 cb rb S st T z wz) (ho : Duo cb rb wz wa) (hc : Curs cb rb S st2 wa) : Rr w0 cb rb S st2 T z wa := by
  have h1 := h.lt
  exact ⟨hc, h.o.trans ⟨ho.os, ho.tape, ho.output, ho.size, fun k hk => ho.block k (Nat.lt_of_lt_of_le hk h.o.size) (by omega) (by omega)⟩, (ho.block _ (lit_lt h.r) (by omega) (by omega)).trans h.r, (ho.block _ (lit_lt h.f) (by omega) (by omega)).trans h.f, h1⟩
/-- what a reading answers -/
def RdAns {ρ : Type} (g : (List UInt8) → Nat → Res ρ) (S : (List UInt8)) (z q : ρ) (f : Nat × Nat) : Prop := match wholeG g S with
  | .error h => q = z ∧ f = h ∧ f.1 ≠ 0
  | .ok p => q = p ∧ f = (0, 0)
def RdLast {ρ : Type} (g : (List UInt8) → Nat → Res ρ) (S : (List UInt8)) (q : ρ) (F : Nat × Nat) : Prop := match wholeG g S with
  | .error f => F = f ∧ f.1 ≠ 0
  | .ok p => p = q ∧ F = (0, 0)
theorem rd_good {ρ : Type} {g : (List UInt8) → Nat → Res ρ} {S : (List UInt8)} {q : ρ} {b : Nat} (h : RdLast g S q (0, b)) (z : ρ) : RdAns g S z q (0, b) := by
  unfold RdLast at h
  unfold RdAns
  cases hw : wholeG g S with
  | error f => rw [hw] at h; obtain ⟨rfl, h⟩ := h; exact absurd rfl h
  | ok p => rw [hw] at h; exact ⟨h.1.symm, h.2⟩
theorem rd_bad {ρ : Type} {g : (List UInt8) → Nat → Res ρ} {S : (List UInt8)} {q z : ρ} {c b : Nat} (h : RdLast g S q (c, b)) (hc : c ≠ 0) : RdAns g S z z (c, b) := by
  unfold RdLast at h
  unfold RdAns
  cases hw : wholeG g S with
  | error f => rw [hw] at h; exact ⟨rfl, h.1, hc⟩
  | ok p => rw [hw] at h; exact absurd (congrArg Prod.fst h.2) hc
theorem Rr.next {w0 wz wa : World} {cb rb : Nat} {S : (List UInt8)} {st : St} {T : TypeId} {z : Array Value} (h : Rr w0 cb rb S st T z wz) (hb : Below wz.heap.size wz wa) : Rr w0 cb rb S st T z wa :=
  ⟨h.c.next hb, h.o.trans (hb.mono h.o.size), (hb.block _ (lit_lt h.r)).trans h.r, (hb.block _ (lit_lt h.f)).trans h.f, h.lt⟩

end Go.Proofs.YtlhmmplkdjibkaaGreatDoor
