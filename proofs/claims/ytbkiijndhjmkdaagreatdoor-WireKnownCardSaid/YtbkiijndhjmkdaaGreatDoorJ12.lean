/- What is read in an attempt; the reader's calls. -/
import Derived.Test.YtbkiijndhjmkdaaGreatDoorJ11
import Derived.Test.YtbkiijndhjmkdaaGreatDoorJ7
namespace Go.Proofs.YtbkiijndhjmkdaaGreatDoor
open Go.RowKit Go.Extern.Stop Go.Stop Go.Extern

theorem takeP_numQ (left : List UInt8) (m : Nat) : takeP left m 0 = numQ left 0 := by
  cases left with
  | nil => rfl
  | cons b r => simp [takeP, numQ]
theorem takeP_len (left : List UInt8) (m s : Nat) (h0 : s ≠ 0) (h1 : s ≠ 1) (h2 : s ≠ 2) : takeP left m s = lenQ left m s := by
  cases left with
  | nil => rfl
  | cons b r =>
    simp only [takeP, lenQ, numQ, h1, h2]
    repeat' split
    all_goals simp_all
/-- a counted thing: a length, and so many bytes behind it -/
theorem takeP_cnt (left : List UInt8) (m s : Nat) (h : s = 1 ∨ s = 2) : takeP left m s =
    if (lenQ left m s).c ≠ 0 then ⟨0, [], (lenQ left m s).c, 0⟩
    else if left.length - (lenQ left m s).m < (lenQ left m s).n then ⟨0, [], 4, 0⟩
    else ⟨(lenQ left m s).n, (left.drop (lenQ left m s).m).take (lenQ left m s).n, 0, (lenQ left m s).m + (lenQ left m s).n⟩ := by
  have hs0 : s ≠ 0 := by omega
  cases left with
  | nil => rfl
  | cons b r =>
    rw [takeP, lenQ, numQ]
    generalize rowU s b.toNat = R
    obtain ⟨sz, n0, least⟩ := R
    simp only
    by_cases h0 : sz < 0
    · simp [h0]
    · rw [if_neg h0, if_neg h0]
      generalize sz.toNat = z
      by_cases h1 : r.length < z
      · simp [h1]
      · rw [if_neg h1, if_neg h1]
        generalize hn : beN n0 (r.take z) = N
        by_cases h2 : N < least
        · simp [h2]
        · rw [if_neg h2, if_neg h2]
          by_cases h3 : m < N
          · simp [h3, hs0]
          · have e : (r.length + 1 - (1 + z) < N) = (r.length - z < N) := by
              rw [show r.length + 1 - (1 + z) = r.length - z by omega]
            have e2 : (b :: r).drop (1 + z) = r.drop z := by rw [Nat.add_comm, List.drop_succ_cons]
            simp only [h3, hs0, h, e, e2, ne_eq, not_true_eq_false, not_false_eq_true, and_false, if_true, if_false, List.length_cons]

theorem Duo.of_only {A x : Nat} {w w' : World} (h : Only A w w') : Duo A x w w' := ⟨h.os, h.tape, h.output, h.size, fun k hk h1 _ => h.block k hk h1⟩
theorem Duo.set {A x : Nat} {w w' : World} (h : Duo A x w w') (v : Value) : Duo A x w (w'.setCell ⟨x, 0, none⟩ v) :=
  ⟨h.os, h.tape, h.output, by have := h.size; simp [World.setCell] <;> omega, fun k hk h1 h2 => (lit_far v h2).trans (h.block k hk h1 h2)⟩

set_option maxRecDepth 100000 in
theorem num1_ok (A x : Nat) (S : List UInt8) (a m : Nat) (w : World) (hR : RAt A S a m w) (hg : GlobR w) (hA : 3 ≠ A) (hS : S.length ≤ 1000000) (ha : a ≤ S.length)
    (hx : w.heap[x]? = some (.cells #[.int .u64 0] 22 (0, 0))) (hxA : x ≠ A) (hc : (numQ (S.drop a) 0).c = 0) :
    Calls Tryz.prog 207 #[.pointer (some ⟨A, 0, none⟩), .pointer (some ⟨x, 0, none⟩)] w fun e w' => e = .returned (.tuple #[]) ∧ RAt A S (a + (numQ (S.drop a) 0).m) m w' ∧ Duo A x w w' ∧ w'.heap[x]? = some (.cells #[.int .u64 ((numQ (S.drop a) 0).n : Int)] 22 (0, 0)) := by
  have HC := Lib.hid ((number_any A S a m 0 w hR hg hA hS ha (by decide)).mono fun e w' h => h.ok hc)
  have HX := Lib.hid hx
  clear hR hg hS ha hx
  generalize numQ (S.drop a) 0 = P at *
  go_enter Tryz.func207, Tryz.ntmps207
  go_wp2_with (go_at_call 208; refine HC.out.mono ?_; rintro e w1 ⟨rfl, hr, ho⟩; have hx1 := (ho.block x (lit_lt HX.out) hxA).trans HX.out; have x0 := (lit_cell hx1 0).trans rfl; have x1 := lit_free hx1 0)
  refine bodyPost_end (results_none rfl _ _ _) rfl ⟨rfl, (lit_far _ hxA.symm).trans hr, (Duo.of_only ho).set _, (lit_set _ hx1).trans rfl⟩
set_option maxRecDepth 100000 in
theorem num1_bad (A x : Nat) (S : List UInt8) (a m : Nat) (w : World) (hR : RAt A S a m w) (hg : GlobR w) (hA : 3 ≠ A) (hS : S.length ≤ 1000000) (ha : a ≤ S.length) (hc : (numQ (S.drop a) 0).c ≠ 0) :
    Calls Tryz.prog 207 #[.pointer (some ⟨A, 0, none⟩), .pointer (some ⟨x, 0, none⟩)] w (Gave (numQ (S.drop a) 0).c A w) := by
  have HC := Lib.hid ((number_any A S a m 0 w hR hg hA hS ha (by decide)).mono fun e w' h => h.bad hc)
  clear hR hg hS ha hc
  generalize numQ (S.drop a) 0 = P at *
  go_enter Tryz.func207, Tryz.ntmps207
  go_wp2_with (go_at_call 208; refine HC.out.mono ?_; rintro e w1 ⟨⟨f, hf, rfl, hfc⟩, ho⟩)
  exact ⟨rfl, ⟨f, hf, rfl, hfc⟩, ho⟩
set_option maxRecDepth 100000 in
theorem begun1_ok (A x y : Nat) (S : List UInt8) (a m s : Nat) (w : World) (hR : RAt A S a m w) (hg : GlobR w) (hA : 3 ≠ A) (hS : S.length ≤ 1000000) (ha : a ≤ S.length) (hs : s ≤ 4) (hm : m < 9223372036854775808)
    (hy : w.heap[y]? = some (.cells #[.int .i64 (s : Int)] 3 (0, 0))) (hx : w.heap[x]? = some (.cells #[.int .i64 0] 3 (0, 0))) (hxA : x ≠ A) (hc : (lenQ (S.drop a) m s).c = 0) :
    Calls Tryz.prog 209 #[.pointer (some ⟨A, 0, none⟩), .pointer (some ⟨y, 0, none⟩), .pointer (some ⟨x, 0, none⟩)] w fun e w' => e = .returned (.tuple #[]) ∧ RAt A S (a + (lenQ (S.drop a) m s).m) m w' ∧ Duo A x w w' ∧ w'.heap[x]? = some (.cells #[.int .i64 ((lenQ (S.drop a) m s).n : Int)] 3 (0, 0)) := by
  have HC := Lib.hid ((length_any A S a m s w hR hg hA hS ha hs hm).mono fun e w' h => h.ok hc)
  have HX := Lib.hid hx
  have y0 := (lit_cell hy 0).trans rfl
  clear hR hg hS ha hx hm hs hy
  generalize lenQ (S.drop a) m s = P at *
  go_enter Tryz.func209, Tryz.ntmps209
  go_wp2_with (go_at_call 210; refine HC.out.mono ?_; rintro e w1 ⟨rfl, hr, ho⟩; have hx1 := (ho.block x (lit_lt HX.out) hxA).trans HX.out; have x0 := (lit_cell hx1 0).trans rfl; have x1 := lit_free hx1 0)
  refine bodyPost_end (results_none rfl _ _ _) rfl ⟨rfl, (lit_far _ hxA.symm).trans hr, (Duo.of_only ho).set _, (lit_set _ hx1).trans rfl⟩
set_option maxRecDepth 100000 in
theorem begun1_bad (A x y : Nat) (S : List UInt8) (a m s : Nat) (w : World) (hR : RAt A S a m w) (hg : GlobR w) (hA : 3 ≠ A) (hS : S.length ≤ 1000000) (ha : a ≤ S.length) (hs : s ≤ 4) (hm : m < 9223372036854775808)
    (hy : w.heap[y]? = some (.cells #[.int .i64 (s : Int)] 3 (0, 0))) (hc : (lenQ (S.drop a) m s).c ≠ 0) :
    Calls Tryz.prog 209 #[.pointer (some ⟨A, 0, none⟩), .pointer (some ⟨y, 0, none⟩), .pointer (some ⟨x, 0, none⟩)] w (Gave (lenQ (S.drop a) m s).c A w) := by
  have HC := Lib.hid ((length_any A S a m s w hR hg hA hS ha hs hm).mono fun e w' h => h.bad hc)
  have y0 := (lit_cell hy 0).trans rfl
  clear hR hg hS ha hm hs hy hc
  generalize lenQ (S.drop a) m s = P at *
  go_enter Tryz.func209, Tryz.ntmps209
  go_wp2_with (go_at_call 210; refine HC.out.mono ?_; rintro e w1 ⟨⟨f, hf, rfl, hfc⟩, ho⟩)
  exact ⟨rfl, ⟨f, hf, rfl, hfc⟩, ho⟩

theorem lenQ_n (left : List UInt8) (m s : Nat) : (lenQ left m s).m ≤ left.length ∧ ((lenQ left m s).c = 0 → (lenQ left m s).n ≤ m) ∧ (lenQ left m s).c ≤ 5 := by
  obtain ⟨_, _, h3, h4⟩ := numQ_n left s
  unfold lenQ
  split
  · exact ⟨Nat.zero_le _, (fun h => by cases h), by decide⟩
  · rename_i h
    exact ⟨h3, fun hc => by
      have := fun hn => h ⟨hc, hn⟩
      omega, h4⟩

set_option maxRecDepth 100000 in
theorem counted1_any (A x y : Nat) (S : List UInt8) (a m s : Nat) (w : World) (hR : RAt A S a m w) (hg : GlobR w) (hA : 3 ≠ A) (hS : S.length ≤ 1000000) (ha : a ≤ S.length) (hs : s = 1 ∨ s = 2) (hm : m < 9223372036854775808)
    (hy : w.heap[y]? = some (.cells #[.int .i64 (s : Int)] 3 (0, 0))) (hx : w.heap[x]? = some (.cells #[.string ⟨#[]⟩] 9 (0, 0))) (hxA : x ≠ A) :
    Calls Tryz.prog 211 #[.pointer (some ⟨A, 0, none⟩), .pointer (some ⟨y, 0, none⟩), .pointer (some ⟨x, 0, none⟩)] w fun e w' =>
      ((takeP (S.drop a) m s).c = 0 → e = .returned (.tuple #[]) ∧ RAt A S (a + (takeP (S.drop a) m s).m) m w' ∧ Duo A x w w' ∧ w'.heap[x]? = some (.cells #[.string ⟨(takeP (S.drop a) m s).t.toArray⟩] 9 (0, 0))) ∧ ((takeP (S.drop a) m s).c ≠ 0 → Gave (takeP (S.drop a) m s).c A w e w') := by
  have HC := Lib.hid (length_any A S a m s w hR hg hA hS ha (by omega) hm)
  obtain ⟨hm1, hn1, _⟩ := lenQ_n (S.drop a) m s
  have hny : (lenQ (S.drop a) m s).c = 0 → (lenQ (S.drop a) m s).n ≤ 9223372036854775807 := fun h => by have := hn1 h; omega
  have hT := takeP_cnt (S.drop a) m s hs
  have hSd : S.drop (a + (lenQ (S.drop a) m s).m) = (S.drop a).drop (lenQ (S.drop a) m s).m := by rw [List.drop_drop]
  rw [List.length_drop] at hm1
  have HX := Lib.hid hx
  have y0 := (lit_cell hy 0).trans rfl
  clear hR hg hx hm hs hy
  generalize takeP (S.drop a) m s = T at *
  generalize lenQ (S.drop a) m s = P at *
  by_cases hc : P.c = 0
  · rw [if_neg (fun h => h hc), ← hSd] at hT
    have HC2 := Lib.hid (HC.out.mono fun e w' h => h.ok hc)
    have hmS : a + P.m ≤ S.length := by omega
    have hnn := hny hc
    have hll : (S.drop (a + P.m)).length = (S.drop a).length - P.m := by rw [List.length_drop, List.length_drop]; omega
    rw [← hll] at hT
    have HTK := Lib.hid (fun (w : World) (h : RAt A S (a + P.m) m w) (h2 : ¬ (S.drop (a + P.m)).length < P.n) => qtake_ok A S (a + P.m) m P.n w h hS hmS (by omega))
    have HTS := Lib.hid (fun (w : World) (h : RAt A S (a + P.m) m w) (h2 : (S.drop (a + P.m)).length < P.n) => qtake_short A S (a + P.m) m P.n w h hS hmS hnn h2)
    have hls : (S.drop (a + P.m)).length ≤ 1000000 := by rw [List.length_drop]; omega
    generalize hL : S.drop (a + P.m) = L at *
    have HLL := Lib.hid hL
    clear HC hm1 hn1 hny hSd hll hL
    by_cases hsh : L.length < P.n
    · rw [if_pos hsh] at hT
      subst hT
      go_enter Tryz.func211, Tryz.ntmps211
      go_wp2_with (first | (go_at_call 210; refine HC2.out.mono ?_; rintro e w1 ⟨rfl, hr, ho⟩) | (go_at_call 156; refine (HTS.out _ hr hsh).mono ?_; rintro e w2 ⟨⟨f, hf, rfl, hfc⟩, ho2⟩))
      exact ⟨rfl, (fun h => absurd h (by decide)), fun _ => (⟨⟨f, hf, rfl, hfc⟩, ho2⟩ : Gave 4 A _ _ w2).from ho⟩
    · rw [if_neg hsh] at hT
      subst hT
      have HCL := Lib.hid (fun w => clone_any (L.take P.n) w (by rw [List.length_take]; omega))
      go_enter Tryz.func211, Tryz.ntmps211
      go_wp2_with (first | (go_at_call 210; refine HC2.out.mono ?_; rintro e w1 ⟨rfl, hr, ho⟩) | (go_at_call 156; refine (HTK.out _ hr hsh).mono ?_; rintro e w2 ⟨rfl, hr2, ho2⟩; rw [HLL.out]) | (go_at_call 212; refine (HCL.out _).mono ?_; rintro e w3 ⟨rfl, hb3⟩; have ho3 := (ho.trans ho2).trans (Only.of_below (b := A) hb3); have hx1 := (ho3.block x (lit_lt HX.out) hxA).trans HX.out; have x0 := (lit_cell hx1 0).trans rfl; have x1 := lit_free hx1 0))
      refine bodyPost_end (results_none rfl _ _ _) rfl ⟨fun _ => ⟨rfl, (lit_far _ hxA.symm).trans ((hb3.block A (lit_lt hr2)).trans ?_), (Duo.of_only ho3).set _, (lit_set _ hx1).trans rfl⟩, fun h => absurd rfl h⟩
      rw [← Nat.add_assoc]
      exact hr2
  · rw [if_pos hc] at hT
    subst hT
    have HC2 := Lib.hid (HC.out.mono fun e w' h => h.bad hc)
    clear HC
    go_enter Tryz.func211, Tryz.ntmps211
    go_wp2_with (go_at_call 210; refine HC2.out.mono ?_; rintro e w1 ⟨⟨f, hf, rfl, hfc⟩, ho⟩)
    exact ⟨rfl, (fun h => absurd h hc), fun _ => ⟨⟨f, hf, rfl, hfc⟩, ho⟩⟩

/-- what the program's tables and reflectlite want of memory -/
structure GlobU (w : World) : Prop where
  e : GlobE w
  r : GlobR w
theorem GlobU.next {w w' : World} (h : GlobU w) (hb : Below w.heap.size w w') : GlobU w' := ⟨h.e.next hb, h.r.next hb⟩
/-- a reader, its bound an int -/
structure RQ (b : Nat) (S : List UInt8) (a m : Nat) (w : World) : Prop where
  r : RAt b S a m w
  m : m < 9223372036854775808
theorem ent_num : ∀ args w, (callFunc 207 args).run Tryz.prog w = .ok (.enter 207 args) w := fun _ _ => by kernel_rfl
theorem ent_begun : ∀ args w, (callFunc 209 args).run Tryz.prog w = .ok (.enter 209 args) w := fun _ _ => by kernel_rfl
theorem ent_counted : ∀ args w, (callFunc 211 args).run Tryz.prog w = .ok (.enter 211 args) w := fun _ _ => by kernel_rfl
theorem ent_end : ∀ args w, (callFunc 155 args).run Tryz.prog w = .ok (.enter 155 args) w := fun _ _ => by kernel_rfl

theorem duo_only {b x : Nat} {w w1 w2 : World} (h : Duo b x w1 w2) (hx : w.heap.size ≤ x) (h1 : Below w.heap.size w w1) : Only b w w2 :=
  ⟨h.os.trans h1.os, h.tape.trans h1.tape, h.output.trans h1.output, Nat.le_trans h1.size h.size, fun k hk hne => (h.block k (Nat.lt_of_lt_of_le hk h1.size) hne (by omega)).trans (h1.block k hk)⟩
theorem errV_made {lo : Nat} {c a : Nat} {g : Nat} {w w' wz : World} (hm : Made (c : Int) (a : Int) g w w') (hlo : lo ≤ w.heap.size) (hc : c ≠ 0) (hb : wz.heap[g]? = w'.heap[g]?) : ErrV lo (c : Int) (a : Int) (.iface 106 (.pointer (some ⟨g, 0, none⟩))) wz := by
  unfold ErrV
  rw [if_neg (by omega)]
  exact ⟨g, Nat.le_trans hlo hm.l, rfl, (lit_cell (hb.trans hm.h) 0).trans rfl, (lit_cell (hb.trans hm.h) 1).trans rfl⟩

theorem lenQ_bad (left : List UInt8) (m s : Nat) (hc : ¬ (lenQ left m s).c = 0) : (lenQ left m s).n = 0 ∧ (lenQ left m s).m = 0 := by
  have h := (numQ_n left s).2.1
  unfold lenQ at *
  split at hc
  · rename_i h1; rw [if_pos h1]; exact ⟨rfl, rfl⟩
  · rename_i h1; rw [if_neg h1]; exact h hc
theorem takeP_bad (left : List UInt8) (m s : Nat) (hs : s = 1 ∨ s = 2) (hc : ¬ (takeP left m s).c = 0) : (takeP left m s).n = 0 ∧ (takeP left m s).m = 0 ∧ (takeP left m s).t = [] := by
  have h := takeP_fits left m s
  have h1 := h.bad hc
  have h2 := h.t12 hs
  exact ⟨h1.2, h1.1, List.eq_nil_of_length_eq_zero (by rw [← h2, h1.2])⟩

set_option maxRecDepth 100000 in
theorem qnum_any (b : Nat) (S : List UInt8) (a m : Nat) (w : World) (hR : RQ b S a m w) (hG : GlobU w) (hS : S.length ≤ 1000000) (ha : a ≤ S.length) :
    Calls Tryz.prog 184 #[.pointer (some ⟨b, 0, none⟩)] w fun e w' => ∃ v, e = .returned (.tuple #[.int .u64 ((numQ (S.drop a) 0).n : Int), v]) ∧ ErrV w.heap.size (numQ (S.drop a) 0).c a v w' ∧ RQ b S (a + (numQ (S.drop a) 0).m) m w' ∧ Only b w w' := by
  have hmf : ∀ (fn : Fn) (first cap : Array Value) (w : World), (Instr.makeFunc fn first cap).run Tryz.prog w = .ok (.func fn first cap) w := fun _ _ _ _ => rfl
  have hbl := lit_lt hR.r
  have hgs := hG.r.size
  obtain ⟨X, hX⟩ : ∃ X, X = w.heap.size := ⟨_, rfl⟩
  obtain ⟨wA, hwA⟩ : ∃ wA, w.alloc (.cells #[.int .u64 0] 22) = wA := ⟨_, rfl⟩
  have hb0 : Below w.heap.size w wA := hwA ▸ by0 w _
  have hx0 : wA.heap[X]? = some (.cells #[.int .u64 0] 22 (0, 0)) := by rw [← hwA, hX]; exact heap_alloc_new w _
  have hR1 : RAt b S a m wA := hwA ▸ lit_old _ hR.r
  have hsz : wA.heap.size = w.heap.size + 1 := by rw [← hwA]; simp

  by_cases hc : (numQ (S.drop a) 0).c = 0
  · have HC := Lib.hid (attempt_ok b X S a (a + (numQ (S.drop a) 0).m) m (.cells #[.int .u64 ((numQ (S.drop a) 0).n : Int)] 22 (0, 0)) 207 #[.pointer (some ⟨X, 0, none⟩)] wA ent_num hR1 (by omega) (by omega)
      (fun w4 A h4 hA hRA => num1_ok A X S a m w4 hRA ((hG.next hb0).r.next h4) (by omega) hS ha ((h4.block _ (by omega)).trans hx0) (by omega) hc))
    have HB0 := Lib.hid hb0
    have HXE := Lib.hid hX

    have HWA := Lib.hid hwA
    have HSZ := Lib.hid hsz
    have HM := Lib.hid hR.m
    have HCC := Lib.hid hc
    clear hR hG hS ha hR1 hb0 hx0 hc hgs hX hwA hsz
    generalize numQ (S.drop a) 0 = P at *
    go_enter Tryz.func184, Tryz.ntmps184
    go_upto_region 1 with fail
    rw [HWA.out, ← HXE.out]
    go_wp2_with (go_at_call 154; refine HC.out.mono ?_; rintro e w2 ⟨rfl, hr, hx, ht⟩; have x0 := (lit_cell hx 0).trans rfl; have x1 := lit_free hx 0)
    have hX := HXE.out
    have hsz := HSZ.out
    have hx2 : (w2.setCell ⟨X, 0, none⟩ (.int .u64 (P.n : Int))).heap[X]? = some (.cells #[.int .u64 (P.n : Int)] 22 (0, 0)) := (lit_set (.int .u64 (P.n : Int)) hx).trans rfl
    have z0 := (lit_cell hx2 0).trans rfl
    have hr2 : RAt b S (a + P.m) m (w2.setCell ⟨X, 0, none⟩ (.int .u64 (P.n : Int))) := (lit_far _ (by omega)).trans hr
    have ht2 := ht.set (.int .u64 (P.n : Int))
    generalize w2.setCell ⟨X, 0, none⟩ (.int .u64 (P.n : Int)) = w3 at *
    refine bodyPost_ret (v := .tuple #[.int .u64 (P.n : Int), .nilIface]) (by simp [results, Tryz.results184, go_sem, z0]) rfl ⟨_, rfl, ?_, ⟨hr2, HM.out⟩, duo_only ht2 (by omega) HB0.out⟩
    rw [ErrV, if_pos (by rw [HCC.out]; rfl)]
  · have HC := Lib.hid (attempt_bad b S a m (numQ (S.drop a) 0).c 207 #[.pointer (some ⟨X, 0, none⟩)] wA ent_num hR1 (hG.e.next hb0)
      (fun w4 A h4 hA hRA => num1_bad A X S a m w4 hRA ((hG.next hb0).r.next h4) (by omega) hS ha hc))
    have HB0 := Lib.hid hb0
    have HXE := Lib.hid hX

    have HWA := Lib.hid hwA
    have HSZ := Lib.hid hsz
    have HM := Lib.hid hR.m
    have HR1 := Lib.hid hR1
    have HX0 := Lib.hid hx0
    have hP : (numQ (S.drop a) 0).n = 0 ∧ (numQ (S.drop a) 0).m = 0 := (numQ_n (S.drop a) 0).2.1 hc
    have HCC := Lib.hid hc
    clear hR hG hS ha hR1 hb0 hx0 hc hgs hX hwA hsz
    generalize numQ (S.drop a) 0 = P at *
    obtain ⟨Pn, Pt, Pc, Pm⟩ := P
    simp only at hP HC HCC ⊢
    obtain ⟨rfl, rfl⟩ := hP
    go_enter Tryz.func184, Tryz.ntmps184
    go_upto_region 1 with fail
    rw [HWA.out, ← HXE.out]
    go_wp2_with (go_at_call 154; refine HC.out.mono ?_; rintro e w2 ⟨g, rfl, hm⟩; have hx := (hm.b.block X (lit_lt HX0.out)).trans HX0.out; have x0 := (lit_cell hx 0).trans rfl; have x1 := lit_free hx 0)
    have hX := HXE.out
    have hsz := HSZ.out
    have hx2 : (w2.setCell ⟨X, 0, none⟩ (.int .u64 0)).heap[X]? = some (.cells #[.int .u64 0] 22 (0, 0)) := (lit_set (.int .u64 0) hx).trans rfl
    have z0 := (lit_cell hx2 0).trans rfl
    have hr2 : RAt b S a m (w2.setCell ⟨X, 0, none⟩ (.int .u64 0)) := (lit_far _ (by omega)).trans ((hm.b.block b (by omega)).trans HR1.out)
    have hl := hm.l
    have hm2 : (w2.setCell ⟨X, 0, none⟩ (.int .u64 0)).heap[g]? = w2.heap[g]? := lit_far _ (by omega)
    have ho2 : Below w.heap.size w (w2.setCell ⟨X, 0, none⟩ (.int .u64 0)) := HB0.out.trans ((hm.b.mono (by omega)).setCell (show w.heap.size ≤ (⟨X, 0, none⟩ : Addr).block by show _ ≤ X; omega) _)
    generalize w2.setCell ⟨X, 0, none⟩ (.int .u64 0) = w3 at *
    refine bodyPost_ret (v := .tuple #[.int .u64 0, .iface 106 (.pointer (some ⟨g, 0, none⟩))]) (by simp [results, Tryz.results184, go_sem, z0]) rfl ⟨_, rfl, errV_made hm (by omega) HCC.out hm2, ⟨hr2, HM.out⟩, Only.of_below ho2⟩


set_option maxRecDepth 100000 in
theorem qbegun_any (b : Nat) (S : List UInt8) (a m s : Nat) (w : World) (hR : RQ b S a m w) (hG : GlobU w) (hS : S.length ≤ 1000000) (ha : a ≤ S.length) (hs : s ≤ 4) :
    Calls Tryz.prog 187 #[.pointer (some ⟨b, 0, none⟩), .int .i64 (s : Int)] w fun e w' => ∃ v, e = .returned (.tuple #[.int .i64 ((lenQ (S.drop a) m s).n : Int), v]) ∧ ErrV w.heap.size (lenQ (S.drop a) m s).c a v w' ∧ RQ b S (a + (lenQ (S.drop a) m s).m) m w' ∧ Only b w w' := by
  have hmf : ∀ (fn : Fn) (first cap : Array Value) (w : World), (Instr.makeFunc fn first cap).run Tryz.prog w = .ok (.func fn first cap) w := fun _ _ _ _ => rfl
  have hbl := lit_lt hR.r
  have hgs := hG.r.size
  obtain ⟨Y, hY⟩ : ∃ Y, Y = w.heap.size := ⟨_, rfl⟩
  obtain ⟨X, hX⟩ : ∃ X, X = w.heap.size + 1 := ⟨_, rfl⟩
  obtain ⟨wA, hwA⟩ : ∃ wA, (w.alloc (.cells #[.int .i64 (s : Int)] 3)).alloc (.cells #[.int .i64 0] 3) = wA := ⟨_, rfl⟩
  have hb0 : Below w.heap.size w wA := hwA ▸ (by0 w _).alloc (by simp) _
  have hsz : wA.heap.size = w.heap.size + 1 + 1 := by rw [← hwA]; simp
  have hx0 : wA.heap[X]? = some (.cells #[.int .i64 0] 3 (0, 0)) := by
    rw [← hwA, hX, show w.heap.size + 1 = (w.alloc (.cells #[.int .i64 (s : Int)] 3)).heap.size by simp]; exact heap_alloc_new _ _
  have hy0 : wA.heap[Y]? = some (.cells #[.int .i64 (s : Int)] 3 (0, 0)) := by rw [← hwA, hY]; exact lit_old _ (heap_alloc_new w _)
  have hR1 : RAt b S a m wA := hwA ▸ lit_old _ (lit_old _ hR.r)
  by_cases hc : (lenQ (S.drop a) m s).c = 0
  · have HC := Lib.hid (attempt_ok b X S a (a + (lenQ (S.drop a) m s).m) m (.cells #[.int .i64 ((lenQ (S.drop a) m s).n : Int)] 3 (0, 0)) 209 #[.pointer (some ⟨Y, 0, none⟩), .pointer (some ⟨X, 0, none⟩)] wA ent_begun hR1 (by omega) (by omega)
      (fun w4 A h4 hA hRA => begun1_ok A X Y S a m s w4 hRA ((hG.next hb0).r.next h4) (by omega) hS ha hs hR.m ((h4.block _ (by omega)).trans hy0) ((h4.block _ (by omega)).trans hx0) (by omega) hc))
    have HB0 := Lib.hid hb0
    have HXE := Lib.hid hX
    have HYE := Lib.hid hY
    have HWA := Lib.hid hwA
    have HSZ := Lib.hid hsz
    have HM := Lib.hid hR.m
    have HCC := Lib.hid hc
    clear hR hG hS ha hR1 hb0 hx0 hc hgs hX hwA hsz hs hY hy0
    generalize lenQ (S.drop a) m s = P at *
    go_enter Tryz.func187, Tryz.ntmps187
    go_upto_region 1 with fail
    rw [HWA.out, ← HXE.out, ← HYE.out]
    go_wp2_with (go_at_call 154; refine HC.out.mono ?_; rintro e w2 ⟨rfl, hr, hx, ht⟩; have x0 := (lit_cell hx 0).trans rfl; have x1 := lit_free hx 0)
    have hX := HXE.out
    have hsz := HSZ.out
    have hx2 : (w2.setCell ⟨X, 0, none⟩ (.int .i64 (P.n : Int))).heap[X]? = some (.cells #[.int .i64 (P.n : Int)] 3 (0, 0)) := (lit_set (.int .i64 (P.n : Int)) hx).trans rfl
    have z0 := (lit_cell hx2 0).trans rfl
    have hr2 : RAt b S (a + P.m) m (w2.setCell ⟨X, 0, none⟩ (.int .i64 (P.n : Int))) := (lit_far _ (by omega)).trans hr
    have ht2 := ht.set (.int .i64 (P.n : Int))
    generalize w2.setCell ⟨X, 0, none⟩ (.int .i64 (P.n : Int)) = w3 at *
    refine bodyPost_ret (v := .tuple #[.int .i64 (P.n : Int), .nilIface]) (by simp [results, Tryz.results187, go_sem, z0]) rfl ⟨_, rfl, ?_, ⟨hr2, HM.out⟩, duo_only ht2 (by omega) HB0.out⟩
    rw [ErrV, if_pos (by rw [HCC.out]; rfl)]
  · have HC := Lib.hid (attempt_bad b S a m (lenQ (S.drop a) m s).c 209 #[.pointer (some ⟨Y, 0, none⟩), .pointer (some ⟨X, 0, none⟩)] wA ent_begun hR1 (hG.e.next hb0)
      (fun w4 A h4 hA hRA => begun1_bad A X Y S a m s w4 hRA ((hG.next hb0).r.next h4) (by omega) hS ha hs hR.m ((h4.block _ (by omega)).trans hy0) hc))
    have HB0 := Lib.hid hb0
    have HXE := Lib.hid hX
    have HYE := Lib.hid hY
    have HWA := Lib.hid hwA
    have HSZ := Lib.hid hsz
    have HM := Lib.hid hR.m
    have HR1 := Lib.hid hR1
    have HX0 := Lib.hid hx0
    have hP : (lenQ (S.drop a) m s).n = 0 ∧ (lenQ (S.drop a) m s).m = 0 := lenQ_bad (S.drop a) m s hc
    have HCC := Lib.hid hc
    clear hR hG hS ha hR1 hb0 hx0 hc hgs hX hwA hsz hs hY hy0
    generalize lenQ (S.drop a) m s = P at *
    obtain ⟨Pn, Pt, Pc, Pm⟩ := P
    simp only at hP HC HCC ⊢
    obtain ⟨rfl, rfl⟩ := hP
    go_enter Tryz.func187, Tryz.ntmps187
    go_upto_region 1 with fail
    rw [HWA.out, ← HXE.out, ← HYE.out]
    go_wp2_with (go_at_call 154; refine HC.out.mono ?_; rintro e w2 ⟨g, rfl, hm⟩; have hx := (hm.b.block X (lit_lt HX0.out)).trans HX0.out; have x0 := (lit_cell hx 0).trans rfl; have x1 := lit_free hx 0)
    have hX := HXE.out
    have hsz := HSZ.out
    have hx2 : (w2.setCell ⟨X, 0, none⟩ (.int .i64 0)).heap[X]? = some (.cells #[.int .i64 0] 3 (0, 0)) := (lit_set (.int .i64 0) hx).trans rfl
    have z0 := (lit_cell hx2 0).trans rfl
    have hr2 : RAt b S a m (w2.setCell ⟨X, 0, none⟩ (.int .i64 0)) := (lit_far _ (by omega)).trans ((hm.b.block b (by omega)).trans HR1.out)
    have hl := hm.l
    have hm2 : (w2.setCell ⟨X, 0, none⟩ (.int .i64 0)).heap[g]? = w2.heap[g]? := lit_far _ (by omega)
    have ho2 : Below w.heap.size w (w2.setCell ⟨X, 0, none⟩ (.int .i64 0)) := HB0.out.trans ((hm.b.mono (by omega)).setCell (show w.heap.size ≤ (⟨X, 0, none⟩ : Addr).block by show _ ≤ X; omega) _)
    generalize w2.setCell ⟨X, 0, none⟩ (.int .i64 0) = w3 at *
    refine bodyPost_ret (v := .tuple #[.int .i64 0, .iface 106 (.pointer (some ⟨g, 0, none⟩))]) (by simp [results, Tryz.results187, go_sem, z0]) rfl ⟨_, rfl, errV_made hm (by omega) HCC.out hm2, ⟨hr2, HM.out⟩, Only.of_below ho2⟩


set_option maxRecDepth 100000 in
theorem qcounted_any (b : Nat) (S : List UInt8) (a m s : Nat) (w : World) (hR : RQ b S a m w) (hG : GlobU w) (hS : S.length ≤ 1000000) (ha : a ≤ S.length) (hs : s = 1 ∨ s = 2) :
    Calls Tryz.prog 188 #[.pointer (some ⟨b, 0, none⟩), .int .i64 (s : Int)] w fun e w' => ∃ v, e = .returned (.tuple #[.string ⟨(takeP (S.drop a) m s).t.toArray⟩, v]) ∧ ErrV w.heap.size (takeP (S.drop a) m s).c a v w' ∧ RQ b S (a + (takeP (S.drop a) m s).m) m w' ∧ Only b w w' := by
  have hmf : ∀ (fn : Fn) (first cap : Array Value) (w : World), (Instr.makeFunc fn first cap).run Tryz.prog w = .ok (.func fn first cap) w := fun _ _ _ _ => rfl
  have hbl := lit_lt hR.r
  have hgs := hG.r.size
  obtain ⟨Y, hY⟩ : ∃ Y, Y = w.heap.size := ⟨_, rfl⟩
  obtain ⟨X, hX⟩ : ∃ X, X = w.heap.size + 1 := ⟨_, rfl⟩
  obtain ⟨wA, hwA⟩ : ∃ wA, (w.alloc (.cells #[.int .i64 (s : Int)] 3)).alloc (.cells #[.string ⟨#[]⟩] 9) = wA := ⟨_, rfl⟩
  have hb0 : Below w.heap.size w wA := hwA ▸ (by0 w _).alloc (by simp) _
  have hsz : wA.heap.size = w.heap.size + 1 + 1 := by rw [← hwA]; simp
  have hx0 : wA.heap[X]? = some (.cells #[.string ⟨#[]⟩] 9 (0, 0)) := by
    rw [← hwA, hX, show w.heap.size + 1 = (w.alloc (.cells #[.int .i64 (s : Int)] 3)).heap.size by simp]; exact heap_alloc_new _ _
  have hy0 : wA.heap[Y]? = some (.cells #[.int .i64 (s : Int)] 3 (0, 0)) := by rw [← hwA, hY]; exact lit_old _ (heap_alloc_new w _)
  have hR1 : RAt b S a m wA := hwA ▸ lit_old _ (lit_old _ hR.r)
  by_cases hc : (takeP (S.drop a) m s).c = 0
  · have HC := Lib.hid (attempt_ok b X S a (a + (takeP (S.drop a) m s).m) m (.cells #[.string ⟨(takeP (S.drop a) m s).t.toArray⟩] 9 (0, 0)) 211 #[.pointer (some ⟨Y, 0, none⟩), .pointer (some ⟨X, 0, none⟩)] wA ent_counted hR1 (by omega) (by omega)
      (fun w4 A h4 hA hRA => (counted1_any A X Y S a m s w4 hRA ((hG.next hb0).r.next h4) (by omega) hS ha hs hR.m ((h4.block _ (by omega)).trans hy0) ((h4.block _ (by omega)).trans hx0) (by omega)).mono fun e w' h => h.1 hc))
    have HB0 := Lib.hid hb0
    have HXE := Lib.hid hX
    have HYE := Lib.hid hY
    have HWA := Lib.hid hwA
    have HSZ := Lib.hid hsz
    have HM := Lib.hid hR.m
    have HCC := Lib.hid hc
    clear hR hG hS ha hR1 hb0 hx0 hc hgs hX hwA hsz hs hY hy0
    generalize takeP (S.drop a) m s = P at *
    go_enter Tryz.func188, Tryz.ntmps188
    go_upto_region 1 with fail
    rw [HWA.out, ← HXE.out, ← HYE.out]
    go_wp2_with (go_at_call 154; refine HC.out.mono ?_; rintro e w2 ⟨rfl, hr, hx, ht⟩; have x0 := (lit_cell hx 0).trans rfl; have x1 := lit_free hx 0)
    have hX := HXE.out
    have hsz := HSZ.out
    have hx2 : (w2.setCell ⟨X, 0, none⟩ (.string ⟨P.t.toArray⟩)).heap[X]? = some (.cells #[.string ⟨P.t.toArray⟩] 9 (0, 0)) := (lit_set (.string ⟨P.t.toArray⟩) hx).trans rfl
    have z0 := (lit_cell hx2 0).trans rfl
    have hr2 : RAt b S (a + P.m) m (w2.setCell ⟨X, 0, none⟩ (.string ⟨P.t.toArray⟩)) := (lit_far _ (by omega)).trans hr
    have ht2 := ht.set (.string ⟨P.t.toArray⟩)
    generalize w2.setCell ⟨X, 0, none⟩ (.string ⟨P.t.toArray⟩) = w3 at *
    refine bodyPost_ret (v := .tuple #[.string ⟨P.t.toArray⟩, .nilIface]) (by simp [results, Tryz.results188, go_sem, z0]) rfl ⟨_, rfl, ?_, ⟨hr2, HM.out⟩, duo_only ht2 (by omega) HB0.out⟩
    rw [ErrV, if_pos (by rw [HCC.out]; rfl)]
  · have HC := Lib.hid (attempt_bad b S a m (takeP (S.drop a) m s).c 211 #[.pointer (some ⟨Y, 0, none⟩), .pointer (some ⟨X, 0, none⟩)] wA ent_counted hR1 (hG.e.next hb0)
      (fun w4 A h4 hA hRA => (counted1_any A X Y S a m s w4 hRA ((hG.next hb0).r.next h4) (by omega) hS ha hs hR.m ((h4.block _ (by omega)).trans hy0) ((h4.block _ (by omega)).trans hx0) (by omega)).mono fun e w' h => h.2 hc))
    have HB0 := Lib.hid hb0
    have HXE := Lib.hid hX
    have HYE := Lib.hid hY
    have HWA := Lib.hid hwA
    have HSZ := Lib.hid hsz
    have HM := Lib.hid hR.m
    have HR1 := Lib.hid hR1
    have HX0 := Lib.hid hx0
    have hP : (takeP (S.drop a) m s).n = 0 ∧ (takeP (S.drop a) m s).m = 0 ∧ (takeP (S.drop a) m s).t = [] := takeP_bad (S.drop a) m s hs hc
    have HCC := Lib.hid hc
    clear hR hG hS ha hR1 hb0 hx0 hc hgs hX hwA hsz hs hY hy0
    generalize takeP (S.drop a) m s = P at *
    obtain ⟨Pn, Pt, Pc, Pm⟩ := P
    simp only at hP HC HCC ⊢
    obtain ⟨rfl, rfl, rfl⟩ := hP
    go_enter Tryz.func188, Tryz.ntmps188
    go_upto_region 1 with fail
    rw [HWA.out, ← HXE.out, ← HYE.out]
    go_wp2_with (go_at_call 154; refine HC.out.mono ?_; rintro e w2 ⟨g, rfl, hm⟩; have hx := (hm.b.block X (lit_lt HX0.out)).trans HX0.out; have x0 := (lit_cell hx 0).trans rfl; have x1 := lit_free hx 0)
    have hX := HXE.out
    have hsz := HSZ.out
    have hx2 : (w2.setCell ⟨X, 0, none⟩ (.string ⟨#[]⟩)).heap[X]? = some (.cells #[.string ⟨#[]⟩] 9 (0, 0)) := (lit_set (.string ⟨#[]⟩) hx).trans rfl
    have z0 := (lit_cell hx2 0).trans rfl
    have hr2 : RAt b S a m (w2.setCell ⟨X, 0, none⟩ (.string ⟨#[]⟩)) := (lit_far _ (by omega)).trans ((hm.b.block b (by omega)).trans HR1.out)
    have hl := hm.l
    have hm2 : (w2.setCell ⟨X, 0, none⟩ (.string ⟨#[]⟩)).heap[g]? = w2.heap[g]? := lit_far _ (by omega)
    have ho2 : Below w.heap.size w (w2.setCell ⟨X, 0, none⟩ (.string ⟨#[]⟩)) := HB0.out.trans ((hm.b.mono (by omega)).setCell (show w.heap.size ≤ (⟨X, 0, none⟩ : Addr).block by show _ ≤ X; omega) _)
    generalize w2.setCell ⟨X, 0, none⟩ (.string ⟨#[]⟩) = w3 at *
    refine bodyPost_ret (v := .tuple #[.string ⟨#[]⟩, .iface 106 (.pointer (some ⟨g, 0, none⟩))]) (by simp [results, Tryz.results188, go_sem, z0]) rfl ⟨_, rfl, errV_made hm (by omega) HCC.out hm2, ⟨hr2, HM.out⟩, Only.of_below ho2⟩

end Go.Proofs.YtbkiijndhjmkdaaGreatDoor
/- What a reader is to do, as a hypothesis; what the law's take answers. -/
namespace Go.Proofs.YtbkiijndhjmkdaaGreatDoor
open Go.RowKit

/-- the reader's calls; G: what the program's own tables, and reflectlite, want of memory; R b S a m w: at block b lies a reader of the bytes S, at place a, whose bound is m; a call writes block b alone -/
structure ReaderC (G : World → Prop) (R : Nat → List UInt8 → Nat → Nat → World → Prop) : Prop where
  ge : ∀ {w : World}, G w → GlobE w
  gb : ∀ {w w' : World}, G w → Below w.heap.size w w' → G w'
  lt : ∀ {b : Nat} {S : List UInt8} {a m : Nat} {w : World}, R b S a m w → b < w.heap.size
  keep : ∀ {b c : Nat} {S : List UInt8} {a m : Nat} {w w' : World}, R b S a m w → Only c w w' → c ≠ b → R b S a m w'
  new : ∀ (S : List UInt8) (i : Int) w, G w → S.length ≤ 1000000 → -9223372036854775808 ≤ i → i ≤ 9223372036854775807 →
    Calls Tryz.prog 86 #[.string ⟨S.toArray⟩, .int .i64 i] w fun e w' => ∃ b, w.heap.size ≤ b ∧ e = .returned (.pointer (some ⟨b, 0, none⟩)) ∧ R b S 0 (max i 0).toNat w' ∧ Below w.heap.size w w'
  num : ∀ b S a m w, R b S a m w → G w → S.length ≤ 1000000 → a ≤ S.length → Calls Tryz.prog 184 #[.pointer (some ⟨b, 0, none⟩)] w fun e w' => ∃ v, e = .returned (.tuple #[.int .u64 ((takeP (S.drop a) m 0).n : Int), v]) ∧ ErrV w.heap.size (takeP (S.drop a) m 0).c a v w' ∧ R b S (a + (takeP (S.drop a) m 0).m) m w' ∧ Only b w w'
  bin : ∀ b S a m w, R b S a m w → G w → S.length ≤ 1000000 → a ≤ S.length → Calls Tryz.prog 186 #[.pointer (some ⟨b, 0, none⟩)] w fun e w' => ∃ v, e = .returned (.tuple #[.string ⟨(takeP (S.drop a) m 1).t.toArray⟩, v]) ∧ ErrV w.heap.size (takeP (S.drop a) m 1).c a v w' ∧ R b S (a + (takeP (S.drop a) m 1).m) m w' ∧ Only b w w'
  str : ∀ b S a m w, R b S a m w → G w → S.length ≤ 1000000 → a ≤ S.length → Calls Tryz.prog 148 #[.pointer (some ⟨b, 0, none⟩)] w fun e w' => ∃ v, e = .returned (.tuple #[.string ⟨(takeP (S.drop a) m 2).t.toArray⟩, v]) ∧ ErrV w.heap.size (takeP (S.drop a) m 2).c a v w' ∧ R b S (a + (takeP (S.drop a) m 2).m) m w' ∧ Only b w w'
  list : ∀ b S a m w, R b S a m w → G w → S.length ≤ 1000000 → a ≤ S.length → Calls Tryz.prog 196 #[.pointer (some ⟨b, 0, none⟩)] w fun e w' => ∃ v, e = .returned (.tuple #[.int .i64 ((takeP (S.drop a) m 3).n : Int), v]) ∧ ErrV w.heap.size (takeP (S.drop a) m 3).c a v w' ∧ R b S (a + (takeP (S.drop a) m 3).m) m w' ∧ Only b w w'
  map : ∀ b S a m w, R b S a m w → G w → S.length ≤ 1000000 → a ≤ S.length → Calls Tryz.prog 146 #[.pointer (some ⟨b, 0, none⟩)] w fun e w' => ∃ v, e = .returned (.tuple #[.int .i64 ((takeP (S.drop a) m 4).n : Int), v]) ∧ ErrV w.heap.size (takeP (S.drop a) m 4).c a v w' ∧ R b S (a + (takeP (S.drop a) m 4).m) m w' ∧ Only b w w'
  fin : ∀ b S a m w, R b S a m w → G w → S.length ≤ 1000000 → a ≤ S.length → Calls Tryz.prog 88 #[.pointer (some ⟨b, 0, none⟩)] w fun e w' => ∃ v, e = .returned v ∧ ErrV w.heap.size (if a < S.length then 5 else 0) a v w' ∧ Below w.heap.size w w'

/-- what the law's take answers and leaves -/
structure LTook (R : Nat → List UInt8 → Nat → Nat → World → Prop) (b : Nat) (S : List UInt8) (a m : Nat) (P : TP) (w : World) (e : Ending) (w' : World) : Prop where
  e : ∃ v, e = .returned (.tuple #[.int .u64 (P.n : Int), .string ⟨P.t.toArray⟩, v]) ∧ ErrV w.heap.size P.c a v w'
  r : R b S (a + P.m) m w'
  o : Only b w w'
end Go.Proofs.YtbkiijndhjmkdaaGreatDoor
