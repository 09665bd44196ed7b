/- The program's ladder: Verify; all of what is asked of ladders. -/
import Derived.Test.YtmnklonoelpidaaGreatDoorJ40
import Derived.Test.YtmnklonoelpidaaGreatDoorJ41
import Derived.Test.YtmnklonoelpidaaGreatDoorJLady
namespace Go.Proofs.YtmnklonoelpidaaGreatDoor
open Go.RowKit

/-- what came in, the rounds and the key in their boxes, and what is asked of them -/
structure Vw (w0 : World) (A : Nat) (root : (List UInt8)) (wt f l n r : Nat) (d : (List UInt8)) (i : Nat) (W P : List (List UInt8)) (wo po : Option Addr) (wc pc : Nat) (k : Nat) (wz : World) : Prop where
  sz : w0.heap.size = A
  o : Below A w0 wz
  a : wz.heap[A]? = some (.cells #[.string ⟨root.toArray⟩, .int .u64 (wt : Int), .int .u64 (f : Int), .int .u64 (l : Int), .int .u64 (n : Int)] 39 (0, 0))
  b : wz.heap[A + 1]? = some (.cells #[.int .u64 (r : Int)] 22 (0, 0))
  d : wz.heap[A + 2]? = some (.cells #[.string ⟨d.toArray⟩] 9 (0, 0))
  s : wz.heap[A + 3]? = some (.cells #[.int .u64 (i : Int), .slice wo W.length wc, .slice po P.length pc] 48 (0, 0))
  r : wz.heap[A + 4]? = some (.cells #[.int .u64 (f : Int), .int .u64 (l : Int), .int .u64 (n : Int)] 66 (0, 0))
  k : wz.heap[A + 5]? = some (.cells #[.int .u64 (k : Int)] 22 (0, 0))
  x : wz.heap[A + 6]? = some (.cells #[.func (.func 58) #[] #[.pointer (some ⟨A + 2, 0, none⟩), .pointer (some ⟨A, 0, none⟩), .pointer (some ⟨A + 4, 0, none⟩)], .func (.func 59) #[] #[.pointer (some ⟨A + 4, 0, none⟩), .pointer (some ⟨A + 1, 0, none⟩), .pointer (some ⟨A + 5, 0, none⟩)], .func (.func 60) #[] #[.pointer (some ⟨A + 3, 0, none⟩), .pointer (some ⟨A + 5, 0, none⟩)], .func (.func 61) #[] #[.pointer (some ⟨A, 0, none⟩), .pointer (some ⟨A + 2, 0, none⟩), .pointer (some ⟨A + 3, 0, none⟩)]] 74 (0, 0))
theorem Vw.next {w0 : World} {A : Nat} {root : (List UInt8)} {wt f l n r : Nat} {d : (List UInt8)} {i : Nat} {W P : List (List UInt8)} {wo po : Option Addr} {wc pc : Nat} {k : Nat} {wz wa : World} (h : Vw w0 A root wt f l n r d i W P wo po wc pc k wz) (hb : Below wz.heap.size wz wa) : Vw w0 A root wt f l n r d i W P wo po wc pc k wa :=
  ⟨h.sz, h.o.trans (hb.mono (by have := h.o.size; have := h.sz; omega)), (hb.block _ (lit_lt h.a)).trans h.a, (hb.block _ (lit_lt h.b)).trans h.b, (hb.block _ (lit_lt h.d)).trans h.d, (hb.block _ (lit_lt h.s)).trans h.s, (hb.block _ (lit_lt h.r)).trans h.r, (hb.block _ (lit_lt h.k)).trans h.k, (hb.block _ (lit_lt h.x)).trans h.x⟩
theorem Vw.put {w0 : World} {A : Nat} {root : (List UInt8)} {wt f l n r : Nat} {d : (List UInt8)} {i : Nat} {W P : List (List UInt8)} {wo po : Option Addr} {wc pc : Nat} {k k2 : Nat} {wz : World} (h : Vw w0 A root wt f l n r d i W P wo po wc pc k wz) : Vw w0 A root wt f l n r d i W P wo po wc pc k2 ((wz.setCell ⟨A + 5, 0, none⟩ (.int .u64 (k2 : Int)))) := by
  have hk : Kept (fun j => j ≠ A + 5) wz (wz.setCell ⟨A + 5, 0, none⟩ (.int .u64 (k2 : Int))) := (Kept.refl _ wz).setCell (A + 5) 0 _ (fun _ h => h rfl)
  exact ⟨h.sz, h.o.setCell (p := ⟨A + 5, 0, none⟩) (show A ≤ A + 5 by omega) _, (hk.block _ (lit_lt h.a) (by omega)).trans h.a, (hk.block _ (lit_lt h.b) (by omega)).trans h.b, (hk.block _ (lit_lt h.d) (by omega)).trans h.d, (hk.block _ (lit_lt h.s) (by omega)).trans h.s, (hk.block _ (lit_lt h.r) (by omega)).trans h.r, lit_set (k := 0) (.int .u64 (k2 : Int)) h.k, (hk.block _ (lit_lt h.x) (by omega)).trans h.x⟩
set_option maxRecDepth 100000 in
set_option maxHeartbeats 2000000 in
theorem verify1_any {w0 : World} {A : Nat} {root : (List UInt8)} {wt f l n r : Nat} {d : (List UInt8)} {i : Nat} {W P : List (List UInt8)} {wo po : Option Addr} {wc pc : Nat} {k : Nat} {wz : World} (h : Vw w0 A root wt f l n r d i W P wo po wc pc k wz) : Calls Tryz.prog 58 #[.pointer (some ⟨A + 2, 0, none⟩), .pointer (some ⟨A, 0, none⟩), .pointer (some ⟨A + 4, 0, none⟩)] wz fun e w' => e = .returned (.int .i64 (unlE (digB d && digB root && mayB l n) 2 : Nat)) ∧ Below wz.heap.size wz w' := by
  have cd := (lit_cell h.d 0).trans rfl
  have ca := (lit_cell h.a 0).trans rfl
  have c0 := (lit_cell h.r 0).trans rfl
  have c1 := (lit_cell h.r 1).trans rfl
  have c2 := (lit_cell h.r 2).trans rfl
  have HD := Lib.hid (fun wy => isdig_any d wy)
  have HE := Lib.hid (fun wy => isdig_any root wy)
  have HM := Lib.hid (may14_any f l n wz)
  have HU := Lib.hid (fun t wy => show Calls Tryz.prog 32 #[.bool t, .int .i64 2] wy fun x w' => x = .returned (.int .i64 (unlE t 2 : Nat)) ∧ wy = w' from unless_any t 2 wy)
  generalize mayB l n = mb at *
  generalize digB d = db at *
  generalize digB root = rb at *
  clear h
  cases db
  · go_enter Tryz.func58, Tryz.ntmps58
    go_wp2_with (first
      | (go_at_call 33; with_reducible refine (HD.out _).mono ?_; rintro e w1 ⟨rfl, rfl⟩)
      | (go_at_call 32; with_reducible refine (HU.out _ _).mono ?_; rintro e w3 ⟨rfl, rfl⟩))
    go_ret
    exact ⟨rfl, Below.refl _ _⟩
  · cases rb
    · go_enter Tryz.func58, Tryz.ntmps58
      go_wp2_with (first
        | (go_at_call 33; with_reducible refine (HD.out _).mono ?_; rintro e w1 ⟨rfl, rfl⟩)
        | (go_at_call 33; with_reducible refine (HE.out _).mono ?_; rintro e w1 ⟨rfl, rfl⟩)
        | (go_at_call 32; with_reducible refine (HU.out _ _).mono ?_; rintro e w3 ⟨rfl, rfl⟩))
      go_ret
      exact ⟨rfl, Below.refl _ _⟩
    · go_enter Tryz.func58, Tryz.ntmps58
      go_wp2_with (first
        | (go_at_call 33; with_reducible refine (HD.out _).mono ?_; rintro e w1 ⟨rfl, rfl⟩)
        | (go_at_call 33; with_reducible refine (HE.out _).mono ?_; rintro e w1 ⟨rfl, rfl⟩)
        | (go_at_call 34; with_reducible refine HM.out.mono ?_; rintro e w2 ⟨rfl, hb2⟩; have HB2 := Lib.hid hb2; clear hb2)
        | (go_at_call 32; with_reducible refine (HU.out _ _).mono ?_; rintro e w3 ⟨rfl, rfl⟩))
      go_ret
      exact ⟨rfl, HB2.out⟩
set_option maxRecDepth 100000 in
set_option maxHeartbeats 2000000 in
theorem verify2_any {w0 : World} {A : Nat} {root : (List UInt8)} {wt f l n r : Nat} {d : (List UInt8)} {i : Nat} {W P : List (List UInt8)} {wo po : Option Addr} {wc pc : Nat} {wz : World} (h : Vw w0 A root wt f l n r d i W P wo po wc pc 0 wz) (hl : 0 < l) (hr : r < 18446744073709551616) : Calls Tryz.prog 59 #[.pointer (some ⟨A + 4, 0, none⟩), .pointer (some ⟨A + 1, 0, none⟩), .pointer (some ⟨A + 5, 0, none⟩)] wz fun e w' => e = .returned (.int .i64 (unlE (keyF f l n r).2 16 : Nat)) ∧ Vw w0 A root wt f l n r d i W P wo po wc pc (keyF f l n r).1 w' := by
  have c0 := (lit_cell h.r 0).trans rfl
  have c1 := (lit_cell h.r 1).trans rfl
  have c2 := (lit_cell h.r 2).trans rfl
  have cb := (lit_cell h.b 0).trans rfl
  have HKE := Lib.hid (pkeyErr_any f l n r wz hl hr)
  generalize (keyF f l n r).1 = k at *
  generalize (keyF f l n r).2 = t at *
  have HN := Lib.hid (fun wa hb => h.next (wa := wa) hb)
  clear h hl hr
  go_enter Tryz.func59, Tryz.ntmps59
  go_upto_region 2 with (go_at_call 50; with_reducible refine HKE.out.mono ?_; rintro e w2 ⟨rfl, hb2⟩; have HW := Lib.hid (HN.out w2 hb2); have k0 := (lit_cell HW.out.k 0).trans rfl; have f0 := lit_free HW.out.k 0; clear hb2)
  have HW2 := Lib.hid (HW.out.put (k2 := k))
  clear k0 f0 c0 c1 c2 cb
  go_wp2
  go_ret
  exact ⟨rfl, HW2.out⟩
theorem verify3_any {w0 : World} {A : Nat} {root : (List UInt8)} {wt f l n r : Nat} {d : (List UInt8)} {i : Nat} {W P : List (List UInt8)} {wo po : Option Addr} {wc pc : Nat} {k : Nat} {wz : World} (h : Vw w0 A root wt f l n r d i W P wo po wc pc k wz) : Calls Tryz.prog 60 #[.pointer (some ⟨A + 3, 0, none⟩), .pointer (some ⟨A + 5, 0, none⟩)] wz fun e w' => e = .returned (.int .i64 (unlE (decide (i = k)) 10 : Nat)) ∧ wz = w' := by
  have cs := (lit_cell h.s 0).trans rfl
  have ck := (lit_cell h.k 0).trans rfl
  have HU := Lib.hid (fun t wy => show Calls Tryz.prog 32 #[.bool t, .int .i64 10] wy fun x w' => x = .returned (.int .i64 (unlE t 10 : Nat)) ∧ wy = w' from unless_any t 10 wy)
  clear h
  by_cases hi : i = k
  · subst hi
    rw [decide_eq_true rfl]
    go_enter Tryz.func60, Tryz.ntmps60
    go_wp2_with (go_at_call 32; with_reducible refine (HU.out _ _).mono ?_; rintro e w3 ⟨rfl, rfl⟩)
    go_ret
    exact ⟨rfl, rfl⟩
  · rw [decide_eq_false hi]
    have h1 : ((i : Int) == (k : Int)) = false := by simp; omega
    have h2 : ¬ (i : Int) = (k : Int) := by omega
    have h3 : decide (i = k) = false := decide_eq_false hi
    clear hi
    go_enter Tryz.func60, Tryz.ntmps60
    go_wp2_with (go_at_call 32; with_reducible refine (HU.out _ _).mono ?_; rintro e w3 ⟨rfl, rfl⟩)
    go_ret
    exact ⟨rfl, rfl⟩
set_option maxRecDepth 100000 in
set_option maxHeartbeats 2000000 in
theorem verify4_any {w0 : World} {A : Nat} {root : (List UInt8)} {wt f l n r : Nat} {d : (List UInt8)} {i : Nat} {W P : List (List UInt8)} {wo po : Option Addr} {wc pc : Nat} {k : Nat} {wz : World} (h : Vw w0 A root wt f l n r d i W P wo po wc pc k wz) (hg : Glob wz) (hn : n ≤ 64) (hW : Strs wo W wz) (hP : Strs po P wz) (hd : d.length ≤ 1000) (hwl : W.length ≤ 1000) (hwb : W.length = 67 → ∀ x ∈ W, x.length ≤ 1000) (hpc : P.length ≤ pc) (hpl : P.length ≤ 100000) (hpb : (recC W d).2 = 0 → ∀ x ∈ P, x.length ≤ 1000) : Calls Tryz.prog 61 #[.pointer (some ⟨A, 0, none⟩), .pointer (some ⟨A + 2, 0, none⟩), .pointer (some ⟨A + 3, 0, none⟩)] wz fun e w' => e = .returned (.int .i64 (unlE (leadB root n i d W P) 10 : Nat)) ∧ Below wz.heap.size wz w' := by
  have c0 := (lit_cell h.a 0).trans rfl
  have c1 := (lit_cell h.a 1).trans rfl
  have c2 := (lit_cell h.a 2).trans rfl
  have c3 := (lit_cell h.a 3).trans rfl
  have c4 := (lit_cell h.a 4).trans rfl
  have cd := (lit_cell h.d 0).trans rfl
  have s0 := (lit_cell h.s 0).trans rfl
  have s1 := (lit_cell h.s 1).trans rfl
  have s2 := (lit_cell h.s 2).trans rfl
  have HLD := Lib.hid (leads_any root wt f l n d i W P wo po wc pc wz hg hn hW hP hd hwl hwb hpc hpl hpb)
  generalize leadB root n i d W P = t at *
  have HU := Lib.hid (fun wy => show Calls Tryz.prog 32 #[.bool t, .int .i64 10] wy fun x w' => x = .returned (.int .i64 (unlE t 10 : Nat)) ∧ wy = w' from unless_any t 10 wy)
  clear h hg hn hW hP hd hwl hwb hpc hpl hpb
  go_enter Tryz.func61, Tryz.ntmps61
  go_wp2_with (first
    | (go_at_call 62; with_reducible refine HLD.out.mono ?_; rintro e w2 ⟨rfl, hb2⟩; have HB2 := Lib.hid hb2; clear hb2)
    | (go_at_call 32; with_reducible refine (HU.out _).mono ?_; rintro e w3 ⟨rfl, rfl⟩))
  go_ret
  exact ⟨rfl, HB2.out⟩
/-- what Verify answers, by what it asks -/
theorem ver_parts (root : (List UInt8)) (f l n r : Nat) (d : (List UInt8)) (i : Nat) (W P : List (List UInt8)) : verV root f l n r d i W P = if (digB d && digB root && mayB l n) = false then 2 else if (keyF f l n r).2 = false then 16 else if ¬ i = (keyF f l n r).1 then 10 else if leadB root n i d W P = false then 10 else 0 := by
  by_cases h1 : d.length ≠ 32 ∨ root.length ≠ 32 ∨ l = 0 ∨ n < 1 ∨ 64 < n
  · rw [ver_arg h1, if_pos]
    cases hb : (digB d && digB root && mayB l n)
    · rfl
    · exfalso
      simp only [digB, mayB, Bool.and_eq_true, decide_eq_true_eq] at hb
      omega
  · have hb : (digB d && digB root && mayB l n) = true := by
      simp only [digB, mayB, Bool.and_eq_true, decide_eq_true_eq]
      omega
    rw [hb, verV, if_neg h1, if_neg (show ¬ (true = false) by decide)]
    by_cases h2 : (keyF f l n r).2 = false
    · rw [if_pos h2, if_pos h2]
    · rw [if_neg h2, if_neg h2]
      generalize (keyF f l n r).1 = k
      by_cases h3 : i = k
      · subst h3
        rw [if_neg (by simp : ¬ ¬ i = i)]
        by_cases h4 : (recC W d).2 = 0
        · rw [if_neg (by simp [h4])]
          have hl : leadB root n i d W P = decide (checkV root n [i] [numL i ++ (recC W d).1] P = 0) := by simp [leadB, h4]
          rw [hl, checkV]
          generalize rootV n [i] [numL i ++ (recC W d).1] P = z
          by_cases h5 : z.2 = 0
          · by_cases h6 : z.1 = root
            · simp [h5, h6]
            · simp [h5, h6]
          · simp [h5]
        · have hl : leadB root n i d W P = false := by simp [leadB, h4]
          rw [if_pos (.inr h4), hl, if_pos rfl]
      · rw [if_pos (.inl h3), if_pos h3]
abbrev vFs (A : Nat) : List (FuncId × Array Value) := [(58, #[.pointer (some ⟨A + 2, 0, none⟩), .pointer (some ⟨A, 0, none⟩), .pointer (some ⟨A + 4, 0, none⟩)]), (59, #[.pointer (some ⟨A + 4, 0, none⟩), .pointer (some ⟨A + 1, 0, none⟩), .pointer (some ⟨A + 5, 0, none⟩)]), (60, #[.pointer (some ⟨A + 3, 0, none⟩), .pointer (some ⟨A + 5, 0, none⟩)]), (61, #[.pointer (some ⟨A, 0, none⟩), .pointer (some ⟨A + 2, 0, none⟩), .pointer (some ⟨A + 3, 0, none⟩)])]
/-- what is so behind each question of Verify -/
def vK (w0 : World) (A : Nat) (root : (List UInt8)) (wt f l n r : Nat) (d : (List UInt8)) (i : Nat) (W P : List (List UInt8)) (wo po : Option Addr) (wc pc : Nat) : Nat → World → Prop
  | 0, w => Vw w0 A root wt f l n r d i W P wo po wc pc 0 w
  | 1, w => Vw w0 A root wt f l n r d i W P wo po wc pc 0 w ∧ (digB d && digB root && mayB l n) = true
  | 2, w => Vw w0 A root wt f l n r d i W P wo po wc pc (keyF f l n r).1 w ∧ (digB d && digB root && mayB l n) = true ∧ (keyF f l n r).2 = true
  | 3, w => Vw w0 A root wt f l n r d i W P wo po wc pc (keyF f l n r).1 w ∧ (digB d && digB root && mayB l n) = true ∧ (keyF f l n r).2 = true ∧ i = (keyF f l n r).1
  | _ + 4, w => Vw w0 A root wt f l n r d i W P wo po wc pc (keyF f l n r).1 w ∧ verV root f l n r d i W P = 0
theorem vK_vw {w0 : World} {A : Nat} {root : (List UInt8)} {wt f l n r : Nat} {d : (List UInt8)} {i : Nat} {W P : List (List UInt8)} {wo po : Option Addr} {wc pc : Nat} : ∀ (j : Nat) (w : World), vK w0 A root wt f l n r d i W P wo po wc pc j w → ∃ k, Vw w0 A root wt f l n r d i W P wo po wc pc k w
  | 0, _, h => ⟨_, h⟩
  | 1, _, h => ⟨_, h.1⟩
  | 2, _, h => ⟨_, h.1⟩
  | 3, _, h => ⟨_, h.1⟩
  | _ + 4, _, h => ⟨_, h.1⟩
theorem verify_asks {w0 : World} {A : Nat} {root : (List UInt8)} {wt f l n r : Nat} {d : (List UInt8)} {i : Nat} {W P : List (List UInt8)} {wo po : Option Addr} {wc pc : Nat} (hg : Glob w0) (hr : r < 18446744073709551616) (hd : d.length ≤ 1000) (hW : Strs wo W w0) (hP : Strs po P w0) (hwl : W.length ≤ 1000) (hwb : W.length = 67 → ∀ x ∈ W, x.length ≤ 1000) (hpc : P.length ≤ pc) (hpl : P.length ≤ 100000) (hpb : (recC W d).2 = 0 → ∀ x ∈ P, x.length ≤ 1000) :
    Asks (vFs A) (A + 6) (vK w0 A root wt f l n r d i W P wo po wc pc) (fun x w => x = verV root f l n r d i W P ∧ ∃ k, Vw w0 A root wt f l n r d i W P wo po wc pc k w) := by
  have hV := ver_parts root f l n r d i W P
  refine ⟨?_, ?_, ?_⟩
  · intro f hf
    simp at hf
    rcases hf with rfl | rfl | rfl | rfl
    · exact enters_of Tryz.func58 (by kernel_rfl) rfl
    · exact enters_of Tryz.func59 (by kernel_rfl) rfl
    · exact enters_of Tryz.func60 (by kernel_rfl) rfl
    · exact enters_of Tryz.func61 (by kernel_rfl) rfl
  · intro j w hK k f hf
    obtain ⟨p, hN⟩ := vK_vw j w hK
    exact ask_cells (fs := vFs A) hN.x k f hf
  · intro j F w hF hK
    match j with
    | 0 =>
      cases hF
      refine (verify1_any hK).mono ?_
      rintro e w' ⟨rfl, hb⟩
      have h2 := Vw.next hK hb
      cases hd : (digB d && digB root && mayB l n)
      · rw [hd] at hV
        exact Or.inr ⟨2, by decide, rfl, by rw [hV]; rfl, _, h2⟩
      · exact Or.inl ⟨rfl, h2, hd⟩
    | 1 =>
      cases hF
      obtain ⟨h1, hb⟩ := hK
      have hl0 : 0 < l := by
        simp only [mayB, Bool.and_eq_true, decide_eq_true_eq] at hb
        omega
      refine (verify2_any h1 hl0 hr).mono ?_
      rintro e w' ⟨rfl, h2⟩
      rw [hb] at hV
      cases hk : (keyF f l n r).2
      · rw [hk] at hV
        exact Or.inr ⟨16, by decide, rfl, by rw [hV]; rfl, _, h2⟩
      · exact Or.inl ⟨rfl, h2, hb, hk⟩
    | 2 =>
      cases hF
      obtain ⟨h1, hb, hk⟩ := hK
      refine (verify3_any h1).mono ?_
      rintro e w' ⟨rfl, rfl⟩
      by_cases hi : i = (keyF f l n r).1
      · exact Or.inl ⟨by rw [decide_eq_true hi]; rfl, h1, hb, hk, hi⟩
      · refine Or.inr ⟨10, by decide, by rw [decide_eq_false hi]; rfl, ?_, _, h1⟩
        rw [hV, hb, hk, if_neg (by decide), if_neg (by decide), if_pos hi]
    | 3 =>
      cases hF
      obtain ⟨h1, hb, hk, hi⟩ := hK
      have hn : n ≤ 64 := by
        simp only [mayB, Bool.and_eq_true, decide_eq_true_eq] at hb
        omega
      have ho : Below w0.heap.size w0 w := by have := h1.o; rwa [← h1.sz] at this
      refine (verify4_any h1 (hg.below hg.size ho) hn (hW.below (Nat.le_refl _) ho) (hP.below (Nat.le_refl _) ho) hd hwl hwb hpc hpl hpb).mono ?_
      rintro e w' ⟨rfl, hb2⟩
      have h2 := h1.next hb2
      rw [hb, hk, if_neg (by decide), if_neg (by decide), if_neg (fun h => h hi)] at hV
      cases ht : leadB root n i d W P
      · rw [ht] at hV
        exact Or.inr ⟨10, by decide, rfl, by rw [hV]; rfl, _, h2⟩
      · rw [ht] at hV
        exact Or.inl ⟨rfl, h2, by rw [hV]; rfl⟩
    | j + 4 => simp at hF
set_option maxRecDepth 100000 in
set_option maxHeartbeats 4000000 in
theorem pVerify_any (root : (List UInt8)) (wt f l n r : Nat) (d : (List UInt8)) (i : Nat) (W P : List (List UInt8)) (wo po : Option Addr) (wc pc : Nat) (w : World) (hg : Glob w) (hr : r < 18446744073709551616) (hd : d.length ≤ 1000) (hW : Strs wo W w) (hP : Strs po P w) (hwl : W.length ≤ 1000) (hwb : W.length = 67 → ∀ x ∈ W, x.length ≤ 1000) (hpc : P.length ≤ pc) (hpl : P.length ≤ 100000) (hpb : (recC W d).2 = 0 → ∀ x ∈ P, x.length ≤ 1000) :
    Calls Tryz.prog 24 #[.agg #[.string ⟨root.toArray⟩, .int .u64 (wt : Int), .int .u64 (f : Int), .int .u64 (l : Int), .int .u64 (n : Int)], .int .u64 (r : Int), .string ⟨d.toArray⟩, .agg #[.int .u64 (i : Int), .slice wo W.length wc, .slice po P.length pc]] w fun e w' => e = .returned (.int .i64 (verV root f l n r d i W P : Nat)) ∧ Below w.heap.size w w' := by
  obtain ⟨A, hA⟩ : ∃ A, A = w.heap.size := ⟨_, rfl⟩
  have HAS := verify_asks (A := A) (root := root) (wt := wt) (f := f) (l := l) (n := n) (i := i) (wc := wc) hg hr hd hW hP hwl hwb hpc hpl hpb
  obtain ⟨wa, hwa⟩ : ∃ wa, wa = w.alloc (.cells #[.string ⟨root.toArray⟩, .int .u64 (wt : Int), .int .u64 (f : Int), .int .u64 (l : Int), .int .u64 (n : Int)] 39) := ⟨_, rfl⟩
  have za : wa.heap.size = A + 1 := by rw [hwa, World.size_alloc, hA]
  have xa : wa.heap[A]? = some (.cells #[.string ⟨root.toArray⟩, .int .u64 (wt : Int), .int .u64 (f : Int), .int .u64 (l : Int), .int .u64 (n : Int)] 39 (0, 0)) := by rw [hwa, hA]; exact heap_alloc_new w _
  have ba : Below A w wa := by rw [hwa, hA]; exact by0 w _
  obtain ⟨wb, hwb'⟩ : ∃ wb, wb = wa.alloc (.cells #[.int .u64 (r : Int)] 22) := ⟨_, rfl⟩
  have zb : wb.heap.size = A + 2 := by rw [hwb', World.size_alloc, za]
  have xb : wb.heap[A + 1]? = some (.cells #[.int .u64 (r : Int)] 22 (0, 0)) := by rw [hwb', ← za]; exact heap_alloc_new wa _
  have bb : Below A w wb := by rw [hwb']; exact ba.alloc (by omega) _
  obtain ⟨wd, hwd⟩ : ∃ wd, wd = wb.alloc (.cells #[.string ⟨d.toArray⟩] 9) := ⟨_, rfl⟩
  have zd : wd.heap.size = A + 3 := by rw [hwd, World.size_alloc, zb]
  have xd : wd.heap[A + 2]? = some (.cells #[.string ⟨d.toArray⟩] 9 (0, 0)) := by rw [hwd, ← zb]; exact heap_alloc_new wb _
  have bd : Below A w wd := by rw [hwd]; exact bb.alloc (by omega) _
  obtain ⟨ws, hws⟩ : ∃ ws, ws = wd.alloc (.cells #[.int .u64 (i : Int), .slice wo W.length wc, .slice po P.length pc] 48) := ⟨_, rfl⟩
  have zs : ws.heap.size = A + 4 := by rw [hws, World.size_alloc, zd]
  have xs : ws.heap[A + 3]? = some (.cells #[.int .u64 (i : Int), .slice wo W.length wc, .slice po P.length pc] 48 (0, 0)) := by rw [hws, ← zd]; exact heap_alloc_new wd _
  have bs : Below A w ws := by rw [hws]; exact bd.alloc (by omega) _
  obtain ⟨wr, hwr⟩ : ∃ wr, wr = ws.alloc (.cells #[.int .u64 (f : Int), .int .u64 (l : Int), .int .u64 (n : Int)] 66) := ⟨_, rfl⟩
  have zr : wr.heap.size = A + 5 := by rw [hwr, World.size_alloc, zs]
  have xr : wr.heap[A + 4]? = some (.cells #[.int .u64 (f : Int), .int .u64 (l : Int), .int .u64 (n : Int)] 66 (0, 0)) := by rw [hwr, ← zs]; exact heap_alloc_new ws _
  have br : Below A w wr := by rw [hwr]; exact bs.alloc (by omega) _
  obtain ⟨wk, hwk⟩ : ∃ wk, wk = wr.alloc (.cells #[.int .u64 0] 22) := ⟨_, rfl⟩
  have zk : wk.heap.size = A + 6 := by rw [hwk, World.size_alloc, zr]
  have xk : wk.heap[A + 5]? = some (.cells #[.int .u64 0] 22 (0, 0)) := by rw [hwk, ← zr]; exact heap_alloc_new wr _
  have bk : Below A w wk := by rw [hwk]; exact br.alloc (by omega) _
  have HN := Lib.hid (show Vw w A root wt f l n r d i W P wo po wc pc 0 (wk.alloc (.cells #[.func (.func 58) #[] #[.pointer (some ⟨A + 2, 0, none⟩), .pointer (some ⟨A, 0, none⟩), .pointer (some ⟨A + 4, 0, none⟩)], .func (.func 59) #[] #[.pointer (some ⟨A + 4, 0, none⟩), .pointer (some ⟨A + 1, 0, none⟩), .pointer (some ⟨A + 5, 0, none⟩)], .func (.func 60) #[] #[.pointer (some ⟨A + 3, 0, none⟩), .pointer (some ⟨A + 5, 0, none⟩)], .func (.func 61) #[] #[.pointer (some ⟨A, 0, none⟩), .pointer (some ⟨A + 2, 0, none⟩), .pointer (some ⟨A + 3, 0, none⟩)]] 74)) from
    ⟨hA.symm, bk.alloc (by omega) _, lit_old _ (by rw [hwk]; refine lit_old _ ?_; rw [hwr]; refine lit_old _ ?_; rw [hws]; refine lit_old _ ?_; rw [hwd]; refine lit_old _ ?_; rw [hwb']; exact lit_old _ xa), lit_old _ (by rw [hwk]; refine lit_old _ ?_; rw [hwr]; refine lit_old _ ?_; rw [hws]; refine lit_old _ ?_; rw [hwd]; exact lit_old _ xb), lit_old _ (by rw [hwk]; refine lit_old _ ?_; rw [hwr]; refine lit_old _ ?_; rw [hws]; exact lit_old _ xd), lit_old _ (by rw [hwk]; refine lit_old _ ?_; rw [hwr]; exact lit_old _ xs), lit_old _ (by rw [hwk]; exact lit_old _ xr), lit_old _ xk, by rw [← zk]; exact heap_alloc_new wk _⟩)
  have HF := Lib.hid (show Calls Tryz.prog 30 #[.slice (some ⟨A + 6, 0, none⟩) 4 4] _ _ from first_any HAS 4 _ (by simp) HN.out)
  have c2 := (lit_cell (show ws.heap[A]? = some (.cells #[.string ⟨root.toArray⟩, .int .u64 (wt : Int), .int .u64 (f : Int), .int .u64 (l : Int), .int .u64 (n : Int)] 39 (0, 0)) by rw [hws]; refine lit_old _ ?_; rw [hwd]; refine lit_old _ ?_; rw [hwb']; exact lit_old _ xa) 2).trans rfl
  have c3 := (lit_cell (show ws.heap[A]? = some (.cells #[.string ⟨root.toArray⟩, .int .u64 (wt : Int), .int .u64 (f : Int), .int .u64 (l : Int), .int .u64 (n : Int)] 39 (0, 0)) by rw [hws]; refine lit_old _ ?_; rw [hwd]; refine lit_old _ ?_; rw [hwb']; exact lit_old _ xa) 3).trans rfl
  have c4 := (lit_cell (show ws.heap[A]? = some (.cells #[.string ⟨root.toArray⟩, .int .u64 (wt : Int), .int .u64 (f : Int), .int .u64 (l : Int), .int .u64 (n : Int)] 39 (0, 0)) by rw [hws]; refine lit_old _ ?_; rw [hwd]; refine lit_old _ ?_; rw [hwb']; exact lit_old _ xa) 4).trans rfl
  have HWS := Lib.hid (show ws = (((w.alloc (.cells #[.string ⟨root.toArray⟩, .int .u64 (wt : Int), .int .u64 (f : Int), .int .u64 (l : Int), .int .u64 (n : Int)] 39)).alloc (.cells #[.int .u64 (r : Int)] 22)).alloc (.cells #[.string ⟨d.toArray⟩] 9)).alloc (.cells #[.int .u64 (i : Int), .slice wo W.length wc, .slice po P.length pc] 48) by rw [hws, hwd, hwb', hwa])
  have HWR := Lib.hid hwr
  have HWK := Lib.hid hwk
  have HAA := Lib.hid hA
  have HZS := Lib.hid zs
  have HZR := Lib.hid zr
  clear HAS hwa za xa ba hwb' zb xb bb hwd zd xd bd hwr zr xr br hws zs xs bs hwk xk bk HN hA hg hr hd hW hP hwl hwb hpc hpl hpb
  go_enter Tryz.func24, Tryz.ntmps24
  go_upto_region 1 with fail
  rw [← HWS.out, ← HAA.out]
  go_upto_region 2 with fail
  rw [HZS.out, ← HWR.out]
  go_upto_region 3 with fail
  rw [HZR.out, ← HWK.out]
  clear c2 c3 c4
  go_wp2_with (fail)
  refine HF.out.mono ?_
  rintro e w5 (⟨rfl, hk⟩ | ⟨x, hx, rfl, hq⟩)
  · have HO := Lib.hid (And.intro hk.1.o hk.2)
    clear hk HF
    go_wp2
    go_ret
    exact ⟨by rw [HO.out.2]; rfl, by rw [← HAA.out]; exact HO.out.1⟩
  · obtain ⟨hxe, k, hN⟩ := hq
    have HO := Lib.hid (And.intro hN.o hxe)
    clear hN hxe hx HF
    go_wp2
    go_ret
    exact ⟨by rw [← HO.out.2]; rfl, by rw [← HAA.out]; exact HO.out.1⟩
theorem ladderC : LadderC PLad where
  ck := fun h hb => h.next hb
  ca := fun s f l n w hg hs hf hl hn he => (pNew_any wotsC s f l n w hg hs hl hn).mono fun e w' h => by
    rcases h with ⟨h0, _⟩ | ⟨_, h1, h2⟩
    · exact absurd h0 he
    · exact ⟨h1, h2⟩
  cn := fun s f l N w hg hF => (pNew_any wotsC s f l (N : Int) w hg (by have := hF.hs; omega) (by have := hF.ho; have := hF.hn; have := Nat.le_mul_of_pos_right l (show 0 < N by omega); omega) (by have := hF.hn2; omega)).mono fun e w' h => by
    rcases h with ⟨_, b, h1, h2, h3⟩ | ⟨h0, _⟩
    · exact ⟨b, h1, h2, h3⟩
    · exact absurd (newE_of hF) h0
  cr := fun b s f l n w hg hF h => pRoot_any b s f l n w h
  cq := fun b s f l n r w hg hF h hr => pKey_any b s f l n r w h hF.hl hr
  cp := fun b s f l n wt w hg hF h _ => pPart_any b s f l n wt w h
  cs := fun b s f l n r d w hg hF h hr hd => pSign_any wotsC b s f l n r d w hg h (by have := hF.hs; omega) hF.hl hr hF.hn2 hd
  cv := fun root wt f l n r d i W P wo po wc pc w hg _ hr _ _ _ _ _ hd hW hP hwl hwb hpc hpl hpb => pVerify_any root wt f l n r d i W P wo po wc pc w hg hr hd hW hP hwl hwb hpc hpl hpb
  cr0 := fun w _ => pRoot_nil w
  cq0 := fun r w _ => pKey_nil r w
  cp0 := fun wt w _ => pPart_nil wt w
  cs0 := fun r d w _ => pSign_nil r d w
end Go.Proofs.YtmnklonoelpidaaGreatDoor
