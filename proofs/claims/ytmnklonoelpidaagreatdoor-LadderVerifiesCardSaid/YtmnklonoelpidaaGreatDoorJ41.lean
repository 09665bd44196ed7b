/- The program's ladder: New. -/
import Derived.Test.YtmnklonoelpidaaGreatDoorJ40
import Derived.Laws.EntriesVeiled
namespace Go.Proofs.YtmnklonoelpidaaGreatDoor
open Go.RowKit

/-- the seed, the keys and the ladder in their boxes, and what is asked of them -/
structure Nw (w0 : World) (A : Nat) (s : (List UInt8)) (f l u : Nat) (n : Int) (p : Option Addr) (wz : World) : Prop where
  sz : w0.heap.size = A
  o : Below A w0 wz
  a : wz.heap[A]? = some (.cells #[.string ⟨s.toArray⟩] 9 (0, 0))
  b : wz.heap[A + 1]? = some (.cells #[.int .i64 n] 3 (0, 0))
  c : wz.heap[A + 2]? = some (.cells #[.int .u64 (f : Int), .int .u64 (l : Int), .int .u64 (u : Int), .pointer p, .string ⟨s.toArray⟩] 70 (0, 0))
  x : wz.heap[A + 3]? = some (.cells #[.func (.func 31) #[] #[.pointer (some ⟨A, 0, none⟩), .pointer (some ⟨A + 2, 0, none⟩)], .func (.func 35) #[] #[.pointer (some ⟨A + 2, 0, none⟩)], .func (.func 37) #[] #[.pointer (some ⟨A, 0, none⟩), .pointer (some ⟨A + 1, 0, none⟩), .pointer (some ⟨A + 2, 0, none⟩)]] 74 (0, 0))
theorem Nw.next {w0 : World} {A : Nat} {s : (List UInt8)} {f l u : Nat} {n : Int} {p : Option Addr} {wz wa : World} (h : Nw w0 A s f l u n p wz) (hb : Below wz.heap.size wz wa) : Nw w0 A s f l u n p wa :=
  ⟨h.sz, h.o.trans (hb.mono (by have := h.o.size; have := h.sz; omega)), (hb.block _ (lit_lt h.a)).trans h.a, (hb.block _ (lit_lt h.b)).trans h.b, (hb.block _ (lit_lt h.c)).trans h.c, (hb.block _ (lit_lt h.x)).trans h.x⟩
theorem Nw.put {w0 : World} {A : Nat} {s : (List UInt8)} {f l u : Nat} {n : Int} {p q : Option Addr} {wz : World} (h : Nw w0 A s f l u n p wz) : Nw w0 A s f l u n q (wz.setCell ⟨A + 2, 3, none⟩ (.pointer q)) := by
  have hk : Kept (fun j => j ≠ A + 2) wz (wz.setCell ⟨A + 2, 3, none⟩ (.pointer q)) := (Kept.refl _ wz).setCell (A + 2) 3 _ (fun _ h => h rfl)
  exact ⟨h.sz, h.o.setCell (p := ⟨A + 2, 3, none⟩) (show A ≤ A + 2 by omega) _, (hk.block _ (lit_lt h.a) (by omega)).trans h.a, (hk.block _ (lit_lt h.b) (by omega)).trans h.b, lit_set (k := 3) (.pointer q) h.c, (hk.block _ (lit_lt h.x) (by omega)).trans h.x⟩
set_option maxRecDepth 100000 in
set_option maxHeartbeats 2000000 in
theorem new1_any {w0 : World} {A : Nat} {s : (List UInt8)} {f l u : Nat} {n : Int} {p : Option Addr} {wz : World} (h : Nw w0 A s f l u n p wz) : Calls Tryz.prog 31 #[.pointer (some ⟨A, 0, none⟩), .pointer (some ⟨A + 2, 0, none⟩)] wz fun e w' => e = .returned (.int .i64 (unlE (digB s && mayB l u) 2 : Nat)) ∧ Below wz.heap.size wz w' := by
  have ca := (lit_cell h.a 0).trans rfl
  have c0 := (lit_cell h.c 0).trans rfl
  have c1 := (lit_cell h.c 1).trans rfl
  have c2 := (lit_cell h.c 2).trans rfl
  have HD := Lib.hid (fun wy => isdig_any s wy)
  have HM := Lib.hid (may14_any f l u wz)
  have HU := Lib.hid (fun t wy => show Calls Tryz.prog 32 #[.bool t, .int .i64 2] wy fun x w' => x = .returned (.int .i64 (unlE t 2 : Nat)) ∧ wy = w' from unless_any t 2 wy)
  generalize mayB l u = mb at *
  generalize digB s = db at *
  clear h
  cases db
  · go_enter Tryz.func31, Tryz.ntmps31
    go_wp2_with (first
      | (go_at_call 33; with_reducible refine (HD.out _).mono ?_; rintro e w1 ⟨rfl, rfl⟩)
      | (go_at_call 32; with_reducible refine (HU.out _ _).mono ?_; rintro e w3 ⟨rfl, rfl⟩))
    go_ret
    exact ⟨rfl, Below.refl _ _⟩
  · go_enter Tryz.func31, Tryz.ntmps31
    go_wp2_with (first
      | (go_at_call 33; with_reducible refine (HD.out _).mono ?_; rintro e w1 ⟨rfl, rfl⟩)
      | (go_at_call 34; with_reducible refine HM.out.mono ?_; rintro e w2 ⟨rfl, hb2⟩; have HB2 := Lib.hid hb2; clear hb2)
      | (go_at_call 32; with_reducible refine (HU.out _ _).mono ?_; rintro e w3 ⟨rfl, rfl⟩))
    go_ret
    exact ⟨rfl, HB2.out⟩
set_option maxRecDepth 100000 in
set_option maxHeartbeats 2000000 in
theorem new2_any {w0 : World} {A : Nat} {s : (List UInt8)} {f l u : Nat} {n : Int} {p : Option Addr} {wz : World} (h : Nw w0 A s f l u n p wz) (hl : l < 18446744073709551616) (hu : u < 18446744073709551616) : Calls Tryz.prog 35 #[.pointer (some ⟨A + 2, 0, none⟩)] wz fun e w' => e = .returned (.int .i64 (unlE (!overB f l u) 21 : Nat)) ∧ Below wz.heap.size wz w' := by
  have c0 := (lit_cell h.c 0).trans rfl
  have c1 := (lit_cell h.c 1).trans rfl
  have c2 := (lit_cell h.c 2).trans rfl
  have HM := Lib.hid (over14_any f l u wz hl hu)
  have HU := Lib.hid (fun t wy => show Calls Tryz.prog 32 #[.bool t, .int .i64 21] wy fun x w' => x = .returned (.int .i64 (unlE t 21 : Nat)) ∧ wy = w' from unless_any t 21 wy)
  generalize overB f l u = mb at *
  clear h hl hu
  go_enter Tryz.func35, Tryz.ntmps35
  go_wp2_with (first
    | (go_at_call 36; with_reducible refine HM.out.mono ?_; rintro e w2 ⟨rfl, hb2⟩; have HB2 := Lib.hid hb2; clear hb2)
    | (go_at_call 32; with_reducible refine (HU.out _ _).mono ?_; rintro e w3 ⟨rfl, rfl⟩))
  go_ret
  exact ⟨rfl, HB2.out⟩
set_option maxRecDepth 100000 in
set_option maxHeartbeats 2000000 in
theorem new3_any (C : WotsC) {w0 : World} {A : Nat} {s : (List UInt8)} {f l N : Nat} {p : Option Addr} {wz : World} (h : Nw w0 A s f l N (N : Int) p wz) (hg : Glob wz) (hs : s.length ≤ 1000) (hN : N ≤ 64) : Calls Tryz.prog 37 #[.pointer (some ⟨A, 0, none⟩), .pointer (some ⟨A + 1, 0, none⟩), .pointer (some ⟨A + 2, 0, none⟩)] wz fun e w' => ∃ t, e = .returned (.int .i64 0) ∧ Nw w0 A s f l N (N : Int) (some ⟨t, 0, none⟩) w' ∧ TreeM (rungsL s N) w' t := by
  have ca := (lit_cell h.a 0).trans rfl
  have cb := (lit_cell h.b 0).trans rfl
  have HR := Lib.hid (rungsOf_any C s N wz hg hs hN)
  have HN := Lib.hid (fun wa hb => h.next (wa := wa) hb)
  clear h hg hs hN
  go_enter Tryz.func37, Tryz.ntmps37
  go_upto_region 2 with (go_at_call 38; with_reducible refine HR.out.mono ?_; rintro e w2 ⟨t, rfl, ht, hb2⟩; have HT := Lib.hid ht; have HW := Lib.hid (HN.out w2 hb2); have c3 := (lit_cell HW.out.c 3).trans rfl; have f3 := lit_free HW.out.c 3; clear hb2 ht)
  have HW2 := Lib.hid (HW.out.put (q := some ⟨t, 0, none⟩))
  have HT2 := Lib.hid (HT.out.off HW.out.c (by decide) (by decide) ((Kept.refl (fun j => j ≠ A + 2) w2).setCell (A + 2) 3 (.pointer (some ⟨t, 0, none⟩)) (fun _ h => h rfl)))
  go_wp2
  go_ret
  exact ⟨t, rfl, HW2.out, HT2.out⟩
/-- what is wrong with a ladder, by what is asked -/
theorem newE_parts {s : (List UInt8)} {f l u : Nat} {n : Int} (hn : -9223372036854775808 ≤ n ∧ n ≤ 9223372036854775807) (hu : (u : Int) = n % 18446744073709551616) : newE s f l n = if (digB s && mayB l u) = false then 2 else if overB f l u = true then 21 else 0 := by
  unfold newE digB mayB overB
  by_cases h1 : s.length = 32 ∧ 0 < l ∧ 0 < u ∧ u ≤ 64
  · obtain ⟨a, b, c, d⟩ := h1
    have e : n.toNat = u := by omega
    rw [if_neg (by omega), e]
    simp [a, b, c, d]
  · rw [if_pos (by omega)]
    by_cases h2 : s.length = 32
    · have h3 : ¬ (0 < l ∧ 0 < u ∧ u ≤ 64) := fun h => h1 ⟨h2, h⟩
      simp [h2]
      intro a b c
      exact absurd ⟨a, b, c⟩ h3
    · simp [h2]
/-- what New answers -/
def NewO (s : (List UInt8)) (f l : Nat) (n : Int) (w : World) (e : Ending) (w' : World) : Prop :=
  (newE s f l n = 0 ∧ ∃ b, e = .returned (.tuple #[.pointer (some ⟨b, 0, none⟩), .int .i64 0]) ∧ PLad b s f l n.toNat w' ∧ Below w.heap.size w w') ∨ (newE s f l n ≠ 0 ∧ e = .returned (.tuple #[.pointer none, .int .i64 (newE s f l n : Nat)]) ∧ Below w.heap.size w w')
/-- what New asks -/
abbrev nFs (A : Nat) : List (FuncId × Array Value) := [(31, #[.pointer (some ⟨A, 0, none⟩), .pointer (some ⟨A + 2, 0, none⟩)]), (35, #[.pointer (some ⟨A + 2, 0, none⟩)]), (37, #[.pointer (some ⟨A, 0, none⟩), .pointer (some ⟨A + 1, 0, none⟩), .pointer (some ⟨A + 2, 0, none⟩)])]
/-- what is so behind each question -/
def nK (w0 : World) (A : Nat) (s : (List UInt8)) (f l u : Nat) (n : Int) : Nat → World → Prop
  | 0, w => Nw w0 A s f l u n none w
  | 1, w => Nw w0 A s f l u n none w ∧ (digB s && mayB l u) = true
  | 2, w => Nw w0 A s f l u n none w ∧ newE s f l n = 0
  | _ + 3, w => newE s f l n = 0 ∧ ∃ t, Nw w0 A s f l u n (some ⟨t, 0, none⟩) w ∧ TreeM (rungsL s n.toNat) w t
theorem nK_nw {w0 : World} {A : Nat} {s : (List UInt8)} {f l u : Nat} {n : Int} : ∀ (i : Nat) (w : World), nK w0 A s f l u n i w → ∃ p, Nw w0 A s f l u n p w
  | 0, _, h => ⟨_, h⟩
  | 1, _, h => ⟨_, h.1⟩
  | 2, _, h => ⟨_, h.1⟩
  | _ + 3, _, h => by
    obtain ⟨_, t, h1, _⟩ := h
    exact ⟨_, h1⟩
theorem new_asks (C : WotsC) {w0 : World} {A : Nat} {s : (List UInt8)} {f l u : Nat} {n : Int} (hg : Glob w0) (hs : s.length ≤ 1000) (hl : l < 18446744073709551616) (hn : -9223372036854775808 ≤ n ∧ n ≤ 9223372036854775807) (hu : (u : Int) = n % 18446744073709551616) :
    Asks (nFs A) (A + 3) (nK w0 A s f l u n) (fun x w => Nw w0 A s f l u n none w ∧ x = newE s f l n) := by
  have hE := newE_parts (s := s) (f := f) (l := l) hn hu
  refine ⟨?_, ?_, ?_⟩
  · intro f hf
    simp at hf
    rcases hf with rfl | rfl | rfl
    · exact enters_of Tryz.func31 (by kernel_rfl) rfl
    · exact enters_of Tryz.func35 (by kernel_rfl) rfl
    · exact enters_of Tryz.func37 (by kernel_rfl) rfl
  · intro i w hK k f hf
    obtain ⟨p, hN⟩ := nK_nw i w hK
    exact ask_cells (fs := nFs A) hN.x k f hf
  · intro i F w hF hK
    match i with
    | 0 =>
      cases hF
      refine (new1_any hK).mono ?_
      rintro e w' ⟨rfl, hb⟩
      have h2 := Nw.next hK hb
      cases hd : (digB s && mayB l u)
      · rw [hd] at hE
        exact Or.inr ⟨2, by decide, rfl, h2, by rw [hE]; rfl⟩
      · exact Or.inl ⟨rfl, h2, hd⟩
    | 1 =>
      cases hF
      obtain ⟨h1, hd⟩ := hK
      refine (new2_any h1 hl (by omega)).mono ?_
      rintro e w' ⟨rfl, hb⟩
      have h2 := h1.next hb
      rw [hd] at hE
      cases ho : overB f l u
      · rw [ho] at hE
        exact Or.inl ⟨rfl, h2, by rw [hE]; rfl⟩
      · rw [ho] at hE
        exact Or.inr ⟨21, by decide, rfl, h2, by rw [hE]; rfl⟩
    | 2 =>
      cases hF
      obtain ⟨h1, h0⟩ := hK
      have hfi := newE_fine h0
      have hf1 := hfi.hn
      have hf2 := hfi.hn2
      obtain ⟨N, hN⟩ : ∃ N : Nat, N = n.toNat := ⟨_, rfl⟩
      obtain rfl : n = (N : Int) := by omega
      obtain rfl : u = N := by omega
      refine (new3_any C h1 (hg.below hg.size (by have := h1.o; rwa [← h1.sz] at this)) hs (by omega)).mono ?_
      rintro e w' ⟨t, rfl, h2, h3⟩
      exact Or.inl ⟨rfl, h0, t, h2, h3⟩
    | j + 3 => simp at hF
set_option maxRecDepth 100000 in
set_option maxHeartbeats 4000000 in
theorem pNew_any (C : WotsC) (s : (List UInt8)) (f l : Nat) (n : Int) (w : World) (hg : Glob w) (hs : s.length ≤ 1000) (hl : l < 18446744073709551616) (hn : -9223372036854775808 ≤ n ∧ n ≤ 9223372036854775807) : Calls Tryz.prog 10 #[.string ⟨s.toArray⟩, .int .u64 (f : Int), .int .u64 (l : Int), .int .i64 n] w (NewO s f l n w) := by
  obtain ⟨u, hu⟩ : ∃ u : Nat, (u : Int) = n % 18446744073709551616 := ⟨(n % 18446744073709551616).toNat, by omega⟩
  have hwu : IntKind.u64.wrap n = (u : Int) := by rw [IntKind.wrap_u64]; exact hu.symm
  obtain ⟨A, hA⟩ : ∃ A, A = w.heap.size := ⟨_, rfl⟩
  have HAS := Lib.hid (new_asks C (A := A) (f := f) hg hs hl hn hu)
  obtain ⟨w2, hw2⟩ : ∃ w2, w2 = (w.alloc (.cells #[.string ⟨s.toArray⟩] 9)).alloc (.cells #[.int .i64 n] 3) := ⟨_, rfl⟩
  have hz2 : w2.heap.size = A + 2 := by rw [hw2, World.size_alloc, World.size_alloc, hA]
  have hca : w2.heap[A]? = some (.cells #[.string ⟨s.toArray⟩] 9 (0, 0)) := by rw [hw2, hA]; exact lit_old _ (heap_alloc_new w _)
  have hcb : w2.heap[A + 1]? = some (.cells #[.int .i64 n] 3 (0, 0)) := by
    have := heap_alloc_new (w.alloc (.cells #[.string ⟨s.toArray⟩] 9)) (.cells #[.int .i64 n] 3)
    rw [World.size_alloc, ← hA, ← hw2] at this
    exact this
  have hb2 : Below A w w2 := by rw [hw2, hA]; exact below_next (by0 w _) (by0 _ _)
  obtain ⟨w3, hw3⟩ : ∃ w3, w3 = w2.alloc (.cells #[.int .u64 (f : Int), .int .u64 (l : Int), .int .u64 (u : Int), .pointer none, .string ⟨s.toArray⟩] 70) := ⟨_, rfl⟩
  have hz3 : w3.heap.size = A + 3 := by rw [hw3, World.size_alloc, hz2]
  have hc3 : w3.heap[A + 2]? = some (.cells #[.int .u64 (f : Int), .int .u64 (l : Int), .int .u64 (u : Int), .pointer none, .string ⟨s.toArray⟩] 70 (0, 0)) := by rw [hw3, ← hz2]; exact heap_alloc_new w2 _
  have hb3 : Below A w w3 := by rw [hw3]; exact hb2.alloc (by omega) _
  have HN4 := Lib.hid (show Nw w A s f l u n none (w3.alloc (.cells #[.func (.func 31) #[] #[.pointer (some ⟨A, 0, none⟩), .pointer (some ⟨A + 2, 0, none⟩)], .func (.func 35) #[] #[.pointer (some ⟨A + 2, 0, none⟩)], .func (.func 37) #[] #[.pointer (some ⟨A, 0, none⟩), .pointer (some ⟨A + 1, 0, none⟩), .pointer (some ⟨A + 2, 0, none⟩)]] 74)) from
    ⟨hA.symm, hb3.alloc (by omega) _, lit_old _ (by rw [hw3]; exact lit_old _ hca), lit_old _ (by rw [hw3]; exact lit_old _ hcb), lit_old _ hc3, by rw [← hz3]; exact heap_alloc_new w3 _⟩)
  have HF := Lib.hid (show Calls Tryz.prog 30 #[.slice (some ⟨A + 3, 0, none⟩) 3 3] _ _ from first_any HAS.out 3 _ (by simp) HN4.out)
  have ca := (lit_cell hca 0).trans rfl
  have cb := (lit_cell hcb 0).trans rfl
  have HUN := Lib.hid (fun (h : newE s f l n = 0) => show u = n.toNat by have := newE_fine h; have := this.hn; have := newE_fine h; have := this.hn2; omega)
  have HW2 := Lib.hid hw2
  have HW3 := Lib.hid hw3
  have HAA := Lib.hid hA
  have HZ2 := Lib.hid hz2
  clear hu hn hs hl hz2 hw2 hA hca hcb hb2 hw3 hc3 hb3 HAS HN4 hg
  go_enter Tryz.func10, Tryz.ntmps10
  go_upto_region 1 with fail
  rw [← HW2.out, ← HAA.out]
  go_upto_region 2 with fail
  rw [HZ2.out, ← HW3.out]
  clear ca cb hwu
  go_wp2_with (fail)
  refine HF.out.mono ?_
  rintro e w5 (⟨rfl, hk⟩ | ⟨x, hx, rfl, hq⟩)
  · obtain ⟨h0, t, hN, hT⟩ := hk
    have HO := Lib.hid (show NewO s f l n w (.returned (.tuple #[.pointer (some ⟨A + 2, 0, none⟩), .int .i64 0])) w5 from Or.inl ⟨h0, A + 2, rfl, ⟨t, by rw [← HUN.out h0]; exact hN.c, hT⟩, by rw [hN.sz]; exact hN.o⟩)
    clear hN hT h0
    go_wp2
    exact bodyPost_ret (v := .tuple #[.pointer (some ⟨A + 2, 0, none⟩), .int .i64 0]) (by simp [results, Tryz.results10, go_sem]) rfl HO.out
  · obtain ⟨hN, hxe⟩ := hq
    have HO := Lib.hid (show NewO s f l n w (.returned (.tuple #[.pointer none, .int .i64 (x : Int)])) w5 from Or.inr ⟨by rw [← hxe]; exact hx, by rw [hxe], by rw [hN.sz]; exact hN.o⟩)
    have hx1 : ((x : Int) != 0) = true := by simp; omega
    have hx2 : ¬ (x : Int) = 0 := by omega
    clear hN hxe hx
    go_wp2
    exact bodyPost_ret (v := .tuple #[.pointer none, .int .i64 (x : Int)]) (by simp [results, Tryz.results10, go_sem]) rfl HO.out
end Go.Proofs.YtmnklonoelpidaaGreatDoor
