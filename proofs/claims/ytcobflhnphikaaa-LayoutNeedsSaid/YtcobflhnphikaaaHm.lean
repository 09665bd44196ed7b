/- The levels: an iterator that hands its set over, and makes the parents of it. -/
import Derived.Test.YtcobflhnphikaaaHl
namespace Go.Proofs.Ytcobflhnphikaaa
open Go.RowKit Go.Sort
attribute [local go_sem] Oper.semAt_some

theorem clear_eq {b n : Nat} {K : List Nat} {w : World} (h : SetU b n K w) : ∃ w', (∀ ty, (Builtin.clear_ #[48] ty #[.map (some b)]).run Try.prog w = .ok (.tuple #[]) w') ∧ SetU b 0 [] w' ∧ w.grownBy w' (some b) ∧ w'.heap.size = w.heap.size := by
  obtain ⟨w', h1, h2⟩ := h.clear 48 Try.underlying48 0
  exact ⟨w', fun ty => h1, h2⟩
theorem set_next {m n k : Nat} {L L2 : List Nat} {w5 : World} (h : SetU m (0 + L2.length) ([] ++ L2) w5) (hl : L2.length ≤ n) (he : ∀ x, x ∈ L2 ↔ ∃ j ∈ upTo L k, j / 2 = x) : SetU m n (upTo L (k + 1)) w5 :=
  (h.mono (by omega)).of fun x => by rw [List.nil_append, he, mem_upTo_succ]
set_option maxRecDepth 100000 in
set_option maxHeartbeats 2000000 in
theorem levels_hands (b1 b2 : Nat) (ao : Option Addr) (cap : Nat) (L : List Nat) (d : Nat) (hL : ∀ x ∈ L, x < 18446744073709551616) (hn : L.length ≤ 100000) (hd : d ≤ 16) :
    HandsOwn Try.prog 36 #[.pointer (some ⟨b1, 0, none⟩), .pointer (some ⟨b2, 0, none⟩)] (fun m => #[.map (some m)]) [] (fun m k W => SetU m L.length (upTo L k) W) d
      (fun W => W.cell? ⟨b1, 0, none⟩ = some (.slice ao L.length cap) ∧ W.cell? ⟨b2, 0, none⟩ = some (.int .i64 (d : Int)) ∧ Nums ao L W) := by
  rintro l J W ⟨hc1, hc2, hN⟩ - hY h0
  obtain ⟨m, hm⟩ : ∃ m, m = W.heap.size := ⟨_, rfl⟩
  rw [← hm] at hY ⊢
  have hb1 : b1 < W.heap.size := World.block_lt_of_cell? W _ hc1
  have hb2 : b2 < W.heap.size := World.block_lt_of_cell? W _ hc2
  have HY := Lib.hid hY
  have HJ0 := Lib.hid h0
  have hS0 := SetAt.made Try.prog 22 W
  have hN0 : Nums ao L (W.alloc (.map #[] 0)) := hN.grown (World.grownBy_alloc W _ none) (fun _ _ _ => by simp)
  have hK0 : Kept (· ≠ m) W (W.alloc (.map #[] 0)) := (Kept.refl _ W).alloc _
  have hz0 : (W.alloc (.map #[] 0)).heap.size = m + 1 := by simp [hm]
  have d1 : (W.alloc (.map #[] 0)).cell? ⟨b1, 0, none⟩ = some (.slice ao L.length cap) := (World.cell?_alloc_lt _ _ _ hb1).trans hc1
  have d2 : (W.alloc (.map #[] 0)).cell? ⟨b2, 0, none⟩ = some (.int .i64 (d : Int)) := (World.cell?_alloc_lt _ _ _ hb2).trans hc2
  rw [← hm] at hS0
  have HG := Lib.hid (gather_any m 0 [] L ao cap _ hS0 hN0 hL (by omega))
  have HK0 := Lib.hid hK0
  have HZ0 := Lib.hid hz0
  have hmm := @run_makeMap Try.prog
  refine (callsIn_wide (n := 1)).1 ?_
  refine callsIn_of_wp Try.func36 rfl trivial ?_ rfl
  simp only [Try.ntmps36, List.size_toArray, List.length_cons, List.length_nil, Nat.reduceAdd, Nat.reduceSub, Array.replicate_succ, Array.replicate_zero, List.push_toArray, List.append_toArray, List.nil_append, List.cons_append]
  clear hY h0 hS0 hN0 hK0 hz0 hN hc1 hc2
  have HM := Lib.hid hm
  clear hm
  gi_wp2_with (refine ⟨trivial, ?_⟩; gi_at_call 37; rw [← HM.out]; refine (callsIn_wide.2 HG.out).mono ?_; rintro e w1 ⟨rfl, hs1, hg1⟩; have e2 := (World.cell?_of_block (a := ⟨b2, 0, none⟩) (hg1.block b2 (by rw [HZ0.out]; have := HM.out; omega) (fun e => by have := HM.out; cases e; omega))).trans d2; have HS1 := Lib.hid hs1; have HG1 := Lib.hid hg1; clear hs1 hg1)
  have hs1 := HS1.out
  rw [List.nil_append, Nat.zero_add] at hs1
  have HS := Lib.hid hs1
  have HK1 := Lib.hid (HK0.out.grown HG1.out (fun j e _ h => by cases e; exact h rfl))
  have HZ1 := Lib.hid (show m < w1.heap.size by have := HG1.out.size; have := HZ0.out; omega)
  clear hs1 HS1 HG1 HK0 HZ0 e2 d1 d2
  gi_loopw [11] (fun i wr => ∃ k : Nat, k ≤ d ∧ i = .int .i64 (k : Int) ∧ Hid (∃ W1, J k W1 ∧ Kept (· ≠ m) W1 wr) ∧ Hid (SetU m L.length (upTo L k) wr) ∧ Hid (m < wr.heap.size)) (fun i _ => d - (intOf i).toNat)
  case atStart => exact ⟨0, by omega, rfl, Lib.hid ⟨W, HJ0.out, HK1.out⟩, Lib.hid (by rw [upTo_zero]; exact HS.out), HZ1⟩
  case round =>
    obtain ⟨k, hk, rfl, HJ, HS, HZ⟩ := hrel
    by_cases hlt : k < d
    · have hl : (k : Int) < (d : Int) := by omega
      obtain ⟨W1, hj1, hk1⟩ := HJ.out
      have HY2 := HY.out k W1 wr hlt hj1 hk1 HZ.out HS.out
      clear hj1 hk1
      obtain ⟨fn, tmps, assign, body, hy, hR⟩ := HY2
      gi_wp2
      refine hR.mono ?_
      rintro e w2 ⟨rfl, hj2, hk2⟩
      clear hR hy
      have HJ2 := Lib.hid hj2
      have hs2 : SetU m L.length (upTo L k) w2 := HS.out.block (hk2.block m HZ.out (.inr rfl))
      have HP := Lib.hid (parents_any m L.length (upTo L k) w2 hs2 hn)
      have HS2 := Lib.hid hs2
      have HZ2 := Lib.hid hs2.lt
      clear hj2 hk2 hs2
      gi_wp2_with (first
        | (refine ⟨trivial, ?_⟩; gi_at_call 38; refine (callsIn_wide.2 HP.out).mono ?_; rintro e w3 ⟨v, L2, rfl, hm2, h64, hlen, hrow, hb3⟩;
           obtain ⟨w4, hclr, hs4, hg4, hz4⟩ := clear_eq (HS2.out.block (hb3.block m HZ2.out));
           obtain ⟨ao2, cap2, rfl, hn3, hfar⟩ := nums_of_row hrow;
           have HG2 := Lib.hid (gather_any m 0 [] L2 ao2 cap2 w4 hs4 (hn3.grown hg4 (fun b off e h => by have h1 := (hfar b off e).1; have h2 := HZ2.out; cases h; omega)) h64 (by omega));
           have HK4 := Lib.hid (((Kept.of_below hb3 (S := (fun x => x ≠ m ∧ x < w2.heap.size)) (fun j h => h.2)).grown hg4 (fun j e _ h => by cases e; exact h.1 rfl)).less (T := (· ≠ m)) (fun j hj h => ⟨h, hj⟩));
           have HM2 := Lib.hid hm2; have HLN := Lib.hid hlen; clear hm2 h64 hlen hrow hb3 hs4 hg4 hz4 hn3 hfar)
        | (refine ⟨trivial, ?_⟩; gi_at_call 37; refine (callsIn_wide.2 HG2.out).mono ?_; rintro e w5 ⟨rfl, hs5, hg5⟩; have HS5 := Lib.hid hs5; have HG5 := Lib.hid hg5; clear hs5 hg5))
      go_roundw
      case rel => exact ⟨k + 1, hlt, by go_num, Lib.hid ⟨w2, HJ2.out, HK4.out.grown HG5.out (fun j e _ h => by cases e; exact h rfl)⟩, Lib.hid (set_next HS5.out HLN.out HM2.out), Lib.hid HS5.out.lt⟩
      case measure => simp [intOf] <;> omega
    · have hl : ¬ (k : Int) < (d : Int) := by omega
      have hkd : k = d := by omega
      subst hkd
      gi_wp2
      go_end0
      exact ⟨⟨_, rfl⟩, HJ.out⟩
end Go.Proofs.Ytcobflhnphikaaa
