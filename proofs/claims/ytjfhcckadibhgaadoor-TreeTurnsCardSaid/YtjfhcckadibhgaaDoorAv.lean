/- The law's TreeTurns. -/
import Derived.Test.YtjfhcckadibhgaaDoorAq
import Derived.Test.YtjfhcckadibhgaaDoorAu
namespace Go.Proofs.YtjfhcckadibhgaaDoor
open Go.RowKit

/-- a list of the law: as many elements as there were, none too long -/
structure Lim (n : Nat) (M : List (List UInt8)) : Prop where
  n : M.length = n
  l : ∀ i (h : i < M.length), M[i].length ≤ 10000000
theorem Lim.set {n i : Nat} {M : List (List UInt8)} {E : (List UInt8)} (h : Lim n M) (hE : E.length ≤ 10000000) : Lim n (M.set i E) := ⟨by rw [List.length_set]; exact h.n, fun j hj => by
  rw [List.length_set] at hj
  rw [List.getElem_set]
  split
  · exact hE
  · exact h.l j hj⟩
set_option maxRecDepth 100000 in
set_option maxHeartbeats 4000000 in
theorem treeTurns_any (ao : Option Addr) (cap : Nat) (S : List (List UInt8)) (a1 : Option Addr) (cap1 : Nat) (l : List TU9) (w : World) (hg : Glob w) (hs : Strs ao S w) (hS : S.length ≤ maxLen) (hl : ∀ i (h : i < S.length), S[i].length ≤ maxLen)
    (hm : l.length ≤ maxLen) (hi : ∀ i (h : i < l.length), TuIn l[i].1 l[i].2) (ht : Tus a1 l w) :
    Calls Tryd.prog 4 #[.slice ao S.length cap, .slice a1 l.length cap1] w fun e w' => e = .returned (.bool true) ∧ Below w.heap.size w w' := by
  have HF := Lib.hid (few9_any ao cap 40 S w (by decide) hS hl hs)
  have hlen := (cutTo_len S 40).1
  have hsh := cutTo_short S 40
  generalize cutTo S 40 = L at *
  have hL6 : L.length ≤ 65536 := by omega
  have hl7 : ∀ i (h : i < L.length), L[i].length ≤ 10000000 := fun i h => Nat.le_trans (hsh i h) (by decide)
  have HB := Lib.hid (fun ao cp wz (h : Wl w wz) (hp : FewP L w.heap.size ao cp wz) => build_any ao cp L wz h.g hp.strs hL6 hl7)
  have HC := Lib.hid (fun ao cp wz (hp : FewP L w.heap.size ao cp wz) => refBuild_any ao cp L wz hL6 hp.two)
  obtain ⟨N, hN⟩ : ∃ N, N = L.length := ⟨_, rfl⟩
  have hN6 : N ≤ 65536 := by omega
  have HLM : Hid (Lim N L) := Lib.hid ⟨hN.symm, hl7⟩
  have HR := Lib.hid (fun M t r wz (h : Tr w M t r wz) => rootT_any M t wz h.t)
  have HS := Lib.hid (fun M t r wz (hM : Lim N M) (h : Tr w M t r wz) => refRoot_any M r wz h.r (by rw [hM.n]; exact hN6) hM.l)
  have HW := Lib.hid (fun wz (h : Wl w wz) => works9_any wz h.g)
  have K := Lib.hid (show Wl w w from ⟨hg, Below.refl _ _⟩)
  have HT := Lib.hid (fun wz (h : Wl w wz) => ht.below (Nat.le_refl _) h.o)
  have HI := Lib.hid hi
  have hm' := hm
  unfold maxLen at hm'
  have HN6 := Lib.hid hN6
  clear hg hs hS hl hlen hsh hL6 hl7 ht hi hm hN hN6
  go_enter Tryd.func4, Tryd.ntmps4
  go_upto_region 2 with (go_at_call 8; refine HF.out.mono ?_; rintro e w1 ⟨a2, c2, rfl, hp, hb1⟩)
  have K := Lib.hid (K.out.next hb1)
  have P1 := Lib.hid hp
  clear hp hb1 HF
  go_upto_region 4 with (first
    | (go_at_call 9; refine (HB.out _ _ _ K.out P1.out).mono ?_; rintro e w2 ⟨t, rfl, hT, _, hb2⟩; have P2 := Lib.hid (P1.out.below hb2); have T2 := Lib.hid hT; have K2 := Lib.hid (K.out.next hb2); clear hT hb2)
    | (go_at_call 10; refine (HC.out _ _ _ P2.out).mono ?_; rintro e w3 ⟨r, rfl, hR, hb3⟩; have X := Lib.hid (show Tr w L t r w3 from ⟨K2.out.next hb3, T2.out.below hb3, hR⟩); clear hR hb3))
  clear P1 P2 T2 K2 K HB HC
  go_wp2
  go_loopw [5, 7, 9, 10, 11, 12, 13, 14] (fun s5 s7 s9 s10 s11 s12 s13 s14 wr => ∃ (k : Nat) (M : List (List UInt8)) (t r : Nat), k ≤ l.length ∧ k ≤ 12 ∧ s5 = .pointer (some ⟨t, 0, none⟩) ∧ s7 = .pointer (some ⟨r, 0, none⟩) ∧ s9 = .int .i64 (k : Int) ∧ Hid (Lim N M ∧ Tr w M t r wr)) (fun _ _ s9 _ _ _ _ _ _ => 12 - (intOf s9).toNat)
  case atStart => exact ⟨0, L, t, r, Nat.zero_le _, by omega, rfl, rfl, rfl, Lib.hid ⟨HLM.out, X.out⟩⟩
  case round =>
    clear X
    obtain ⟨k, M, t, r, hk, hk12, rfl, rfl, rfl, X⟩ := hrel
    by_cases hlt : k < l.length ∧ k < 12
    · obtain ⟨hlt1, hlt2⟩ := hlt
      rcases HT.out wr X.out.2.k with rfl | ⟨b, off, rfl, hb, hc⟩
      · simp at hlt1
      obtain ⟨i, T, hin, c0', c1', HC0⟩ : ∃ (i : Nat) (T : (List UInt8)), TuIn i T ∧ wr.cell? ⟨b, off + k * 2, none⟩ = some (.int .u64 (i : Int)) ∧ wr.cell? ⟨b, off + k * 2 + 1, none⟩ = some (.string ⟨T.toArray⟩) ∧ Hid (∀ wz, Wl w wz → wz.cell? ⟨b, off + k * 2, none⟩ = some (.int .u64 (i : Int))) := by
        refine ⟨l[k].1, l[k].2, HI.out k hlt1, hc k hlt1 0 (by omega), ?_, Lib.hid fun wz h => ?_⟩
        · have := hc k hlt1 1 (by omega)
          rw [← Nat.add_assoc] at this
          exact this
        · rcases HT.out wz h with h | ⟨b', off', h1, _, h3⟩
          · rw [h] at hlt1; simp at hlt1
          · cases h1
            exact h3 k hlt1 0 (by omega)
      have HKL := Lib.hid hlt1
      have hi64 := hin.n1
      have hSl := hin.S1
      unfold maxLen at hSl
      clear hc hin
      obtain ⟨m, hm1, hm2, hm3⟩ := cut_text T
      have m0 : (0 : Int) ≤ (m : Int) := by omega
      have m1 : (m : Int) ≤ (T.length : Int) := by omega
      have Hm3 := Lib.hid hm3
      have hel : (T.take 60).length ≤ 10000000 := by rw [List.length_take]; omega
      have k0 : (0 : Int) ≤ (k : Int) := by omega
      have k1 : (k : Int) < (l.length : Int) := by omega
      have k2 : (k : Int) < 12 := by omega
      clear hm3
      go_wp2
      go_region_held3 (fun w' => w'.cell? ⟨b, off + k * 2 + 1, none⟩ = some (.string ⟨T.toArray⟩)) (first | (with_reducible assumption) | (exact c1')) (fail)
      all_goals
        try rw [Hm3.out]
      have X := Lib.hid (And.intro X.out.1 (X.out.2.next (Below.refl _ _).drew))
      generalize T.take 60 = E at *
      generalize wr.drew = wq at *
      have c0 := HC0.out wq X.out.2.k
      clear c1' c0' m0 m1 hm1 hm2 Hm3
      by_cases him : i < M.length
      · have HWT := Lib.hid (withT_any M t i E wq X.out.2.k.g X.out.2.t him hel)
        have HRW := Lib.hid (fun wz (h : RefM M wz r) => refWith_any M r i E wz h (by rw [X.out.1.n]; exact HN6.out) him)
        have HLS := Lib.hid (X.out.1.set (i := i) hel)
        clear him
        go_upto_region 12 with (first
          | (go_at_call 19; refine HWT.out.mono ?_; rintro e wn ⟨u, rfl, hU, bn⟩; have X := Lib.hid (And.intro X.out.1 (X.out.2.next bn)); have U := Lib.hid hU; have c0 := HC0.out wn X.out.2.k; clear hU bn)
          | (go_at_call 20; refine (HRW.out _ X.out.2.r).mono ?_; rintro e wn ⟨v, rfl, hV, bn⟩; have X := Lib.hid (And.intro X.out.1 (X.out.2.next bn)); have Y := Lib.hid (show Tr w (M.set i E) u v wn from ⟨X.out.2.k, U.out.below bn, hV⟩); clear hV bn))
        clear HWT HRW
        go_wp2_with (first
            | (go_at_call 11; with_reducible refine (HR.out _ _ _ _ X.out.2).mono ?_; rintro e wn ⟨rfl, rfl⟩)
            | (go_at_call 11; with_reducible refine (HR.out _ _ _ _ Y.out).mono ?_; rintro e wn ⟨rfl, rfl⟩)
            | (go_at_call 12; with_reducible refine (HS.out _ _ _ _ X.out.1 X.out.2).mono ?_; rintro e wn ⟨rfl, bn⟩; have X := Lib.hid (And.intro X.out.1 (X.out.2.next bn)); (try have Y := Lib.hid (Y.out.next bn)); clear bn)
            | (go_at_call 12; with_reducible refine (HS.out _ _ _ _ HLS.out Y.out).mono ?_; rintro e wn ⟨rfl, bn⟩; have X := Lib.hid (And.intro X.out.1 (X.out.2.next bn)); have Y := Lib.hid (Y.out.next bn); clear bn))
        go_roundw
        case rel => exact ⟨k + 1, M.set i E, u, v, HKL.out, by omega, rfl, rfl, by go_num, Lib.hid ⟨HLS.out, Y.out⟩⟩
        case measure => simp [intOf]; omega
      · have HWT := Lib.hid (withT_bad M t i E wq X.out.2.t (by omega))
        have HRW := Lib.hid (fun wz (h : RefM M wz r) => refWith_bad M r i E wz h (by rw [X.out.1.n]; exact HN6.out) (by omega))
        clear him
        go_wp2_with (first
          | (go_at_call 19; refine HWT.out.mono ?_; rintro e wn ⟨rfl, bn⟩; have X := Lib.hid (And.intro X.out.1 (X.out.2.next bn)); have c0 := HC0.out wn X.out.2.k; clear bn)
          | (go_at_call 20; refine (HRW.out _ X.out.2.r).mono ?_; rintro e wn ⟨rfl, rfl⟩))
        go_roundw
        case rel => exact ⟨k + 1, M, t, r, HKL.out, by omega, rfl, rfl, by go_num, X⟩
        case measure => simp [intOf]; omega
    · have hcase : (¬ (k : Int) < 12 ∧ (k : Int) < (l.length : Int)) ∨ ¬ (k : Int) < (l.length : Int) := by omega
      clear hlt
      rcases hcase with ⟨k2, k1⟩ | k1
      all_goals
        go_wp2_with (go_at_call 18; refine (HW.out _ X.out.2.k).mono ?_; rintro e w8 ⟨rfl, hb8⟩; have X := Lib.hid (And.intro X.out.1 (X.out.2.next hb8)); clear hb8)
        go_ret
        exact ⟨rfl, X.out.2.k.o⟩
end Go.Proofs.YtjfhcckadibhgaaDoor
