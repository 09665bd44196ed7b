/- The document's own: may positions be; their leaves. -/
import Derived.Test.YtmnklonoelpidaaGreatDoorJ21
import Derived.Test.YtmnklonoelpidaaGreatDoorJ22
import Derived.Test.YtmnklonoelpidaaGreatDoorJ10
import Derived.Test.YtmnklonoelpidaaGreatDoorJ9
import Derived.Deep.Cut
import Derived.Test.YtmnklonoelpidaaGreatDoorJ23
namespace Go.Proofs.YtmnklonoelpidaaGreatDoor
open Go.RowKit Go.Sort

/-- the first i stand -/
def Sta (P : List Nat) (n i : Nat) : Prop := (∀ t (h : t < P.length), t < i → P[t] < n) ∧ ∀ t (h : t + 1 < P.length), t + 1 < i → P[t] < P[t + 1]
theorem sta_all {P : List Nat} {n i : Nat} (h : Sta P n i) (hi : P.length ≤ i) : standsP P n = decide (P ≠ []) := by
  rw [standsP]
  refine decide_eq_decide.2 ⟨fun h => h.1, fun h0 => ⟨h0, adj_lt fun t ht => h.2 t ht (by omega), fun x hx => ?_⟩⟩
  obtain ⟨t, ht, rfl⟩ := List.getElem_of_mem hx
  exact h.1 t ht (by omega)
set_option maxRecDepth 100000 in
set_option maxHeartbeats 1000000 in
theorem rmay_any (ao : Option Addr) (cap : Nat) (P : List Nat) (n : Nat) (w : World) (hN : Nums ao P w) (hP : P.length ≤ 100000) (hn : n ≤ 1000000) :
    Calls Tryz.prog 86 #[.int .i64 (n : Int), .slice ao P.length cap] w fun e w' => e = .returned (.bool (standsP P n)) ∧ Below w.heap.size w w' := by
  have HN := Lib.hid hN
  have n1 : (P.length : Int) ≤ 100000 := by omega
  have hwn : IntKind.u64.wrap (n : Int) = (n : Int) := by rw [IntKind.wrap_u64]; omega
  clear hN
  go_enter Tryz.func86, Tryz.ntmps86
  go_wp2
  go_loopw [5] (fun vi wr => ∃ i : Nat, vi = .int .i64 (i : Int) ∧ i ≤ P.length ∧ Hid (Below w.heap.size w wr) ∧ Hid (Sta P n i)) (fun vi _ => P.length - (intOf vi).toNat)
  case atStart => exact ⟨0, rfl, Nat.zero_le _, Lib.hid (Below.refl _ _), Lib.hid ⟨fun t _ h => by omega, fun t _ h => by omega⟩⟩
  case round =>
    obtain ⟨i, rfl, hi, HB, HR⟩ := hrel
    by_cases hie : i < P.length
    · have hl : (i : Int) < (P.length : Int) := by omega
      have i0 : (0 : Int) ≤ (i : Int) := by omega
      obtain ⟨b, off, rfl, hc⟩ := nums_at (nums_next HN.out HB.out) i hie
      obtain ⟨x, hx⟩ : ∃ x, x = P[i] := ⟨_, rfl⟩
      rw [← hx] at hc
      by_cases hxn : n ≤ x
      · have hge : (x : Int) ≥ (n : Int) := by omega
        have HF := Lib.hid (show standsP P n = false from by
          rw [standsP]
          refine decide_eq_false fun h => ?_
          have := h.2.2 x (by rw [hx]; exact List.getElem_mem hie)
          omega)
        clear hx hxn
        go_wp2
        go_quiet (fail)
        go_wp2
        go_ret
        exact ⟨by rw [HF.out]; trivial, HB.out.trans ⟨rfl, rfl, rfl, Nat.le_refl _, fun _ _ => rfl⟩⟩
      · have hge : ¬ (x : Int) ≥ (n : Int) := by omega
        have hge2 : decide (n ≤ x) = false := by simp; omega
        by_cases hi0 : i = 0
        · have hgt : ¬ (i : Int) > 0 := by omega
          have hgt2 : decide (0 < i) = false := by simp; omega
          have HR2 := Lib.hid (show Sta P n (i + 1) from ⟨fun t h ht => by
            have : t = i := by omega
            subst this
            rw [← hx]; omega, fun t h ht => by omega⟩)
          clear hx hxn hi0
          go_wp2
          go_quiet (fail)
          go_wp2
          go_roundw
          case rel => exact ⟨i + 1, by go_num, hie, Lib.hid (HB.out.trans ⟨rfl, rfl, rfl, Nat.le_refl _, fun _ _ => rfl⟩), HR2⟩
          case measure => simp [intOf] <;> omega
        · obtain ⟨j, hj⟩ : ∃ j, j + 1 = i := ⟨i - 1, by omega⟩
          have hsub : (i : Int) - 1 = (j : Int) := by omega
          have hl2 : (j : Int) < (P.length : Int) := by omega
          have j0 : (0 : Int) ≤ (j : Int) := by omega
          have hgt : (i : Int) > 0 := by omega
          have hgt2 : 0 < i := by omega
          have hgt3 : decide (0 < i) = true := by simpa using hgt2
          obtain ⟨b', off', e, hc'⟩ := nums_at (nums_next HN.out HB.out) j (by omega)
          cases e
          obtain ⟨y, hy⟩ : ∃ y, y = P[j] := ⟨_, rfl⟩
          rw [← hy] at hc'
          by_cases hyx : y < x
          · have hle : ¬ (x : Int) ≤ (y : Int) := by omega
            have hle2 : decide (x ≤ y) = false := by simp; omega
            have HR2 := Lib.hid (show Sta P n (i + 1) from ⟨fun t h ht => by
              by_cases c : t = i
              · subst c; rw [← hx]; omega
              · exact HR.out.1 t h (by omega), fun t h ht => by
              by_cases c : t = j
              · subst c; subst hj; rw [← hx, ← hy]; exact hyx
              · exact HR.out.2 t h (by omega)⟩)
            clear hx hy hxn hyx hj hi0
            go_wp2
            go_quiet (fail)
            go_wp2
            go_roundw
            case rel => exact ⟨i + 1, by go_num, hie, Lib.hid (HB.out.trans ⟨rfl, rfl, rfl, Nat.le_refl _, fun _ _ => rfl⟩), HR2⟩
            case measure => simp [intOf] <;> omega
          · have hle : (x : Int) ≤ (y : Int) := by omega
            have hle2 : decide (x ≤ y) = true := by simp; omega
            have HF := Lib.hid (show standsP P n = false from by
              rw [standsP]
              refine decide_eq_false fun h => ?_
              have := lt_adj h.2.1 j (by omega)
              subst hj
              rw [← hx, ← hy] at this
              omega)
            clear hx hy hxn hyx hj hi0
            go_wp2
            go_quiet (fail)
            go_wp2
            go_ret
            exact ⟨by rw [HF.out]; trivial, HB.out.trans ⟨rfl, rfl, rfl, Nat.le_refl _, fun _ _ => rfl⟩⟩
    · have hl : ¬ (i : Int) < (P.length : Int) := by omega
      have HF := Lib.hid (sta_all HR.out (show P.length ≤ i by omega))
      by_cases h0 : P = []
      · have hg0 : decide (0 < P.length) = false := by rw [h0]; rfl
        rw [decide_eq_false (fun h => h h0)] at HF
        clear h0
        go_wp2
        go_ret
        exact ⟨by rw [HF.out]; trivial, HB.out⟩
      · have hg0 : decide (0 < P.length) = true := decide_eq_true (List.length_pos_iff.2 h0)
        rw [decide_eq_true h0] at HF
        clear h0
        go_wp2
        go_ret
        exact ⟨by rw [HF.out]; trivial, HB.out⟩
set_option maxRecDepth 100000 in
set_option maxHeartbeats 1000000 in
theorem rleaves_any (ao : Option Addr) (cap : Nat) (P : List Nat) (d : Nat) (w : World) (hN : Nums ao P w) (hP : P.length ≤ 1000) :
    Calls Tryz.prog 88 #[.slice ao P.length cap, .int .i64 (d : Int)] w fun e w' => ∃ v, e = .returned v ∧ w'.ownsRow w.heap.size 22 1 v P.length ((lvs P d).map encU) ∧ Below w.heap.size w w' := by
  have HN := Lib.hid hN
  have n1 : (P.length : Int) ≤ 1000 := by omega
  obtain ⟨V, hV⟩ : ∃ V, V = lvs P d := ⟨_, rfl⟩
  have hVl : V.length = P.length := by rw [hV]; simp
  rw [← hV]
  have HV := Lib.hid (And.intro hV hVl)
  clear hN hV hVl
  go_enter Tryz.func88, Tryz.ntmps88
  go_wp2
  go_loopw [5, 6] (fun v vi wr => ∃ k : Nat, k ≤ P.length ∧ vi = .int .i64 (k : Int) ∧ Hid (wr.ownsRow w.heap.size 22 1 v (V.take k).length ((V.take k).map encU)) ∧ Hid (Below w.heap.size w wr)) (fun _ vi _ => P.length - (intOf vi).toNat)
  case atStart => exact ⟨0, Nat.zero_le _, rfl, Lib.hid (World.ownsRow_nil _ _ _ _), Lib.hid (Below.refl _ _)⟩
  case round =>
    obtain ⟨k, hk, rfl, HO, HB⟩ := hrel
    by_cases hlt : k < P.length
    · have h1 : (k : Int) < (P.length : Int) := by omega
      have k0 : (0 : Int) ≤ (k : Int) := by omega
      obtain ⟨b, off, rfl, hc⟩ := nums_at (nums_next HN.out HB.out) k hlt
      have hlk : k < V.length := by rw [HV.out.2]; exact hlt
      obtain ⟨x, hx⟩ : ∃ x, x = P[k] := ⟨_, rfl⟩
      rw [← hx] at hc
      have HE := Lib.hid (show V.take k ++ [turnB x (d : Int)] = V.take (k + 1) by
        have e : V[k] = turnB x (d : Int) := by simp only [HV.out.1, hx, lvs, List.getElem_map]
        rw [← List.take_append_getElem hlk, e])
      have HL := Lib.hid (refLeaf_any x (d : Int) wr)
      have hlen : (V.take k).length ≤ 100000 := by rw [List.length_take]; omega
      generalize turnB x (d : Int) = y at *
      clear hx hlk
      go_wp2_with (first
        | (go_at_call 92; refine HL.out.mono ?_; rintro e w2 ⟨rfl, hw2⟩; have hw2 := hw2.symm; subst hw2)
        | (at_builtin; refine append_num rfl _ _ rfl rfl rfl HO.out hlen HB.out.size ?_; intro v3 w3 ho3 hg3; have HO3 := Lib.hid ho3; have HG3 := Lib.hid hg3; clear ho3 hg3))
      go_roundw
      case rel => exact ⟨k + 1, hlt, by go_num, Lib.hid (by rw [← HE.out]; exact HO3.out), Lib.hid (HB.out.grown HG3.out HB.out.size (fun j e => row_low HO.out (Nat.le_refl _) j e))⟩
      case measure => simp [intOf] <;> omega
    · have h1 : ¬ (k : Int) < (P.length : Int) := by omega
      have HF := Lib.hid (show wr.ownsRow w.heap.size 22 1 u5 P.length (V.map encU) from by
        have := HO.out
        rwa [List.take_of_length_le (by rw [HV.out.2]; omega), HV.out.2] at this)
      go_wp2
      go_ret
      exact ⟨_, rfl, HF.out, HB.out⟩
end Go.Proofs.YtmnklonoelpidaaGreatDoor
/- The document's Element. -/
namespace Go.Proofs.YtmnklonoelpidaaGreatDoor
open Go.RowKit

theorem refElement_any (k : Nat) (d : Int) (w : World) : Calls Tryz.prog 79 #[.int .u64 (k : Int), .int .i64 d] w fun e w' => e = .returned (.int .u64 (turnB k d : Int)) ∧ w = w' := by
  have HC := Lib.hid (refTurned_any k d w)
  go_enter Tryz.func79, Tryz.ntmps79
  go_wp2_with (go_at_call 113; refine HC.out.mono ?_; rintro e w' ⟨rfl, rfl⟩)
  go_ret
  exact ⟨rfl, rfl⟩
end Go.Proofs.YtmnklonoelpidaaGreatDoor
/- The document's own digests of places, of the elements themselves. -/
namespace Go.Proofs.YtmnklonoelpidaaGreatDoor
open Go.RowKit

set_option maxRecDepth 100000 in
set_option maxHeartbeats 1000000 in
theorem rdigest_any (L : List (List UInt8)) (ao : Option Addr) (cp D0 : Nat) (hD0 : D0 ≤ 16) (hL : L.length ≤ 65536) (hl : ∀ i (h : i < L.length), L[i].length ≤ 10000000) : ∀ (l k : Nat) (w : World), Strs ao L w → (k + 1) * 2 ^ l ≤ 65536 →
    Calls Tryz.prog 45 #[.slice ao L.length cp, .int .i64 (D0 : Int), .int .i64 (l : Int), .int .u64 (k : Int)] w fun e w' => e = .returned (.string ⟨(dg (gl L (D0)) l k).toArray⟩) ∧ Below w.heap.size w w'
  | 0, k, w, hR, hk => by
    have hk2 : k < 65536 := by simp at hk; omega
    have HE := Lib.hid (fun w => refElement_any k (D0 : Int) w)
    have h0 : ¬ (0 : Int) < ((0 : Nat) : Int) := by omega
    have hS := hR
    have hu : IntKind.u64.wrap (L.length : Int) = (L.length : Int) := by rw [IntKind.wrap_u64]; omega
    by_cases hi : turnB k (D0 : Int) < L.length
    · have hg : dg (gl L (D0)) 0 k = hashL leafT [L[turnB k (D0 : Int)]] := dif_pos hi
      have HX : Hid (L[turnB k (D0 : Int)].length ≤ 10000000) := Lib.hid (hl _ hi)
      obtain ⟨b, o, rfl, hc⟩ := hS.cell _ hi
      rw [hg]
      generalize hX : L[turnB k (D0 : Int)] = X at *
      have HH := Lib.hid (fun w' hs' => refHash_any leafT (some ⟨w.heap.size, 0, none⟩) 1 [X] w' hs' (by decide) (Nat.lt_of_lt_of_le (framed_short leafT [X] (by decide) (by simpa using HX.out) (by simp)) (by decide)))
      have k0 : (0 : Int) ≤ (turnB k (D0 : Int) : Int) := by omega
      have k1 : (turnB k (D0 : Int) : Int) < (L.length : Int) := by omega
      have k2 : ¬ (L.length : Int) ≤ (turnB k (D0 : Int) : Int) := by omega
      clear hR hk hk2 hg hS hX
      generalize turnB k (D0 : Int) = j at *
      go_enter Tryz.func45, Tryz.ntmps45
      go_wp2_with (first | (go_at_call 79; refine (HE.out _).mono ?_; rintro e w' ⟨rfl, rfl⟩) | (go_at_call 76; refine (HH.out _ (strs_new w [X] _ rfl)).mono ?_; rintro e w1 ⟨rfl, hb1⟩))
      go_ret
      exact ⟨rfl, below_next (by0 w _) hb1⟩
    · have hg : dg (gl L (D0)) 0 k = hashL noneT [] := dif_neg hi
      have HH := Lib.hid (refHash_any noneT none 0 [] w (.inl rfl) (by decide) (by decide))
      have k2 : (L.length : Int) ≤ (turnB k (D0 : Int) : Int) := by omega
      rw [hg]
      clear hR hk hk2 hg hS
      generalize turnB k (D0 : Int) = j at *
      go_enter Tryz.func45, Tryz.ntmps45
      go_wp2_with (first | (go_at_call 79; refine (HE.out _).mono ?_; rintro e w' ⟨rfl, rfl⟩) | (go_at_call 76; refine HH.out.mono ?_; rintro e w1 ⟨rfl, hb1⟩))
      go_ret
      exact ⟨rfl, hb1⟩
  | l + 1, k, w, hR, hk => by
    have hk1 : (2 * k + 1) * 2 ^ l ≤ 65536 ∧ (2 * k + 1 + 1) * 2 ^ l ≤ 65536 ∧ k < 65536 := by
      obtain ⟨_, e2, e3, e4⟩ := kid_range l k
      have hp := Nat.two_pow_pos l
      refine ⟨by omega, by omega, ?_⟩
      have : 2 * k + 1 + 1 ≤ (2 * k + 1 + 1) * 2 ^ l := Nat.le_mul_of_pos_right _ hp
      omega
    have I1 := Lib.hid (fun w h => rdigest_any L ao cp D0 hD0 hL hl l (2 * k) w h hk1.1)
    have I2 := Lib.hid (fun w h => rdigest_any L ao cp D0 hD0 hL hl l (2 * k + 1) w h hk1.2.1)
    have hgl := gl_len L (D0)
    have hd1 := dg_len hgl l (2 * k)
    have hd2 := dg_len hgl l (2 * k + 1)
    have h0 : (0 : Int) < ((l + 1 : Nat) : Int) := by omega
    have e1 : ((l + 1 : Nat) : Int) - 1 = (l : Int) := by omega
    have hl16 : l < 65536 := by
      have h2 : l < 2 ^ l := Nat.lt_two_pow_self
      have : 2 ^ l ≤ (2 * k + 1) * 2 ^ l := Nat.le_mul_of_pos_left _ (by omega)
      omega
    have e2 : IntKind.i64.wrap (l : Int) = (l : Int) := by rw [IntKind.wrap_i64]; omega
    have e3 : IntKind.u64.wrap (2 * (k : Int)) = ((2 * k : Nat) : Int) := by rw [IntKind.wrap_u64]; omega
    have e4 : IntKind.u64.wrap (((2 * k : Nat) : Int) + 1) = ((2 * k + 1 : Nat) : Int) := by rw [IntKind.wrap_u64]; omega
    have HR := Lib.hid hR
    rw [show dg (gl L (D0)) (l + 1) k = hashL nodeT [dg (gl L (D0)) l (2 * k), dg (gl L (D0)) l (2 * k + 1)] from rfl]
    generalize dg (gl L (D0)) l (2 * k) = D1 at *
    generalize dg (gl L (D0)) l (2 * k + 1) = D2 at *
    have HH := Lib.hid (fun b w' hs' => refHash_any nodeT (some ⟨b, 0, none⟩) 2 [D1, D2] w' hs' (by decide) (Nat.lt_of_lt_of_le (framed_short nodeT [D1, D2] (by decide) (by intro z hz; simp at hz; rcases hz with rfl | rfl <;> omega) (by simp)) (by decide)))
    generalize hK1 : 2 * k + 1 = K1 at *
    generalize hK : 2 * k = K at *
    generalize hq : l + 1 = q at *
    clear hR hk hk1 hl16 hgl hd1 hd2 hK hK1
    go_enter Tryz.func45, Tryz.ntmps45
    go_upto_region 2 with fail
    go_wp2_with fail
    refine (I1.out _ HR.out).mono ?_
    rintro e w1 ⟨rfl, hb1⟩
    have HR1 := Lib.hid (HR.out.below (Nat.le_refl _) hb1)
    go_wp2_with fail
    refine (I2.out _ HR1.out).mono ?_
    rintro e w2 ⟨rfl, hb2⟩
    have HB2 := Lib.hid (below_next hb1 hb2)
    go_wp2_with fail
    refine (HH.out _ _ (strs_new w2 [D1, D2] _ rfl)).mono ?_
    rintro e w3 ⟨rfl, hb3⟩
    go_wp2
    go_ret
    exact ⟨rfl, below_next (below_alloc HB2.out _) hb3⟩
end Go.Proofs.YtmnklonoelpidaaGreatDoor
/- Prove where it refuses. -/
namespace Go.Proofs.YtmnklonoelpidaaGreatDoor
open Go.RowKit Go.Sort
attribute [local go_sem] Oper.semAt_some

end Go.Proofs.YtmnklonoelpidaaGreatDoor
/- The document's own Prove. -/
namespace Go.Proofs.YtmnklonoelpidaaGreatDoor
open Go.RowKit Go.Sort

theorem outs_rows {B d : Nat} {L : List Nat} {v : Value} {w : World} (h : Outs B L v d w) (hs : ∀ x ∈ L, x < 2 ^ d) : ∃ bo cp, v = .slice bo d cp ∧ Rows2 bo (needM L d) w := by
  obtain ⟨vs, Ms, hown, hMs, hrows⟩ := h
  have hvl : vs.length = d := by simpa using hown.1
  have hall : ∀ i N, Ms[i]? = some N → ∃ x, vs[i]? = some x ∧ w.ownsRow B 22 1 x N.length (N.map encU) ∧ Need (upTo L i) N := by
    intro i N hN'
    have hi := (List.getElem?_eq_some_iff.1 hN').1
    obtain ⟨x, hx⟩ : ∃ x, vs[i]? = some x := ⟨_, List.getElem?_eq_getElem (by omega)⟩
    exact ⟨x, hx, (hrows i x N hx hN').1, (hrows i x N hx hN').2.1⟩
  have hNd : Needs L d Ms := ⟨hMs, fun i N h => by obtain ⟨x, _, _, h3⟩ := hall i N h; exact h3⟩
  obtain rfl := hNd.eq (needs_M hs)
  have hown0 := hown
  rcases hown.2 with ⟨rfl, hd0⟩ | ⟨g, cp, cur, rfl, h1, h2, h3, h4, h5, h6⟩
  · exact ⟨none, 0, by rw [hd0], .inl (List.length_eq_zero_iff.1 (by omega))⟩
  · refine ⟨_, cp, rfl, .inr ⟨g, 0, rfl, fun i hi => ?_⟩⟩
    obtain ⟨x, hx, hrow, _⟩ := hall i (needM L d)[i] (List.getElem?_eq_getElem hi)
    obtain ⟨ai, ci, rfl, hn3, _⟩ := nums_of_row hrow
    refine ⟨ai, ci, ?_, hn3⟩
    rw [Nat.zero_add]
    exact (hown0.cellAt i (by omega)).trans hx
theorem append_text {ops : Array Oper} {rest : List Oper} {o : Oper} {a : Act} {Q : Exit → Act → World → Prop} {wr : World} {base : Nat} {X : List (List UInt8)} {v : Value} {c : (List UInt8)} (hgd : o.guard = none) (s x : Operand)
    (ho : o.op = .call { callee := .builtin .append, args := #[s, x], argTypes := #[41, 41] })
    (hs : a.eval s = v) (hx : a.eval x = .slice (some ⟨wr.heap.size, 0, none⟩) 1 1) (hown : wr.ownsRow base 9 1 v X.length (strC X)) (hn : X.length ≤ 100000) (h0 : base ≤ wr.heap.size)
    (h : ∀ v' w', w'.ownsRow base 9 1 v' (X ++ [c]).length (strC (X ++ [c])) → wr.grownBy w' v.ownBlock → wpList Tryz.prog ops Q rest (a.put o.dst v') w') :
    wpList Tryz.prog ops Q (o :: rest) a (wr.alloc (.cells #[.string ⟨c.toArray⟩] 9)) := by
  obtain ⟨i0, hi, hz0, hz1, hz2⟩ := info_parts info_str
  refine wpList_append_own _ hgd s x 41 ho base 9 i0 _ 1 16 Tryz.underlying41 hi hz0 hz1 hz2 rfl (by decide) v X.length _ hs (hown.alloc _) ⟨wr.heap.size, 0, none⟩ 1 1 [.string ⟨c.toArray⟩] hx rfl ?_ ?_ (by unfold maxLen; omega) (by omega) (by rw [World.size_alloc]; omega) ?_
  · exact cell_one_new _ _ _
  · intro u hu; simp at hu; subst hu; rfl
  · intro v' w' hown' hg _
    refine h v' w' (by simpa [strC] using hown') ?_
    exact ((World.grownBy_alloc wr _ none).but v.ownBlock).andThen hg fun j e => .inr e
theorem place_in {D i x : Nat} (hD : D ≤ 16) (hi : i < D) (hx : x < 2 ^ (D - i)) : (x + 1) * 2 ^ i ≤ 65536 := by
  have h1 : (x + 1) * 2 ^ i ≤ 2 ^ (D - i) * 2 ^ i := Nat.mul_le_mul_right _ hx
  rw [← Nat.pow_add, show D - i + i = D by omega] at h1
  have : 2 ^ D ≤ 2 ^ 16 := Nat.pow_le_pow_right (by decide) hD
  omega
set_option maxRecDepth 100000 in
set_option maxHeartbeats 2000000 in
theorem rprove_good (L : List (List UInt8)) (a0 : Option Addr) (c0 : Nat) (ao : Option Addr) (cap : Nat) (P : List Nat) (w : World) (hA : Strs a0 L w) (hN : Nums ao P w) (hP : P.length ≤ 1000) (hL : L.length ≤ 65536) (hl : ∀ i (h : i < L.length), L[i].length ≤ 10000000) (hs : standsP P L.length = true) :
    Calls Tryz.prog 56 #[.slice a0 L.length c0, .slice ao P.length cap] w fun e w' => ∃ v, e = .returned (.tuple #[v, .int .i64 0]) ∧ w'.ownsRow w.heap.size 9 1 v (proofD L P).length (strC (proofD L P)) ∧ Below w.heap.size w w' := by
  have hpp := stands_parts hs
  have hd16 := dep_le L.length hL
  have hLt : ∀ z ∈ lvs P (dep L.length), z < 2 ^ dep L.length := fun z hz => by
    obtain ⟨y, hy, rfl⟩ := List.mem_map.1 hz
    exact turnB_lt hd16 (Nat.lt_of_lt_of_le (hpp.2.2 y hy) (dep_spec L.length hL).1)
  have hle : sizeD P L.length ≤ 1000 * 16 := Nat.le_trans (sizeD_le hs hL) (Nat.mul_le_mul hP hd16)
  have HD := Lib.hid (fun wz => refDepth_any (L.length : Int) wz)
  rw [depthV, if_neg (by omega), Int.toNat_natCast] at HD
  have HS := Lib.hid (rmay_any ao cap P L.length w hN (by omega) (by omega))
  rw [hs] at HS
  have HL := Lib.hid (fun wz (h : Below w.heap.size w wz) => rleaves_any ao cap P (dep L.length) wz (nums_next hN h) (by omega))
  have hV0 : lvs P (dep L.length) ≠ [] := fun e => hpp.1 (List.map_eq_nil_iff.1 e)
  have HR := Lib.hid (fun bo cp wz (h : Nums bo (lvs P (dep L.length)) wz) => show Calls Tryz.prog 87 #[.slice bo P.length cp, .int .i64 (dep L.length : Int)] wz fun e w' => ∃ bo cp, e = .returned (.slice bo (dep L.length) cp) ∧ Rows2 bo (needM (lvs P (dep L.length)) (dep L.length)) w' ∧ Below wz.heap.size wz w' from by
    have h2 := refNeeds_any bo cp (lvs P (dep L.length)) (dep L.length) wz h (by simpa using hP) hV0 hd16 hLt
    rw [List.length_map] at h2
    exact h2.mono fun e w' ⟨v, h3, h4, h5⟩ => by
      obtain ⟨bo, cp, rfl, h6⟩ := outs_rows h4 hLt
      exact ⟨bo, cp, h3, h6, h5⟩)
  have HPM := Lib.hid (fun i => pre_mono (M := needM (lvs P (dep L.length)) (dep L.length)) (i := i) (j := dep L.length))
  have HPS := Lib.hid (fun i (h : i < (needM (lvs P (dep L.length)) (dep L.length)).length) => pre_succ h)
  have HPL := Lib.hid (fun i j (h : i < (needM (lvs P (dep L.length)) (dep L.length)).length) hj => pre_lt (j := j) h hj)
  have HML := Lib.hid (needM_len (lvs P (dep L.length)) (dep L.length))
  have HRL : Hid ((proofD L P).length = pre (needM (lvs P (dep L.length)) (dep L.length)) (dep L.length)) := Lib.hid (proofD_len L P)
  have HRG := Lib.hid (show ∀ i j (h : i < (needM (lvs P (dep L.length)) (dep L.length)).length) (hj : j < ((needM (lvs P (dep L.length)) (dep L.length))[i]).length), (proofD L P)[pre (needM (lvs P (dep L.length)) (dep L.length)) i + j]? = some (dg (gl L (dep L.length)) i (((needM (lvs P (dep L.length)) (dep L.length))[i])[j])) ∧ (((needM (lvs P (dep L.length)) (dep L.length))[i])[j] + 1) * 2 ^ i ≤ 65536 from fun i j h hj => by
    have hf := flat_get (needM (lvs P (dep L.length)) (dep L.length)) 0 i j h hj
    rw [Nat.zero_add] at hf
    refine ⟨by rw [proofD, List.getElem?_map, hf]; rfl, ?_⟩
    have hin := flat_in (List.mem_of_getElem? hf)
    exact place_in hd16 hin.1 hin.2)
  have HDG := Lib.hid (fun l k wz (hS : Strs a0 L wz) hk => rdigest_any L a0 c0 (dep L.length) hd16 hL hl l k wz hS hk)
  have HSZ : Hid (sizeD P L.length = pre (needM (lvs P (dep L.length)) (dep L.length)) (dep L.length)) := Lib.hid rfl
  have HA := Lib.hid hA
  have hlen : (lvs P (dep L.length)).length = P.length := by simp
  generalize needM (lvs P (dep L.length)) (dep L.length) = M at *
  generalize hVe : lvs P (dep L.length) = V at *
  generalize sizeD P L.length = sz at *
  generalize gl L (dep L.length) = g at *
  generalize dep L.length = d at *
  generalize proofD L P = R at *
  have HLE := Lib.hid hlen
  clear hN hs hpp hLt hV0 hP hVe hlen hA hl
  go_enter Tryz.func56, Tryz.ntmps56
  go_upto_region 4 with (first
    | (go_at_call 44; refine (HD.out _).mono ?_; rintro e w' ⟨rfl, rfl⟩)
    | (go_at_call 86; refine HS.out.mono ?_; rintro e w1 ⟨rfl, hb⟩; have HB := Lib.hid hb; clear hb))
  go_wp2_with (first
    | (go_at_call 88; refine (HL.out _ HB.out).mono ?_; rintro e w2 ⟨v, rfl, ho, hb2⟩; rw [← HLE.out] at ho; obtain ⟨bo, cp, rfl, hn2, _⟩ := nums_of_row ho; rw [HLE.out]; have HN2 := Lib.hid hn2; have HB2 := Lib.hid (HB.out.trans (hb2.mono HB.out.size)); clear ho hn2 hb2)
    | (go_at_call 87; refine (HR.out _ _ _ HN2.out).mono ?_; rintro e w3 ⟨b3, c3, rfl, hr, hb3⟩; have HRW := Lib.hid hr; have HB3 := Lib.hid (HB2.out.trans (hb3.mono HB2.out.size)); clear hr hb3))
  have HO0 := Lib.hid (World.ownsRow_nil w3 w3.heap.size 9 1)
  go_loopw [8, 9, 10] (fun v8 v9 v10 wr => ∃ i : Nat, i ≤ d ∧ v9 = .int .i64 (i : Int) ∧ Hid (wr.ownsRow w3.heap.size 9 1 v8 (R.take (pre M i)).length (strC (R.take (pre M i)))) ∧ Hid (Below w3.heap.size w3 wr)) (fun _ v9 _ _ => d - (intOf v9).toNat)
  case atStart => exact ⟨0, Nat.zero_le _, rfl, Lib.hid (by rw [pre_zero, List.take_zero]; exact HO0.out), Lib.hid (Below.refl _ _)⟩
  case round =>
    obtain ⟨i, hi, rfl, HO, HB4⟩ := hrel
    by_cases hid : i < d
    · have hl : (i : Int) < (d : Int) := by omega
      have i0 : (0 : Int) ≤ (i : Int) := by omega
      have hiM : i < M.length := by rw [HML.out]; exact hid
      have HP := Lib.hid (HPS.out i hiM)
      have HPLi := Lib.hid (fun j hj => HPL.out i j hiM hj)
      have HRGi := Lib.hid (fun j hj => HRG.out i j hiM hj)
      have hNe : ∃ N, N = M[i] := ⟨_, rfl⟩
      have hb2 := HPM.out (i + 1) (by omega) (by rw [HML.out]; exact Nat.le_refl _)
      rw [HP.out, ← HSZ.out] at hb2
      obtain ⟨N, hN⟩ := hNe
      have HNE := Lib.hid hN
      rw [← hN] at hb2 HP HPLi HRGi
      have p2 : (N.length : Int) ≤ 16000 := by omega
      clear hN hb2
      go_wp2
      go_loopw [8, 10] (fun v8 v10 wr2 => ∃ j : Nat, j ≤ N.length ∧ v10 = .int .i64 (j : Int) ∧ Hid (wr2.ownsRow w3.heap.size 9 1 v8 (R.take (pre M i + j)).length (strC (R.take (pre M i + j)))) ∧ Hid (Below w3.heap.size w3 wr2)) (fun _ v10 _ => N.length - (intOf v10).toNat)
      case atStart => exact ⟨0, Nat.zero_le _, rfl, HO, HB4⟩
      case round =>
        obtain ⟨j, hj, rfl, HO5, HB5⟩ := hrel
        obtain ⟨b1, o1, a1, c1, hbe, hc1, hn1⟩ := rows_at (rows_next HRW.out HB5.out) i hiM
        subst hbe
        rw [← HNE.out] at hc1 hn1
        by_cases hjl : j < N.length
        · have hl2 : (j : Int) < (N.length : Int) := by omega
          have j0 : (0 : Int) ≤ (j : Int) := by omega
          obtain ⟨b2, o2, hb2e, hc2⟩ := nums_at hn1 j hjl
          subst hb2e
          have hpl := HPLi.out j hjl
          have hrg := HRGi.out j hjl
          obtain ⟨x, hx⟩ : ∃ x, x = N[j] := ⟨_, rfl⟩
          rw [← hx] at hc2 hrg
          have HDX := Lib.hid (HDG.out i x wr (HA.out.below (Nat.le_refl _) (HB3.out.trans (HB5.out.mono HB3.out.size))) hrg.2)
          have HRT := Lib.hid (show R.take (pre M i + j) ++ [dg g i x] = R.take (pre M i + (j + 1)) by
            obtain ⟨h1, h2⟩ := List.getElem?_eq_some_iff.1 hrg.1
            rw [← Nat.add_assoc, ← List.take_append_getElem h1, h2])
          have hRn : (R.take (pre M i + j)).length ≤ 100000 := by
            rw [List.length_take, HRL.out, ← HSZ.out]; omega
          generalize dg g i x = X at *
          clear hx hrg hpl hn1
          go_wp2_with (first
            | (go_at_call 45; refine HDX.out.mono ?_; rintro e w5 ⟨rfl, hb5⟩; have HO6 := Lib.hid (own_kept HO5.out (kept_all hb5) (fun _ _ => trivial)); have HB6 := Lib.hid (HB5.out.trans (hb5.mono HB5.out.size)); clear hb5)
            | (at_builtin; refine append_text rfl _ _ rfl rfl rfl HO6.out hRn HB6.out.size ?_; intro v6 w6 ho6 hg6; have HO7 := Lib.hid ho6; have HG7 := Lib.hid hg6; clear ho6 hg6))
          go_roundw
          case rel => exact ⟨j + 1, hjl, by go_num, Lib.hid (by rw [← HRT.out]; exact HO7.out), Lib.hid (HB6.out.grown HG7.out HB6.out.size (fun k e => row_low HO6.out (Nat.le_refl _) k e))⟩
          case measure => simp [intOf] <;> omega
        · have hl2 : ¬ (j : Int) < (N.length : Int) := by omega
          have HO6 := Lib.hid (show wr.ownsRow w3.heap.size 9 1 u8 (R.take (pre M (i + 1))).length (strC (R.take (pre M (i + 1)))) from by
            have hjn : j = N.length := by omega
            rw [HP.out, ← hjn]; exact HO5.out)
          clear hn1
          go_wp2
          go_roundw
          case rel => exact ⟨i + 1, hid, by go_num, HO6, HB5⟩
          case measure => simp [intOf] <;> omega
    · have hl : ¬ (i : Int) < (d : Int) := by omega
      have HF := Lib.hid (show wr.ownsRow w3.heap.size 9 1 u8 R.length (strC R) from by
        have hie : i = d := by omega
        have := HO.out
        rwa [hie, ← HRL.out, List.take_length] at this)
      go_wp2
      exact bodyPost_ret (v := .tuple #[u8, .int .i64 0]) (by simp [results, Tryz.results56, go_sem]) rfl ⟨u8, rfl, row_base HF.out HB3.out.size, HB3.out.trans (HB4.out.mono HB3.out.size)⟩
end Go.Proofs.YtmnklonoelpidaaGreatDoor
/- Layer 11's document: Root and Check, whatever they are given. -/
namespace Go.Proofs.YtmnklonoelpidaaGreatDoor
open Go.RowKit Go.Sort

theorem iroot_any (n : Int) (P : List Nat) (E R : List (List UInt8)) (ao bo po : Option Addr) (ca cb cp : Nat) (w : World) (hP : Nums ao P w) (hE : Strs bo E w) (hR : Strs po R w) (hpn : P.length ≤ 1000) (hen : E.length ≤ 100000) (hcp : R.length ≤ cp) (hrn : R.length ≤ 100000) (he : ∀ i (h : i < E.length), E[i].length ≤ 10000000) (hr : ∀ i (h : i < R.length), R[i].length ≤ 1000000000) :
    Calls Tryz.prog 64 #[.int .i64 n, .slice ao P.length ca, .slice bo E.length cb, .slice po R.length cp] w fun e w' => e = .returned (.tuple #[.string ⟨(rootV n P E R).1.toArray⟩, .int .i64 (rootV n P E R).2]) ∧ Below w.heap.size w w' := by
  by_cases hb : mayP n P = false ∨ E.length ≠ P.length
  · rw [show rootV n P E R = ([], 2) from if_pos hb]
    exact iroot_bad n P E R ao bo po ca cb cp w hP hpn hen hb
  · have h1 : mayP n P = true := by
      cases h : mayP n P
      · exact absurd (.inl h) hb
      · rfl
    obtain ⟨k, rfl, hk, hs⟩ := may_parts h1
    exact iroot_may k P E R ao bo po ca cb cp w hP hE hR hpn hk hs (Classical.byContradiction fun h => hb (.inr h)) hcp hrn he hr
end Go.Proofs.YtmnklonoelpidaaGreatDoor
