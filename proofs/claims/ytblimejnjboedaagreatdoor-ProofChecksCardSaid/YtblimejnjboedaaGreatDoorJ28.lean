/- Layer 11's document: may positions be; places in a row; find; append of a place. -/
import Derived.Test.YtblimejnjboedaaGreatDoorJ19
import Derived.Test.YtblimejnjboedaaGreatDoorJ21
import Derived.Test.YtblimejnjboedaaGreatDoorJ27
import Derived.Test.YtblimejnjboedaaGreatDoorJ26
import Derived.Deep.AppendLies
namespace Go.Proofs.YtblimejnjboedaaGreatDoor
open Go.RowKit Go.Sort

set_option maxRecDepth 100000 in
set_option maxHeartbeats 1000000 in
theorem may11_in (ao : Option Addr) (cap : Nat) (P : List Nat) (n : Nat) (w : World) (hN : Nums ao P w) (hn : P.length ≤ 100000) (hnn : n ≤ 65536) :
    Calls Tryz.prog 18 #[.int .i64 (n : Int), .slice ao P.length cap] w fun e w' => e = .returned (.bool (standsP P n)) ∧ Below w.heap.size w w' := by
  have hwn : IntKind.u64.wrap (n : Int) = (n : Int) := by rw [IntKind.wrap_u64]; omega
  have HN := Lib.hid hN
  have n1 : (P.length : Int) ≤ 100000 := by omega
  have m0 : ¬ (n : Int) < 0 := by omega
  have m1 : ¬ (n : Int) > 65536 := by omega
  clear hN hnn
  go_enter Tryz.func18, Tryz.ntmps18
  go_wp2
  clear m0 m1
  go_loopw [5] (fun vi wr => ∃ i : Nat, vi = .int .i64 (i : Int) ∧ i ≤ P.length ∧ Hid (∀ t (h : t < P.length), t < i → P[t] < n) ∧ Hid (∀ t (h : t + 1 < P.length), t + 1 < i → P[t] < P[t + 1]) ∧ Hid (Below w.heap.size w wr)) (fun vi _ => P.length - (intOf vi).toNat)
  case atStart => exact ⟨0, rfl, Nat.zero_le _, Lib.hid (fun t _ h => by omega), Lib.hid (fun t _ h => by omega), Lib.hid (Below.refl _ _)⟩
  case round =>
    obtain ⟨i, rfl, hi, HA, HR, HB⟩ := hrel
    by_cases hie : i < P.length
    · have hl : (i : Int) < (P.length : Int) := by omega
      have i0 : (0 : Int) ≤ (i : Int) := by omega
      have HN2 := nums_next HN.out HB.out
      obtain ⟨b, off, rfl, hc⟩ := nums_at HN2 i hie
      obtain ⟨x, hx⟩ : ∃ x, x = P[i] := ⟨_, rfl⟩
      rw [← hx] at hc
      by_cases hge : n ≤ x
      · have hg : (x : Int) ≥ (n : Int) := by omega
        have q1 : decide (n ≤ x) = true := decide_eq_true hge
        have HS := Lib.hid (show standsP P n = false from decide_eq_false fun h => by have := h.2.2 x (by rw [hx]; exact List.getElem_mem hie); omega)
        clear hx hge HN2
        go_wp2
        go_quiet (fail)
        go_wp2
        go_ret
        exact ⟨by rw [HS.out]; trivial, HB.out.trans ⟨rfl, rfl, rfl, Nat.le_refl _, fun _ _ => rfl⟩⟩
      · have hg : ¬ (x : Int) ≥ (n : Int) := by omega
        have q1 : decide (n ≤ x) = false := decide_eq_false hge
        have HA2 := Lib.hid (show ∀ t (h : t < P.length), t < i + 1 → P[t] < n from fun t h ht => by
          by_cases c : t = i
          · subst c; rw [← hx]; omega
          · exact HA.out t h (by omega))
        by_cases hz : i = 0
        · have hp : ¬ (i : Int) > 0 := by omega
          have q2 : decide (0 < i) = false := decide_eq_false (by omega)
          have HR2 := Lib.hid (show ∀ t (h : t + 1 < P.length), t + 1 < i + 1 → P[t] < P[t + 1] from fun t _ h => by omega)
          clear hx hge hz HN2
          go_wp2
          go_quiet (fail)
          go_wp2
          go_roundw
          case rel => exact ⟨i + 1, by go_num, hie, HA2, HR2, Lib.hid (HB.out.trans ⟨rfl, rfl, rfl, Nat.le_refl _, fun _ _ => rfl⟩)⟩
          case measure => simp [intOf] <;> omega
        · have hp : (i : Int) > 0 := by omega
          have q2 : decide (0 < i) = true := decide_eq_true (by omega)
          obtain ⟨j, hj⟩ : ∃ j, j + 1 = i := ⟨i - 1, by omega⟩
          have hsub : (i : Int) - 1 = (j : Int) := by omega
          have hl2 : (j : Int) < (P.length : Int) := by omega
          have j0 : (0 : Int) ≤ (j : Int) := by omega
          have hjl : j < P.length := by omega
          obtain ⟨b', off', e, hc'⟩ := nums_at HN2 j hjl
          cases e
          obtain ⟨y, hy⟩ : ∃ y, y = P[j] := ⟨_, rfl⟩
          rw [← hy] at hc'
          have HQ := Lib.hid (show (y < x → ∀ t (h : t + 1 < P.length), t + 1 < i + 1 → P[t] < P[t + 1]) ∧ (¬ y < x → standsP P n = false) from ⟨fun h t ht hti => by
            by_cases c : t = j
            · subst c; subst hj; rw [← hx, ← hy]; exact h
            · exact HR.out t ht (by omega), fun h => decide_eq_false fun hp => h (by have := lt_adj hp.2.1 j (by omega); subst hj; rw [hx, hy]; exact this)⟩)
          by_cases hxy : y < x
          · have hle : ¬ (x : Int) ≤ (y : Int) := by omega
            have q3 : decide (x ≤ y) = false := decide_eq_false (by omega)
            have HR2 := Lib.hid (HQ.out.1 hxy)
            clear hx hy hge hz hj HN2 hxy HQ
            go_wp2
            go_quiet (fail)
            go_wp2
            go_roundw
            case rel => exact ⟨i + 1, by go_num, hie, HA2, HR2, Lib.hid (HB.out.trans ⟨rfl, rfl, rfl, Nat.le_refl _, fun _ _ => rfl⟩)⟩
            case measure => simp [intOf] <;> omega
          · have hle : (x : Int) ≤ (y : Int) := by omega
            have q3 : decide (x ≤ y) = true := decide_eq_true (by omega)
            have HS := Lib.hid (HQ.out.2 hxy)
            clear hx hy hge hz hj HN2 hxy HQ
            go_wp2
            go_quiet (fail)
            go_wp2
            go_ret
            exact ⟨by rw [HS.out]; trivial, HB.out.trans ⟨rfl, rfl, rfl, Nat.le_refl _, fun _ _ => rfl⟩⟩
    · have hl : ¬ (i : Int) < (P.length : Int) := by omega
      have HS := Lib.hid (show standsP P n = decide (0 < P.length) from decide_eq_decide.2 ⟨fun h => List.length_pos_iff.2 h.1, fun h => ⟨List.length_pos_iff.1 h, adj_lt fun t ht => HR.out t ht (by omega), fun x hx => by
        obtain ⟨t, ht, rfl⟩ := List.getElem_of_mem hx
        exact HA.out t ht (by omega)⟩⟩)
      go_wp2
      go_ret
      exact ⟨by rw [HS.out]; rfl, HB.out⟩
theorem may11_any (n : Int) (ao : Option Addr) (cap : Nat) (P : List Nat) (w : World) (hN : Nums ao P w) (hn : P.length ≤ 100000) :
    Calls Tryz.prog 18 #[.int .i64 n, .slice ao P.length cap] w fun e w' => e = .returned (.bool (mayP n P)) ∧ Below w.heap.size w w' := by
  by_cases h1 : n < 0
  · have HS := Lib.hid (show mayP n P = false by rw [mayP, decide_eq_false (by omega)]; rfl)
    go_enter Tryz.func18, Tryz.ntmps18
    go_wp2
    go_ret
    exact ⟨by rw [HS.out]; rfl, Below.refl _ _⟩
  · by_cases h2 : n > 65536
    · have HS := Lib.hid (show mayP n P = false by rw [mayP, decide_eq_false (by omega)]; rfl)
      go_enter Tryz.func18, Tryz.ntmps18
      go_wp2
      go_ret
      exact ⟨by rw [HS.out]; rfl, Below.refl _ _⟩
    · obtain ⟨k, rfl⟩ : ∃ k : Nat, n = (k : Int) := ⟨n.toNat, by omega⟩
      rw [mayP, decide_eq_true (by omega), Bool.true_and, Int.toNat_natCast]
      exact may11_in ao cap P k w hN hn (by omega)
/-- places, each with its digest, as cells -/
def plcC (A : List (Nat × (List UInt8))) : List Value := A.flatMap fun p => [.int .u64 (p.1 : Int), .string ⟨p.2.toArray⟩]
theorem plcC_len (A : List (Nat × (List UInt8))) : (plcC A).length = A.length * 2 := by
  induction A with
  | nil => rfl
  | cons a A ih => rw [plcC, List.flatMap_cons, List.length_append, ← plcC, ih, List.length_cons]; simp; omega
theorem plcC_app (A B : List (Nat × (List UInt8))) : plcC (A ++ B) = plcC A ++ plcC B := by simp [plcC]
theorem plcC_at : ∀ (A : List (Nat × (List UInt8))) (i : Nat) (h : i < A.length), (plcC A)[i * 2]? = some (.int .u64 ((A[i]).1 : Int)) ∧ (plcC A)[i * 2 + 1]? = some (.string ⟨(A[i]).2.toArray⟩)
  | a :: A, 0, _ => ⟨rfl, rfl⟩
  | a :: A, i + 1, h => by
    have := plcC_at A i (by simpa using h)
    rw [plcC, List.flatMap_cons, ← plcC, Nat.succ_mul]
    exact this
abbrev PlcRow (B : Nat) (A : List (Nat × (List UInt8))) (v : Value) (w : World) : Prop := w.ownsRow B 52 2 v A.length (plcC A)
theorem PlcRow.at_ {B : Nat} {A : List (Nat × (List UInt8))} {v : Value} {w : World} (h : PlcRow B A v w) : ∃ ao cp, v = .slice ao A.length cp ∧ ∀ i (hi : i < A.length), ∃ g, ao = some ⟨g, 0, none⟩ ∧ w.cell? ⟨g, i * 2, none⟩ = some (.int .u64 ((A[i]).1 : Int)) ∧ w.cell? ⟨g, i * 2 + 1, none⟩ = some (.string ⟨(A[i]).2.toArray⟩) := by
  have h0 := h
  rcases h.2 with ⟨rfl, hz⟩ | ⟨g, cp, cur, rfl, _⟩
  · exact ⟨none, 0, by rw [hz], fun i hi => by omega⟩
  · exact ⟨_, cp, rfl, fun i hi => ⟨g, rfl, (h0.cellAt (i * 2) (by omega)).trans (plcC_at A i hi).1, (h0.cellAt (i * 2 + 1) (by omega)).trans (plcC_at A i hi).2⟩⟩
set_option maxRecDepth 100000 in
set_option maxHeartbeats 1000000 in
theorem find_any (B : Nat) (A : List (Nat × (List UInt8))) (v : Value) (x : Nat) (w : World) (h : PlcRow B A v w) (hn : A.length ≤ 1000000) :
    Calls Tryz.prog 23 #[v, .int .u64 (x : Int)] w fun e w' => e = .returned (.string ⟨(findP A x).toArray⟩) ∧ w = w' := by
  obtain ⟨ao, cp, rfl, hc⟩ := h.at_
  have HC := Lib.hid hc
  have n1 : (A.length : Int) ≤ 1000000 := by omega
  clear h hc
  go_enter Tryz.func23, Tryz.ntmps23
  go_wp2
  go_loopw [5] (fun vi wr => ∃ i : Nat, vi = .int .i64 (i : Int) ∧ i ≤ A.length ∧ Hid (findP A x = findP (A.drop i) x) ∧ w = wr) (fun vi _ => A.length - (intOf vi).toNat)
  case atStart => exact ⟨0, rfl, Nat.zero_le _, Lib.hid rfl, rfl⟩
  case round =>
    obtain ⟨i, rfl, hi, HF, rfl⟩ := hrel
    by_cases hie : i < A.length
    · have hl : (i : Int) < (A.length : Int) := by omega
      have i0 : (0 : Int) ≤ (i : Int) := by omega
      obtain ⟨g, rfl, c1, c2⟩ := HC.out i hie
      have hd := List.drop_eq_getElem_cons hie
      obtain ⟨a, ha⟩ : ∃ a, a = A[i] := ⟨_, rfl⟩
      rw [← ha] at c1 c2 hd
      obtain ⟨k, t⟩ := a
      simp only at c1 c2
      by_cases he : k = x
      · subst he
        have HE := Lib.hid (show findP A k = t by rw [HF.out, hd, findP, if_pos rfl])
        have hq : ((k : Int) == (k : Int)) = true := by simp
        clear ha hd
        go_wp2
        go_ret
        exact ⟨by rw [HE.out]; rfl, rfl⟩
      · have HE := Lib.hid (show findP A x = findP (A.drop (i + 1)) x by rw [HF.out, hd, findP, if_neg he])
        have hq : ((k : Int) == (x : Int)) = false := by rw [beq_eq_false_iff_ne]; omega
        clear ha hd he
        go_wp2
        go_roundw
        case rel => exact ⟨i + 1, by go_num, hie, HE, trivial⟩
        case measure => simp [intOf] <;> omega
    · have hl : ¬ (i : Int) < (A.length : Int) := by omega
      have HE := Lib.hid (show findP A x = [] by rw [HF.out, List.drop_eq_nil_of_le (by omega)]; rfl)
      go_wp2
      go_ret
      exact ⟨by rw [HE.out]; rfl, rfl⟩
theorem infoPl : (Tryz.prog.info? 52).map (fun i => (i.zero, i.size, i.bytes)) = some (some (.agg #[.int .u64 0, .string ⟨#[]⟩]), 2, 24) := by kernel_rfl
end Go.Proofs.YtblimejnjboedaaGreatDoor
/- Layer 11's document: rows that grow beside one another; what comes of a proof. -/
namespace Go.Proofs.YtblimejnjboedaaGreatDoor
open Go.RowKit Go.Sort

theorem own_apart2 {w : World} {b1 b2 e1 e2 s1 s2 n m : Nat} {v x : Value} {xs ys : List Value} (h : w.ownsRow b1 e1 s1 v n xs) (k : w.ownsRow b2 e2 s2 x m ys) (hne : e1 ≠ e2) : x.ownBlock = none ∨ x.ownBlock ≠ v.ownBlock := by
  rcases k.2 with ⟨rfl, _⟩ | ⟨g, cap, cur, rfl, _, hg, _⟩
  · exact .inl rfl
  · refine .inr fun e => ?_
    rcases h.2 with ⟨rfl, _⟩ | ⟨g2, cap2, cur2, rfl, _, hg2, _⟩
    · cases e
    · cases e
      rw [hg] at hg2
      cases hg2
      exact hne rfl
theorem plc_next {B : Nat} {A : List (Nat × (List UInt8))} {v : Value} {w w' : World} (h : PlcRow B A v w) (hb : Below w.heap.size w w') : PlcRow B A v w' := by
  refine ⟨h.1, ?_⟩
  rcases h.2 with h | ⟨g, cap, cur, h0, h1, h2, h3⟩
  · exact .inl h
  · exact .inr ⟨g, cap, cur, h0, h1, (hb.block g (Array.getElem?_eq_some_iff.1 h2).1).trans h2, h3⟩
theorem plc_low {B Z : Nat} {A : List (Nat × (List UInt8))} {v : Value} {w : World} (h : PlcRow Z A v w) (hB : B ≤ Z) : PlcRow B A v w := by
  refine ⟨h.1, ?_⟩
  rcases h.2 with h | ⟨g, cap, cur, h0, h1, h2⟩
  · exact .inl h
  · exact .inr ⟨g, cap, cur, h0, Nat.le_trans hB h1, h2⟩
theorem plc_lt {B : Nat} {A : List (Nat × (List UInt8))} {v : Value} {w : World} (h : PlcRow B A v w) : ∀ b, v.ownBlock = some b → B ≤ b ∧ b < w.heap.size := by
  intro b hb
  rcases h.2 with ⟨rfl, _⟩ | ⟨g, cap, cur, rfl, h1, h2, _⟩
  · cases hb
  · cases hb; exact ⟨h1, (Array.getElem?_eq_some_iff.1 h2).1⟩
theorem plc_nil (B : Nat) (w : World) : PlcRow B [] (.slice none 0 0) w := World.ownsRow_nil _ _ _ _
/-- append of one place -/
theorem append_plc {ops : Array Oper} {rest : List Oper} {o : Oper} {a : Act} {Q : Exit → Act → World → Prop} {wr : World} {base : Nat} {A : List (Nat × (List UInt8))} {v : Value} {k : Nat} {t : (List UInt8)} (hgd : o.guard = none) (s x : Operand)
    (ho : o.op = .call { callee := .builtin .append, args := #[s, x], argTypes := #[48, 48] })
    (hs : a.eval s = v) (hx : a.eval x = .slice (some ⟨wr.heap.size, 0, none⟩) 1 1) (hown : PlcRow base A v wr) (hn : A.length ≤ 1000000) (h0 : base ≤ wr.heap.size)
    (h : ∀ v' w', PlcRow base (A ++ [(k, t)]) v' w' → wr.grownBy w' v.ownBlock → wpList Tryz.prog ops Q rest (a.put o.dst v') w') :
    wpList Tryz.prog ops Q (o :: rest) a (wr.alloc (.cells #[.int .u64 (k : Int), .string ⟨t.toArray⟩] 52)) := by
  obtain ⟨i0, hi, hz0, hz1, hz2⟩ := info_parts infoPl
  refine wpList_append_own _ hgd s x 48 ho base 52 i0 (.agg #[.int .u64 0, .string ⟨#[]⟩]) 2 24 Tryz.underlying48 hi hz0 hz1 hz2 rfl (by decide) v A.length _ hs (hown.alloc _) ⟨wr.heap.size, 0, none⟩ 1 1 [.int .u64 (k : Int), .string ⟨t.toArray⟩] hx rfl ?_ ?_ (by unfold maxLen; omega) (by omega) (by rw [World.size_alloc]; omega) ?_
  · intro j u hu
    match j, hu with
    | 0, hu => cases hu; simp [Addr.add]
    | 1, hu => cases hu; simp [Addr.add]
    | j + 2, hu => simp at hu
  · intro u hu
    simp at hu
    rcases hu with rfl | rfl <;> rfl
  · intro v' w' hown' hg _
    refine h v' w' (by rw [PlcRow, plcC_app, List.length_append]; exact hown') ?_
    exact ((World.grownBy_alloc wr _ none).but v.ownBlock).andThen hg fun j e => .inr e
theorem leaf_rat (X : (List UInt8)) (wz : World) (sz : Nat) (hz : sz = wz.heap.size) (hX : X.length ≤ 10000000) : Calls Tryz.prog 21 #[.string ⟨#[108, 101, 97, 102]⟩, .slice (some ⟨sz, 0, none⟩) 1 1] (wz.alloc (.cells #[.string ⟨X.toArray⟩] 9)) fun e w' => e = .returned (.string ⟨(hashL leafT [X]).toArray⟩) ∧ Below wz.heap.size wz w' := by
  subst hz
  refine (refHash_any leafT (some ⟨wz.heap.size, 0, none⟩) 1 [X] _ (strs_new wz [X] _ rfl) (by decide) (Nat.lt_of_lt_of_le (framed_short leafT [X] (by decide) (by simpa using hX) (by simp)) (by decide))).mono ?_
  rintro e w' ⟨h1, h2⟩
  exact ⟨h1, below_next (by0 wz _) h2⟩
theorem node_rat (wz : World) (A B : (List UInt8)) (sz : Nat) (hz : sz = wz.heap.size) (hA : A.length ≤ 32) (hB : B.length ≤ 32) : Calls Tryz.prog 21 #[.string ⟨#[110, 111, 100, 101]⟩, .slice (some ⟨sz, 0, none⟩) 2 2] (wz.alloc (.cells #[.string ⟨A.toArray⟩, .string ⟨B.toArray⟩] 9)) fun e w' => e = .returned (.string ⟨(hashL nodeT [A, B]).toArray⟩) ∧ Below wz.heap.size wz w' := by
  subst hz
  refine (refHash_any nodeT (some ⟨wz.heap.size, 0, none⟩) 2 [A, B] _ (strs_new wz [A, B] _ rfl) (by decide) (Nat.lt_of_lt_of_le (framed_short nodeT [A, B] (by decide) (by intro z hz; simp at hz; rcases hz with rfl | rfl <;> omega) (by simp)) (by decide))).mono ?_
  rintro e w' ⟨h1, h2⟩
  exact ⟨h1, below_next (by0 wz _) h2⟩
/-- the rows of what is needed, read -/
theorem Outs.rows {B d : Nat} {L : List Nat} {v : Value} {w : World} (h : Outs B L v d w) (hL : ∀ x ∈ L, x < 2 ^ d) : ∃ ao cp, v = .slice ao d cp ∧ Rows2 ao (needM L d) w := by
  obtain ⟨vs, Ms, h1, h2, h3⟩ := h
  have hvl : vs.length = d := by simpa using h1.1
  have hNd : Needs L d Ms := ⟨h2, fun i N hN => by
    have hi := (List.getElem?_eq_some_iff.1 hN).1
    obtain ⟨x, hx⟩ : ∃ x, vs[i]? = some x := ⟨_, List.getElem?_eq_getElem (by omega)⟩
    exact (h3 i x N hx hN).2.1⟩
  obtain rfl := hNd.eq (needs_M hL)
  have h0 := h1
  rcases h1.2 with ⟨rfl, hd0⟩ | ⟨g, cp, cur, rfl, _⟩
  · exact ⟨none, 0, by rw [hd0], .inl (List.length_eq_zero_iff.1 (by omega))⟩
  · refine ⟨_, cp, rfl, .inr ⟨g, 0, rfl, fun i hi => ?_⟩⟩
    obtain ⟨x, hx⟩ : ∃ x, vs[i]? = some x := ⟨_, List.getElem?_eq_getElem (by omega)⟩
    obtain ⟨ai, ci, rfl, hn, _⟩ := nums_of_row (h3 i x _ hx (List.getElem?_eq_getElem hi)).1
    exact ⟨ai, ci, by rw [Nat.zero_add]; exact (h0.cellAt i (by omega)).trans hx, hn⟩
theorem Outs.rows_at {B d : Nat} {L : List Nat} {ao : Option Addr} {cp : Nat} {w : World} (h : Outs B L (.slice ao d cp) d w) (hL : ∀ x ∈ L, x < 2 ^ d) : Rows2 ao (needM L d) w := by
  obtain ⟨a, c, e, hr⟩ := h.rows hL
  cases e
  exact hr
theorem Outs.low {B Z i : Nat} {L : List Nat} {v : Value} {w : World} (h : Outs Z L v i w) (hB : B ≤ Z) : Outs B L v i w := by
  obtain ⟨vs, Ms, h1, h2, h3⟩ := h
  exact ⟨vs, Ms, row_base h1 hB, h2, fun j x N hx hN => ⟨row_base (h3 j x N hx hN).1 hB, (h3 j x N hx hN).2⟩⟩
theorem Outs.beside {B B' i : Nat} {L : List Nat} {v x : Value} {A : List (Nat × (List UInt8))} {w w' : World} (h : Outs B L v i w) (k : PlcRow B' A x w) (hg : w.grownBy w' x.ownBlock) : Outs B L v i w' := by
  obtain ⟨vs, Ms, h1, h2, h3⟩ := h
  exact ⟨vs, Ms, h1.kept hg (own_apart2 k h1 (by decide)), h2, fun j z N hz hN => ⟨(h3 j z N hz hN).1.kept hg (own_apart2 k (h3 j z N hz hN).1 (by decide)), (h3 j z N hz hN).2⟩⟩
end Go.Proofs.YtblimejnjboedaaGreatDoor
