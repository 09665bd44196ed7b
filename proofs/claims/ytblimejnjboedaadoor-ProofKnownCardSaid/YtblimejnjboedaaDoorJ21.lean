/- Layer 11's answers, plainly. -/
import Derived.Test.YtblimejnjboedaaDoorJ20
import Derived.Test.YtblimejnjboedaaDoorJ19
import Derived.Test.YtblimejnjboedaaDoorJ9
namespace Go.Proofs.YtblimejnjboedaaDoor
open Go.RowKit Go.Sort

/-- have all of them 32 bytes? -/
def all32 (L : List (List UInt8)) : Bool := decide (∀ x ∈ L, x.length = 32)
/-- what is wrong with so many digests, where t are needed -/
def sizeE (z t : Nat) : Int := if z < t then 4 else if t < z then 3 else 0
/-- may positions be, of so many elements? -/
def mayP (n : Int) (P : List Nat) : Bool := decide (0 ≤ n ∧ n ≤ 65536) && standsP P n.toNat
theorem may_parts {n : Int} {P : List Nat} (h : mayP n P = true) : ∃ k : Nat, n = (k : Int) ∧ k ≤ 65536 ∧ standsP P k = true := by
  unfold mayP at h
  rw [Bool.and_eq_true, decide_eq_true_eq] at h
  exact ⟨n.toNat, by omega, by omega, h.2⟩
/-- the digest of what stands at a leaf -/
def leafF (P : List Nat) (E : List (List UInt8)) (D x : Nat) : (List UInt8) := hashL leafT [E[P.idxOf (turnB x (D : Int))]?.getD []]
theorem leafF_at {P : List Nat} {E : List (List UInt8)} {n : Nat} (hs : standsP P n = true) (hn : n ≤ 65536) (i : Nat) (h : i < P.length) (h' : i < E.length) : leafF P E (dep n) (turnB P[i] (dep n : Int)) = hashL leafT [E[i]] := by
  have hp := stands_parts hs
  have hd : P.Nodup := hp.2.1.imp fun h => Nat.ne_of_lt h
  rw [leafF, turnB_turnB (dep_le n hn) (Nat.lt_of_lt_of_le (hp.2.2 _ (List.getElem_mem h)) (dep_spec n hn).1), hd.idxOf_getElem i h, List.getElem?_eq_getElem h']
  rfl
theorem lvs_lt {P : List Nat} {n : Nat} (hs : standsP P n = true) (hn : n ≤ 65536) : ∀ x ∈ lvs P (dep n), x < 2 ^ dep n := by
  intro x hx
  obtain ⟨y, hy, rfl⟩ := List.mem_map.1 hx
  exact turnB_lt (dep_le n hn) (Nat.lt_of_lt_of_le ((stands_parts hs).2.2 y hy) (dep_spec n hn).1)
/-- the root that comes, or nothing; and what is wrong -/
def rootV (n : Int) (P : List Nat) (E R : List (List UInt8)) : (List UInt8) × Int :=
  if mayP n P = false ∨ E.length ≠ P.length then ([], 2)
  else if all32 R = false then ([], 5)
  else if sizeE R.length (sizeD P n.toNat) ≠ 0 then ([], sizeE R.length (sizeD P n.toNat))
  else (comesD (lvs P (dep n.toNat)) (dep n.toNat) R (leafF P E (dep n.toNat)), 0)
/-- what Check answers -/
def checkV (root : (List UInt8)) (n : Int) (P : List Nat) (E R : List (List UInt8)) : Int := if (rootV n P E R).2 ≠ 0 then (rootV n P E R).2 else if (rootV n P E R).1 = root then 0 else 20
theorem sizeE_zero {z t : Nat} : sizeE z t = 0 ↔ z = t := by
  unfold sizeE
  split
  · constructor <;> intro h <;> omega
  · split
    · constructor <;> intro h <;> omega
    · constructor <;> intro h <;> omega
theorem all32_at {R : List (List UInt8)} (h : all32 R = true) : ∀ x ∈ R, x.length = 32 := of_decide_eq_true h
/-- the digests beside -/
theorem given_len {M : List (List Nat)} {R : List (List UInt8)} (h : all32 R = true) (i x : Nat) : (givenD M R i x).length ≤ 32 := by
  unfold givenD
  cases hx : R[pre M i + (M[i]?.getD []).idxOf x]? with
  | none => simp
  | some t => rw [Option.getD_some, all32_at h t (List.mem_of_getElem? hx)]; exact Nat.le_refl _
theorem leafF_len (P : List Nat) (E : List (List UInt8)) (D x : Nat) : (leafF P E D x).length ≤ 32 := hashL_len _ _
theorem known_len {LV : List Nat} {D : Nat} {R : List (List UInt8)} {f : Nat → (List UInt8)} (hf : ∀ x, (f x).length ≤ 32) : ∀ i x, (knownD LV D R f i x).length ≤ 32
  | 0, x => hf x
  | _ + 1, _ => hashL_len _ _
theorem drop_cons {R : List (List UInt8)} {k : Nat} (h : k < R.length) : ∃ X, R.drop k = X :: R.drop (k + 1) ∧ R[k]? = some X := ⟨R[k], List.drop_eq_getElem_cons h, List.getElem?_eq_getElem h⟩
theorem zip_take {N : List Nat} {Q : List (List UInt8)} {j x : Nat} {X : (List UInt8)} (h1 : N[j]? = some x) (h2 : Q[j]? = some X) : (N.zip Q).take j ++ [(x, X)] = (N.zip Q).take (j + 1) := by
  obtain ⟨a1, rfl⟩ := List.getElem?_eq_some_iff.1 h1
  obtain ⟨a2, rfl⟩ := List.getElem?_eq_some_iff.1 h2
  have h : j < (N.zip Q).length := by rw [List.length_zip]; omega
  rw [← List.take_append_getElem h, List.getElem_zip]
theorem lev_len {LV : List Nat} {D i : Nat} {A : List (Nat × (List UInt8))} {R : List (List UInt8)} (hn : LV.length ≤ 1000) (hLV : ∀ z ∈ LV, z < 2 ^ D) (hi : i < D) (hA : A.length ≤ 1000 * (i + 1)) : (A ++ (needOf (upTo LV i) (2 ^ (D - i))).zip (R.drop (pre (needM LV D) i))).length ≤ 1000 * (i + 2) := by
  have h1 := need_le ((needs_M hLV).2 i _ (needM_at hi))
  have h2 : (upTo LV i).length = LV.length := by simp [upTo]
  rw [List.length_append, List.length_zip]
  omega
/-- small places, short digests -/
def GoodP (A : List (Nat × (List UInt8))) : Prop := ∀ a ∈ A, a.1 < 131072 ∧ a.2.length ≤ 32
theorem find_len {A : List (Nat × (List UInt8))} (h : GoodP A) (x : Nat) : (findP A x).length ≤ 32 := by
  induction A with
  | nil => simp [findP]
  | cons a A ih =>
    rw [findP]
    split
    · exact (h a (by simp)).2
    · exact ih fun b hb => h b (by simp [hb])
theorem good_over {A : List (Nat × (List UInt8))} (h : GoodP A) : ∀ j, GoodP (overP A j)
  | 0 => fun a ha => by simp [overP] at ha
  | j + 1 => by
    have ih := good_over h j
    rw [overP]
    cases hj : A[j]? with
    | none => exact ih
    | some a =>
      simp only [overStep]
      split
      · intro b hb
        rcases List.mem_append.1 hb with hb | hb
        · exact ih b hb
        · simp at hb
          subst hb
          have := (h a (List.mem_of_getElem? hj)).1
          exact ⟨by show a.1 / 2 < _; omega, by show (hashL nodeT _).length ≤ 32; exact hashL_len _ _⟩
      · exact ih
theorem good_zip {A : List (Nat × (List UInt8))} {N : List Nat} {Q : List (List UInt8)} (h : GoodP A) (hN : ∀ x ∈ N, x < 131072) (hQ : ∀ x ∈ Q, x.length = 32) : GoodP (A ++ N.zip Q) := by
  intro a ha
  rcases List.mem_append.1 ha with ha | ha
  · exact h a ha
  · obtain ⟨h1, h2⟩ := List.of_mem_zip (show (a.1, a.2) ∈ N.zip Q from ha)
    exact ⟨hN _ h1, Nat.le_of_eq (hQ _ h2)⟩
theorem over_hit {A : List (Nat × (List UInt8))} {t : Nat} (h : t < A.length) (hf : findP (overP A t) (A[t].1 / 2) = []) : overP A (t + 1) = overP A t ++ [(A[t].1 / 2, hashL nodeT [findP A (2 * (A[t].1 / 2)), findP A (2 * (A[t].1 / 2) + 1)])] := by
  rw [overP, List.getElem?_eq_getElem h]
  exact if_pos hf
theorem over_miss {A : List (Nat × (List UInt8))} {t : Nat} (h : t < A.length) (hf : findP (overP A t) (A[t].1 / 2) ≠ []) : overP A (t + 1) = overP A t := by
  rw [overP, List.getElem?_eq_getElem h]
  exact if_neg hf
end Go.Proofs.YtblimejnjboedaaDoor
/- Layer 11's small functions: do positions stand, is a text no digest, leaves, how many digests are needed. -/
namespace Go.Proofs.YtblimejnjboedaaDoor
open Go.RowKit Go.Sort

set_option maxRecDepth 100000 in
set_option maxHeartbeats 1000000 in
theorem ostand_any (ao : Option Addr) (cap : Nat) (P : List Nat) (n : Nat) (w : World) (hN : Nums ao P w) (hn : P.length ≤ 100000) (hnn : n ≤ 1000000) :
    Calls Tryd.prog 14 #[.slice ao P.length cap, .int .i64 (n : Int)] w fun e w' => e = .returned (.bool (standsP P n)) ∧ w = w' := by
  have hwn : IntKind.u64.wrap (n : Int) = (n : Int) := by rw [IntKind.wrap_u64]; omega
  have HN := Lib.hid hN
  have n1 : (P.length : Int) ≤ 100000 := by omega
  clear hN hnn
  go_enter Tryd.func14, Tryd.ntmps14
  go_wp2
  go_loopw [5, 6, 9] (fun _ _ vi wr => ∃ i : Nat, vi = .int .i64 (i : Int) ∧ i ≤ P.length ∧ Hid (∀ t (h : t < P.length), t < i → P[t] < n) ∧ Hid (∀ t (h : t + 1 < P.length), t + 1 < i → P[t] < P[t + 1]) ∧ w = wr) (fun _ _ vi _ => P.length - (intOf vi).toNat)
  case atStart => exact ⟨0, rfl, Nat.zero_le _, Lib.hid (fun t _ h => by omega), Lib.hid (fun t _ h => by omega), rfl⟩
  case round =>
    obtain ⟨i, rfl, hi, HA, HR, rfl⟩ := hrel
    by_cases hie : i < P.length
    · have hl : (i : Int) < (P.length : Int) := by omega
      have i0 : (0 : Int) ≤ (i : Int) := by omega
      have HN2 := HN.out
      obtain ⟨b, off, rfl, hc⟩ := nums_at HN2 i hie
      obtain ⟨x, hx⟩ : ∃ x, x = P[i] := ⟨_, rfl⟩
      rw [← hx] at hc
      by_cases hge : n ≤ x
      · have hg : (x : Int) ≥ (n : Int) := by omega
        have HS := Lib.hid (show standsP P n = false from decide_eq_false fun h => by have := h.2.2 x (by rw [hx]; exact List.getElem_mem hie); omega)
        clear hx hge HN2
        go_wp2
        go_ret
        exact ⟨by rw [HS.out]; trivial, rfl⟩
      · have hg : ¬ (x : Int) ≥ (n : Int) := by omega
        have HA2 := Lib.hid (show ∀ t (h : t < P.length), t < i + 1 → P[t] < n from fun t h ht => by
          by_cases c : t = i
          · subst c; rw [← hx]; omega
          · exact HA.out t h (by omega))
        by_cases hz : i = 0
        · have hp : ¬ (i : Int) > 0 := by omega
          have HR2 := Lib.hid (show ∀ t (h : t + 1 < P.length), t + 1 < i + 1 → P[t] < P[t + 1] from fun t _ h => by omega)
          clear hx hge hz HN2
          go_wp2
          go_roundw
          case rel => exact ⟨i + 1, by go_num, hie, HA2, HR2, trivial⟩
          case measure => simp [intOf] <;> omega
        · have hp : (i : Int) > 0 := by omega
          obtain ⟨j, hj⟩ : ∃ j, j + 1 = i := ⟨i - 1, by omega⟩
          have hsub : (i : Int) - 1 = (j : Int) := by omega
          have hl2 : (j : Int) < (P.length : Int) := by omega
          have j0 : (0 : Int) ≤ (j : Int) := by omega
          have hjl : j < P.length := by omega
          obtain ⟨b', off', e, hc'⟩ := nums_at HN2 j hjl
          cases e
          obtain ⟨y, hy⟩ : ∃ y, y = P[j] := ⟨_, rfl⟩
          rw [← hy] at hc'
          have HQ := Lib.hid (show (y < x → ∀ t (h : t + 1 < P.length), t + 1 < i + 1 → P[t] < P[t + 1]) ∧ (¬ y < x → standsP P n = false) from ⟨fun h t ht hti => by
            by_cases c : t = j
            · subst c; subst hj; rw [← hx, ← hy]; exact h
            · exact HR.out t ht (by omega), fun h => decide_eq_false fun hp => h (by have := lt_adj hp.2.1 j (by omega); subst hj; rw [hx, hy]; exact this)⟩)
          by_cases hxy : y < x
          · have hle : ¬ (x : Int) ≤ (y : Int) := by omega
            have HR2 := Lib.hid (HQ.out.1 hxy)
            clear hx hy hge hz hj HN2 hxy HQ
            go_wp2
            go_roundw
            case rel => exact ⟨i + 1, by go_num, hie, HA2, HR2, trivial⟩
            case measure => simp [intOf] <;> omega
          · have hle : (x : Int) ≤ (y : Int) := by omega
            have HS := Lib.hid (HQ.out.2 hxy)
            clear hx hy hge hz hj HN2 hxy HQ
            go_wp2
            go_ret
            exact ⟨by rw [HS.out]; trivial, rfl⟩
    · have hl : ¬ (i : Int) < (P.length : Int) := by omega
      have HS := Lib.hid (show standsP P n = decide (0 < P.length) from decide_eq_decide.2 ⟨fun h => List.length_pos_iff.2 h.1, fun h => ⟨List.length_pos_iff.1 h, adj_lt fun t ht => HR.out t ht (by omega), fun x hx => by
        obtain ⟨t, ht, rfl⟩ := List.getElem_of_mem hx
        exact HA.out t ht (by omega)⟩⟩)
      go_wp2
      go_ret
      exact ⟨by rw [HS.out]; rfl, rfl⟩
theorem isno_any (x : (List UInt8)) (w : World) (_ : x.length ≤ 1000000000) : Calls Tryd.prog 16 #[.string ⟨x.toArray⟩] w fun e w' => e = .returned (.bool (decide (x.length ≠ 32))) ∧ w = w' := by
  have HE := Lib.hid (show decide (x.length ≠ 32) = ((x.length : Int) != 32) by
    by_cases h : x.length = 32
    · simp [h]
    · have : (x.length : Int) ≠ 32 := by omega
      simp [h, this])
  go_enter Tryd.func16, Tryd.ntmps16
  go_wp2
  go_ret
  exact ⟨by rw [HE.out]; rfl, rfl⟩
set_option maxRecDepth 100000 in
set_option maxHeartbeats 1000000 in
theorem oindex_any (ao : Option Addr) (cap : Nat) (L : List (List UInt8)) (w : World) (hN : Strs ao L w) (hn : L.length ≤ 100000) (hl : ∀ i (h : i < L.length), L[i].length ≤ 1000000000) :
    Calls Tryd.prog 32 #[.slice ao L.length cap, .func (.func 16) #[] #[]] w fun e w' => ∃ r : Int, e = .returned (.int .i64 r) ∧ (0 ≤ r ↔ ∃ x ∈ L, x.length ≠ 32) ∧ w = w' := by
  have HN := Lib.hid hN
  have HL := Lib.hid hl
  have n1 : (L.length : Int) ≤ 100000 := by omega
  clear hN hl
  go_enter Tryd.func32, Tryd.ntmps32
  go_wp2
  go_loopw [5, 8] (fun _ i wr => ∃ k : Nat, k ≤ L.length ∧ i = .int .i64 (k : Int) ∧ Hid (∀ x ∈ L.take k, x.length = 32) ∧ w = wr) (fun _ i _ => (L.length : Int).toNat - (intOf i).toNat)
  case atStart => exact ⟨0, Nat.zero_le _, rfl, Lib.hid (by simp), rfl⟩
  case round =>
    obtain ⟨k, hk, rfl, HA, rfl⟩ := hrel
    by_cases hke : k = L.length
    · have hl : ¬ (k : Int) < (L.length : Int) := by omega
      have HE := Lib.hid (show ¬ ∃ x ∈ L, x.length ≠ 32 by
        rintro ⟨x, hx, hs⟩
        exact hs (HA.out x (by rw [hke, List.take_length]; exact hx)))
      clear hk hke
      go_wp2
      go_ret
      exact ⟨-1, rfl, ⟨fun h => absurd h (by decide), fun h => absurd h HE.out⟩, rfl⟩
    · have hkl : k < L.length := by omega
      have hl : (k : Int) < (L.length : Int) := by omega
      have i0 : (0 : Int) ≤ (k : Int) := by omega
      obtain ⟨bb, off, rfl, hcx⟩ := HN.out.cell k hkl
      have hxl := HL.out k hkl
      obtain ⟨x, hx⟩ : ∃ x, L[k] = x := ⟨_, rfl⟩
      rw [hx] at hcx hxl
      have HP := Lib.hid (isno_any x w hxl)
      have HM := Lib.hid (show x ∈ L by rw [← hx]; exact List.getElem_mem hkl)
      have HT := Lib.hid (show L.take k ++ [x] = L.take (k + 1) by rw [← hx, List.take_append_getElem hkl])
      clear hx hke hxl
      by_cases hs : x.length = 32
      · rw [decide_eq_false (fun h => h hs)] at HP
        have HS := Lib.hid hs
        clear hs
        go_wp2_with (go_at_call 16; refine HP.out.mono ?_; rintro e w' ⟨rfl, rfl⟩)
        go_roundw
        case rel =>
          refine ⟨k + 1, hkl, by go_num, Lib.hid ?_, trivial⟩
          rw [← HT.out]
          intro y hy
          rcases List.mem_append.1 hy with h | h
          · exact HA.out y h
          · simp at h; subst h; exact HS.out
        case measure => simp [intOf] <;> omega
      · rw [decide_eq_true hs] at HP
        have HS := Lib.hid hs
        clear hs
        go_wp2_with (go_at_call 16; refine HP.out.mono ?_; rintro e w' ⟨rfl, rfl⟩)
        go_ret
        exact ⟨_, rfl, ⟨fun _ => ⟨x, HM.out, HS.out⟩, fun _ => i0⟩, rfl⟩
theorem ocontains_any (ao : Option Addr) (cap : Nat) (L : List (List UInt8)) (w : World) (hN : Strs ao L w) (hn : L.length ≤ 100000) (hl : ∀ i (h : i < L.length), L[i].length ≤ 1000000000) :
    Calls Tryd.prog 15 #[.slice ao L.length cap, .func (.func 16) #[] #[]] w fun e w' => e = .returned (.bool (!all32 L)) ∧ w = w' := by
  have HC := Lib.hid (oindex_any ao cap L w hN hn hl)
  have HE := Lib.hid (show ∀ r : Int, (0 ≤ r ↔ ∃ x ∈ L, x.length ≠ 32) → decide (r ≥ 0) = !all32 L from fun r hr => by
    rw [Bool.eq_iff_iff, all32]
    simp [hr])
  generalize (!all32 L) = y at *
  clear hN hl
  go_enter Tryd.func15, Tryd.ntmps15
  go_wp2_with (go_at_call 32; refine HC.out.mono ?_; rintro e w1 ⟨r, rfl, hr, rfl⟩; have HR := Lib.hid hr; clear hr)
  go_ret
  exact ⟨by rw [← HE.out _ HR.out]; rfl, rfl⟩
set_option maxRecDepth 100000 in
set_option maxHeartbeats 1000000 in
theorem oleaves_any (ao : Option Addr) (cap : Nat) (P : List Nat) (d : Int) (w : World) (hN : Nums ao P w) (hn : P.length ≤ 100000) (hP : ∀ x ∈ P, x < 18446744073709551616) :
    Calls Tryd.prog 17 #[.slice ao P.length cap, .int .i64 d] w fun e w' => e = .returned (.slice (some ⟨w.heap.size, 0, none⟩) P.length P.length) ∧ w'.heap[w.heap.size]? = some (.cells (ups (P.map fun x => turnB x d) P.length).toArray 33 (0, 0)) ∧ Below w.heap.size w w' := by
  obtain ⟨i0, hi, hz0, hz1, hz2⟩ := info_parts infoU
  obtain ⟨n, hne⟩ : ∃ n, n = P.length := ⟨_, rfl⟩
  have hm : (Instr.makeSlice 22 (.int .i64 (n : Int)) (.int .i64 (n : Int))).run Tryd.prog w = .ok (.slice (some ⟨w.heap.size, 0, none⟩) n n) (w.alloc (.cells (ups [] n).toArray 33)) := by
    have h := run_make (P := Tryd.prog) w 22 33 i0 (.int .u64 0) Tryd.underlying22 hi hz0 .i64 .i64 (n : Int) (n : Int) (by omega) (by omega) (by rw [hz2]; omega) (by omega)
    rw [h, hz1, Int.toNat_natCast, Nat.mul_one, made_nums]
  obtain ⟨B, hB⟩ : ∃ B, B = w.heap.size := ⟨_, rfl⟩
  have HB0 := Lib.hid (show Below B w (w.alloc (.cells (ups [] n).toArray 33)) from by rw [hB]; exact by0 w _)
  have HN0 := Lib.hid (show (w.alloc (.cells (ups [] n).toArray 33)).heap[B]? = some (.cells (ups [] n).toArray 33 (0, 0)) from by rw [hB]; exact heap_alloc_new w _)
  rw [← hB] at hm
  have HM := Lib.hid hm
  have HN := Lib.hid hN
  have HP := Lib.hid hP
  have HB := Lib.hid hB
  have HE := Lib.hid hne
  have n1 : (n : Int) ≤ 100000 := by omega
  rw [show w.heap.size = B from hB.symm]
  simp only [show P.length = n from hne.symm]
  clear hm hN hP hB hn hi hz0 hz1 hz2 hne
  go_enter Tryd.func17, Tryd.ntmps17
  go_upto_region 1 with fail
  have hmm := HM.out
  go_upto_region 2 with fail
  clear hmm HM
  generalize w.alloc (.cells (ups [] n).toArray 33) = w1 at *
  go_wp2
  go_loopw [6, 7, 13] (fun _ _ vi wr => ∃ k : Nat, k ≤ n ∧ vi = .int .i64 (k : Int) ∧ Hid (wr.heap[B]? = some (.cells (ups ((P.take k).map fun x => turnB x d) n).toArray 33 (0, 0)) ∧ Below B w wr)) (fun _ _ vi _ => n - (intOf vi).toNat)
  case atStart => exact ⟨0, Nat.zero_le _, rfl, Lib.hid ⟨HN0.out, HB0.out⟩⟩
  case round =>
    obtain ⟨k, hk, rfl, HK⟩ := hrel
    by_cases hlt : k < n
    · have k0 : (0 : Int) ≤ (k : Int) := by omega
      have k1 : (k : Int) < (n : Int) := by omega
      have hkP : k < P.length := by rw [← HE.out]; exact hlt
      obtain ⟨b, off, rfl, hc⟩ := nums_at (nums_next HN.out (by rw [← HB.out]; exact HK.out.2)) k hkP
      obtain ⟨x, hx⟩ : ∃ x, x = P[k] := ⟨_, rfl⟩
      rw [← hx] at hc
      have HLY := Lib.hid (fun w => leaf_any x (by rw [hx]; exact HP.out _ (List.getElem_mem hkP)) d w)
      have hlk : ((P.take k).map fun x => turnB x d).length = k := by rw [List.length_map, List.length_take]; omega
      have HPT := Lib.hid (show ((P.take k).map fun x => turnB x d) ++ [turnB x d] = (P.take (k + 1)).map fun x => turnB x d by
        rw [← List.take_append_getElem hkP, List.map_append, hx]; rfl)
      have HUP := Lib.hid (ups_put (V := (P.take k).map fun x => turnB x d) (n := n) (x := turnB x d) (by rw [hlk]; exact hlt))
      rw [HPT.out, hlk] at HUP
      generalize turnB x d = y at *
      obtain ⟨old, hcj⟩ : ∃ old, wr.cell? ⟨B, k, none⟩ = some old := ⟨_, (lit_cell HK.out.1 k).trans (Array.getElem?_eq_getElem (by rw [List.size_toArray, ups_len (by rw [hlk]; omega)]; exact hlt))⟩
      have hfj := lit_free HK.out.1 k
      have HSET := Lib.hid (lit_set (k := k) (encU y) HK.out.1)
      rw [HUP.out] at HSET
      have HSB := Lib.hid (show Below B w (wr.setCell ⟨B, k, none⟩ (encU y)) from HK.out.2.setCell (show B ≤ B from Nat.le_refl _) _)
      clear hx hlk HPT HUP hkP
      go_wp2_with (go_at_call 33; refine (HLY.out _).mono ?_; rintro e w' ⟨rfl, rfl⟩)
      go_roundw
      case rel => exact ⟨k + 1, hlt, by go_num, Lib.hid ⟨HSET.out, HSB.out⟩⟩
      case measure => simp [intOf] <;> omega
    · have hkn : k = n := by omega
      have k1 : ¬ (k : Int) < (n : Int) := by omega
      have HF := Lib.hid (show wr.heap[B]? = some (.cells (ups (P.map fun x => turnB x d) n).toArray 33 (0, 0)) by
        have := HK.out.1
        rw [hkn] at this
        rwa [show P.take n = P from by rw [HE.out, List.take_length]] at this)
      clear hkn
      go_wp2
      go_ret
      exact ⟨rfl, HF.out, HK.out.2⟩
set_option maxRecDepth 100000 in
set_option maxHeartbeats 1000000 in
theorem osize_any (lo hi : Nat) (bo : Option Addr) (cp z : Nat) (M : List (List Nat)) (w : World) (hR : RowsIn lo hi bo M w) (hM : M.length ≤ 100) (hz : z ≤ 1000000000) (hN : ∀ N ∈ M, N.length ≤ 100000) :
    Calls Tryd.prog 19 #[.int .i64 (z : Int), .slice bo M.length cp] w fun e w' => e = .returned (.int .i64 (sizeE z (pre M M.length))) ∧ w = w' := by
  have HR := Lib.hid hR
  have HB := Lib.hid (fun i h => pre_bound hN i h)
  have HNN := Lib.hid hN
  have n1 : (M.length : Int) ≤ 100 := by omega
  have z1 : (z : Int) ≤ 1000000000 := by omega
  clear hR hN
  go_enter Tryd.func19, Tryd.ntmps19
  go_wp2
  go_loopw [5, 7, 10] (fun v5 _ vi wr => ∃ i : Nat, v5 = .int .i64 (pre M i : Int) ∧ vi = .int .i64 (i : Int) ∧ i ≤ M.length ∧ w = wr) (fun _ _ vi _ => M.length - (intOf vi).toNat)
  case atStart => exact ⟨0, by rw [pre_zero]; rfl, rfl, Nat.zero_le _, rfl⟩
  case round =>
    obtain ⟨i, rfl, rfl, hi, rfl⟩ := hrel
    by_cases hie : i < M.length
    · have hl : (i : Int) < (M.length : Int) := by omega
      have i0 : (0 : Int) ≤ (i : Int) := by omega
      rcases HR.out with h | ⟨b, rfl, _, _, h4⟩
      · rw [h] at hie; simp at hie
      · obtain ⟨ai, ci, hc, _⟩ := h4 i hie
        have hp := pre_succ hie
        have hb := HB.out i (by omega)
        have hnl := HNN.out _ (List.getElem_mem hie)
        have hb2 : 100000 * i ≤ 100000 * 100 := Nat.mul_le_mul (Nat.le_refl _) (by omega)
        have p1 : (pre M i : Int) ≤ 10000000 := by omega
        obtain ⟨N, hNe⟩ : ∃ N, N = M[i].length := ⟨_, rfl⟩
        rw [← hNe] at hc hp hnl
        have p2 : (N : Int) ≤ 100000 := by omega
        have HP := Lib.hid hp
        generalize pre M i = q at *
        clear h4 hNe hb hb2 hnl hp
        go_wp2
        go_roundw
        case rel => exact ⟨i + 1, by rw [HP.out]; go_num, by go_num, hie, trivial⟩
        case measure => simp [intOf] <;> omega
    · have hl : ¬ (i : Int) < (M.length : Int) := by omega
      have hb := HB.out i (by omega)
      have hb2 : 100000 * i ≤ 100000 * 100 := Nat.mul_le_mul (Nat.le_refl _) (by omega)
      have p1 : (pre M i : Int) ≤ 10000000 := by omega
      obtain rfl : i = M.length := by omega
      obtain ⟨q, hq⟩ : ∃ q, q = pre M M.length := ⟨_, rfl⟩
      rw [← hq] at p1 ⊢
      have HQ := Lib.hid hq
      clear hb hb2 hq
      by_cases h1 : z < q
      · have g1 : (z : Int) < (q : Int) := by omega
        have HE := Lib.hid (show sizeE z (pre M M.length) = 4 from if_pos (by rw [← HQ.out]; exact h1))
        clear h1
        go_wp2
        go_ret
        exact ⟨by rw [HE.out]; rfl, rfl⟩
      · by_cases h2 : q < z
        · have g1 : ¬ (z : Int) < (q : Int) := by omega
          have g2 : (z : Int) > (q : Int) := by omega
          have HE := Lib.hid (show sizeE z (pre M M.length) = 3 by rw [← HQ.out]; exact (if_neg h1).trans (if_pos h2))
          clear h1 h2
          go_wp2
          go_ret
          exact ⟨by rw [HE.out]; rfl, rfl⟩
        · have g1 : ¬ (z : Int) < (q : Int) := by omega
          have g2 : ¬ (z : Int) > (q : Int) := by omega
          have HE := Lib.hid (show sizeE z (pre M M.length) = 0 by rw [← HQ.out]; exact (if_neg h1).trans (if_neg h2))
          clear h1 h2
          go_wp2
          go_ret
          exact ⟨by rw [HE.out]; rfl, rfl⟩
end Go.Proofs.YtblimejnjboedaaDoor
/- Layer 11: tables of places; what is shown of the leaves; a pair's parent. -/
namespace Go.Proofs.YtblimejnjboedaaDoor
open Go.RowKit Go.Sort Go.WideShapes Go.MapKept
open Go.Maps (Keyed)

/-- how an element of one text reads -/
def plcElem : Value → Option (DataW Unit × List MemPlace)
  | .agg cs => match cs.toList with
    | [.string s] => some (.lit (.string s.data.toList), [])
    | _ => none
  | _ => none
abbrev plcEnc (X : (List UInt8)) : Value := .agg #[.string ⟨X.toArray⟩]
theorem plcShape : Shape plcElem plcEnc := by
  refine ⟨fun X => by simp [plcElem], fun v y h => ?_⟩
  unfold plcElem at h
  cases v <;> simp at h
  rename_i cs
  rcases cs with ⟨l⟩
  rcases l with _ | ⟨a, _ | ⟨b, l⟩⟩ <;> simp at h
  · cases a <;> simp at h
    rename_i s
    exact ⟨s.data.toList, by simp [plcEnc]⟩
abbrev TabM (b n : Nat) (h : Nat → (List UInt8)) (K : List Nat) (w : World) : Prop := TabAt Tryd.prog 33 plcElem b n h K w
abbrev RngM (b r n : Nat) (h : Nat → (List UInt8)) (K V : List Nat) (w : World) : Prop := RangeTab Tryd.prog 33 plcElem b r n h K V w
theorem make_hint (z : Int) (w : World) : (Instr.makeMap 49 (some (.int .i64 z))).run Tryd.prog w = .ok (.map (some w.heap.size)) (w.alloc (.map #[] 0)) := by
  simp [Instr.makeMap, run_underlying Tryd.underlying49, asInt, asIntOf, Result.andThen]
theorem tab_put_ok {b n : Nat} {h : Nat → (List UInt8)} {K : List Nat} {w : World} (T : TabM b n h K w) (hn : n ≤ 100000) {x : Nat} (hx : x < 18446744073709551616) :
    ∃ w', (Instr.mapUpdate 49 (.map (some b)) (.int .u64 (x : Int)) (.agg #[.string ⟨(h x).toArray⟩])).run Tryd.prog w = .ok () w' ∧ TabM b (n + 1) h (K ++ [x]) w' ∧ w.grownBy w' (some b) :=
  T.put plcShape keyU Tryd.underlying33 Tryd.underlying49 hn hx
theorem tab_look {b n : Nat} {h : Nat → (List UInt8)} {K : List Nat} {w : World} (T : TabM b n h K w) {k : Nat} (hk : k < 18446744073709551616) :
    (Instr.lookup 49 (.map (some b)) (.int .u64 (k : Int)) false).run Tryd.prog w = .ok (.agg #[.string ⟨(if k ∈ K then h k else []).toArray⟩]) w :=
  T.look plcShape keyU Tryd.underlying33 Tryd.underlying49 (Tryd.zeroValue46 _) hk
theorem leaf_at (X : (List UInt8)) (wz : World) (sz : Nat) (hg : Glob wz) (hz : sz = wz.heap.size) (hX : X.length ≤ 10000000) : Calls Tryd.prog 9 #[.string ⟨#[108, 101, 97, 102]⟩, .slice (some ⟨sz, 0, none⟩) 1 1] (wz.alloc (.cells #[.string ⟨X.toArray⟩] 9)) fun e w' => e = .returned (.string ⟨(hashL leafT [X]).toArray⟩) ∧ Below wz.heap.size wz w' := by
  subst hz
  exact hash1_any leafT X wz hg (by decide) hX
set_option maxRecDepth 100000 in
set_option maxHeartbeats 1000000 in
theorem shown_any (ao bo : Option Addr) (ca cb : Nat) (LV : List Nat) (E : List (List UInt8)) (f : Nat → (List UInt8)) (w : World) (hg : Glob w) (hP : Nums ao LV w) (hE : Strs bo E w) (hl : E.length = LV.length) (hf : ∀ i (h : i < LV.length) (h' : i < E.length), f LV[i] = hashL leafT [E[i]]) (hn : LV.length ≤ 1000) (h64 : ∀ x ∈ LV, x < 18446744073709551616) (he : ∀ i (h : i < E.length), E[i].length ≤ 10000000) :
    Calls Tryd.prog 21 #[.slice ao LV.length ca, .slice bo E.length cb] w fun e w' => ∃ b, e = .returned (.map (some b)) ∧ TabM b LV.length f LV w' ∧ w.heap.size ≤ b ∧ Below w.heap.size w w' := by
  have HT0 := Lib.hid (TabAt.made Tryd.prog 33 plcElem f w)
  have hmk := make_hint (LV.length : Int) w
  have HG := Lib.hid hg
  have HP := Lib.hid hP
  have HE := Lib.hid hE
  have HF := Lib.hid hf
  have H64 := Lib.hid h64
  have HEL := Lib.hid he
  have HL := Lib.hid hl
  have n1 : (LV.length : Int) ≤ 1000 := by omega
  clear hg hP hE hf h64 he hl
  go_enter Tryd.func21, Tryd.ntmps21
  go_wp2
  go_loopw [6, 7, 13] (fun _ _ vi wr => ∃ k : Nat, k ≤ LV.length ∧ vi = .int .i64 (k : Int) ∧ Hid (TabM w.heap.size k f (LV.take k) wr) ∧ Hid (Below w.heap.size w wr)) (fun _ _ vi _ => LV.length - (intOf vi).toNat)
  case atStart => exact ⟨0, Nat.zero_le _, rfl, HT0, Lib.hid (by0 w _)⟩
  case round =>
    obtain ⟨k, hk, rfl, HT, HB⟩ := hrel
    by_cases hlt : k < LV.length
    · have k0 : (0 : Int) ≤ (k : Int) := by omega
      have k1 : (k : Int) < (LV.length : Int) := by omega
      have hke : k < E.length := by rw [HL.out]; exact hlt
      have k2 : (k : Int) < (E.length : Int) := by omega
      obtain ⟨b1, o1, rfl, hc1⟩ := nums_at (nums_next HP.out HB.out) k hlt
      obtain ⟨b2, o2, rfl, hc2⟩ := (HE.out.below (Nat.le_refl _) HB.out).cell k hke
      have hfx := HF.out k hlt hke
      have hXl := HEL.out k hke
      have hx64 := H64.out _ (List.getElem_mem hlt)
      have hTK := List.take_append_getElem (l := LV) hlt
      obtain ⟨x, hx⟩ : ∃ x, x = LV[k] := ⟨_, rfl⟩
      obtain ⟨X, hX⟩ : ∃ X, X = E[k] := ⟨_, rfl⟩
      rw [← hx] at hc1 hfx hx64 hTK
      rw [← hX] at hc2 hfx hXl
      have HH := Lib.hid (leaf_at X wr wr.heap.size (HG.out.below HG.out.size HB.out) rfl hXl)
      rw [← hfx] at HH
      have HPUT := Lib.hid (fun wz (h : Below wr.heap.size wr wz) => tab_put_ok (HT.out.next h) (by omega) (x := x) hx64)
      have HTK := Lib.hid hTK
      clear hx hX hfx hXl hx64 hTK hlt hke
      go_wp2_with (go_at_call 9; with_reducible refine HH.out.mono ?_; rintro e w2 ⟨rfl, hb2⟩; obtain ⟨w3, hrun, ht3, hg3⟩ := HPUT.out w2 hb2)
      rw [HTK.out] at ht3
      have HT3 := Lib.hid ht3
      have HB3 := Lib.hid (show Below w.heap.size w w3 from (below_next HB.out hb2).grown hg3 (by have := HB.out.size; have := hb2.size; omega) (fun j e => by cases e; exact Nat.le_refl _))
      clear ht3 hg3 hb2 hrun
      go_wp2
      go_roundw
      case rel => exact ⟨k + 1, by omega, by go_num, HT3, HB3⟩
      case measure => simp [intOf] <;> omega
    · have k1 : ¬ (k : Int) < (LV.length : Int) := by omega
      have HF2 := Lib.hid (show TabM w.heap.size LV.length f LV wr by
        have := HT.out
        rw [List.take_of_length_le (by omega)] at this
        exact this.mono hk)
      go_wp2
      go_ret
      exact ⟨w.heap.size, rfl, HF2.out, Nat.le_refl _, HB.out⟩
theorem node_at (wz : World) (A B : (List UInt8)) (sz : Nat) (hg : Glob wz) (hz : sz = wz.heap.size) (hA : A.length ≤ 32) (hB : B.length ≤ 32) : Calls Tryd.prog 9 #[.string ⟨#[110, 111, 100, 101]⟩, .slice (some ⟨sz, 0, none⟩) 2 2] (wz.alloc (.cells #[.string ⟨A.toArray⟩, .string ⟨B.toArray⟩] 9)) fun e w' => e = .returned (.string ⟨(hashL nodeT [A, B]).toArray⟩) ∧ Below wz.heap.size wz w' := hash_at wz A B sz hg hz hA hB
set_option maxRecDepth 100000 in
set_option maxHeartbeats 1000000 in
theorem oparent_any (A B : (List UInt8)) (w : World) (hg : Glob w) (hA : A.length ≤ 32) (hB : B.length ≤ 32) :
    Calls Tryd.prog 66 #[.agg #[.string ⟨A.toArray⟩, .string ⟨B.toArray⟩]] w fun e w' => e = .returned (.agg #[.string ⟨(hashL nodeT [A, B]).toArray⟩]) ∧ Below w.heap.size w w' := by
  obtain ⟨w1, hw1⟩ : ∃ w1, w1 = (w.alloc (.cells #[.string ⟨A.toArray⟩, .string ⟨B.toArray⟩] 99)).alloc (.cells #[.string ⟨#[]⟩] 46) := ⟨_, rfl⟩
  have hb1 : Below w.heap.size w w1 := by rw [hw1]; exact below_alloc (by0 w _) _
  have HH := Lib.hid (node_at w1 A B (w.heap.size + 1 + 1) (hg.below hg.size hb1) (by rw [hw1]; simp) hA hB)
  have HB1 := Lib.hid hb1
  rw [hw1] at HH
  have hn1 : w1.heap[w.heap.size + 1]? = some (.cells #[.string ⟨#[]⟩] 46 (0, 0)) := by rw [hw1]; exact alloc_new _ _ (by simp)
  have HN1 := Lib.hid hn1
  have HW1 := Lib.hid hw1
  clear hg hA hB hb1 hn1 hw1
  go_enter Tryd.func66, Tryd.ntmps66
  go_wp2_with (go_at_call 9; with_reducible refine HH.out.mono ?_; rintro e w2 ⟨rfl, hb2⟩; rw [← HW1.out] at hb2; have hn2 := (hb2.block _ (lit_lt HN1.out)).trans HN1.out; have HB2 := Lib.hid (show Below w.heap.size w (w2.setCell ⟨w.heap.size + 1, 0, none⟩ (.string ⟨(hashL nodeT [A, B]).toArray⟩)) from (below_next HB1.out hb2).setCell (by show w.heap.size ≤ w.heap.size + 1; omega) _); have hc2 := (lit_cell hn2 0).trans rfl; have hf2 := lit_free hn2 0; have HC2 := Lib.hid (lit_set (k := 0) (.string ⟨(hashL nodeT [A, B]).toArray⟩) hn2); clear hb2 hn2)
  have hc3 := (lit_cell HC2.out 0).trans rfl
  refine bodyPost_ret (v := .agg #[.string ⟨(hashL nodeT [A, B]).toArray⟩]) ?_ rfl ⟨rfl, HB2.out⟩
  simp [results, Tryd.results66, go_sem, hc3]
end Go.Proofs.YtblimejnjboedaaDoor
