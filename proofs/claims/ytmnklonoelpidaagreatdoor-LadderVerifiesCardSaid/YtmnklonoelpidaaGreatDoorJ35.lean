/- What comes of a proof, case by case. -/
import Derived.Test.YtmnklonoelpidaaGreatDoorJ22
import Derived.Test.YtmnklonoelpidaaGreatDoorJ7
import Derived.Test.YtmnklonoelpidaaGreatDoorJ21
import Derived.Test.YtmnklonoelpidaaGreatDoorJ8
import Derived.Test.YtmnklonoelpidaaGreatDoorJ26
import Derived.Test.YtmnklonoelpidaaGreatDoorJ32
import Derived.Test.YtmnklonoelpidaaGreatDoorJ29
import Derived.Test.YtmnklonoelpidaaGreatDoorJ34
import Derived.Deep.RegionHeld3
import Derived.Test.YtmnklonoelpidaaGreatDoorJ33
namespace Go.Proofs.YtmnklonoelpidaaGreatDoor
open Go.RowKit Go.Sort

theorem hlen32 (tag : (List UInt8)) (L : List (List UInt8)) (h : Tag tag) : (hashL tag L).length = 32 := by rw [hashL, if_pos h]; exact shaL_length _
theorem root_good {n : Nat} {P : List Nat} {E R : List (List UInt8)} (hm : mayP n P = true) (he : E.length = P.length) (h32 : all32 R = true) (hz : R.length = sizeD P n) : rootV n P E R = (comesD (lvs P (dep n)) (dep n) R (leafF P E (dep n)), 0) := by
  rw [rootV, if_neg (by rw [hm]; simp [he]), if_neg (by rw [h32]; decide), Int.toNat_natCast, if_neg (fun h => h (sizeE_zero.2 hz))]
theorem all32_mk {R : List (List UInt8)} (h : ∀ x ∈ R, x.length = 32) : all32 R = true := decide_eq_true h
end Go.Proofs.YtmnklonoelpidaaGreatDoor
/- Hashes of one text, of two; small trees' roots and digests. -/
namespace Go.Proofs.YtmnklonoelpidaaGreatDoor
open Go.RowKit

theorem gl_in {L : List (List UInt8)} {d k i : Nat} (h : turnB k (d : Int) = i) (hi : i < L.length) : gl L d k = hashL leafT [L[i]] := by
  subst h
  exact dif_pos hi
theorem gl_out {L : List (List UInt8)} {d k : Nat} (h : ¬ turnB k (d : Int) < L.length) : gl L d k = hashL noneT [] := dif_neg h
end Go.Proofs.YtmnklonoelpidaaGreatDoor
/- Layer 11's plain facts: the root that comes of leaves that are known, and a proof; that of a list's own proof. -/
namespace Go.Proofs.YtmnklonoelpidaaGreatDoor
open Go.RowKit Go.Sort

theorem known_own {LV : List Nat} {D : Nat} {R : List (List UInt8)} {f g : Nat → (List UInt8)} (hLV : ∀ z ∈ LV, z < 2 ^ D) (hf : ∀ x ∈ LV, f x = g x) (hR : ∀ i, i < D → ∀ x ∈ needOf (upTo LV i) (2 ^ (D - i)), givenD (needM LV D) R i x = dg g i x) :
    ∀ i, i ≤ D → ∀ p ∈ upTo LV i, knownD LV D R f i p = dg g i p
  | 0, _, p, hp => by
    rw [upTo_zero] at hp
    exact hf p hp
  | i + 1, hi, p, hp => by
    have IH := known_own hLV hf hR i (by omega)
    have key : ∀ x, x / 2 = p → (if x ∈ upTo LV i then knownD LV D R f i x else givenD (needM LV D) R i x) = dg g i x := by
      intro x hx
      rcases pair_known hLV (by omega) hp hx with c | ⟨c, d⟩
      · rw [if_pos c]; exact IH x c
      · rw [if_neg c]; exact hR i (by omega) x d
    rw [knownD, key (2 * p) (by omega), key (2 * p + 1) (by omega)]
    rfl
/-- a list's own proof gives each needed place its digest -/
theorem given_own {L : List (List UInt8)} {P : List Nat} {i x : Nat} (hi : i < dep L.length) (hx : x ∈ needOf (upTo (lvs P (dep L.length)) i) (2 ^ (dep L.length - i))) : givenD (needM (lvs P (dep L.length)) (dep L.length)) (proofD L P) i x = dg (gl L (dep L.length)) i x := by
  obtain ⟨M, hM⟩ : ∃ M, M = needM (lvs P (dep L.length)) (dep L.length) := ⟨_, rfl⟩
  have hat := needM_at (L := lvs P (dep L.length)) hi
  rw [← hM] at hat
  obtain ⟨N, hN⟩ : ∃ N, N = needOf (upTo (lvs P (dep L.length)) i) (2 ^ (dep L.length - i)) := ⟨_, rfl⟩
  rw [← hN] at hat hx
  obtain ⟨hiM, hMi⟩ := List.getElem?_eq_some_iff.1 hat
  have hj : N.idxOf x < N.length := List.idxOf_lt_length_of_mem hx
  have hfl := flat_get M 0 i (N.idxOf x) hiM (by rw [hMi]; exact hj)
  rw [givenD, proofD, ← hM, hat, List.getElem?_map]
  simp only [Option.getD_some]
  rw [show flat M = flatFrom 0 M from rfl, hfl]
  simp only [hMi, Nat.zero_add, Option.map_some, Option.getD_some, List.getElem_idxOf]
/-- lists that differ at the positions alone have one proof of these -/
theorem gl_alike {L L' : List (List UInt8)} {P : List Nat} {D j : Nat} (hD : D ≤ 16) (hlen : L'.length = L.length) (hoff : ∀ i, i ∉ P → L'[i]? = L[i]?) (hj : j < 2 ^ D) (hn : j ∉ lvs P D) : gl L' D j = gl L D j := by
  have hp : turnB j (D : Int) ∉ P := fun c => hn (List.mem_map.2 ⟨_, c, turnB_turnB hD hj⟩)
  by_cases c : turnB j (D : Int) < L.length
  · have c' : turnB j (D : Int) < L'.length := by omega
    rw [gl_in rfl c, gl_in rfl c']
    have h := hoff _ hp
    rw [List.getElem?_eq_getElem c, List.getElem?_eq_getElem c'] at h
    rw [Option.some.inj h]
  · rw [gl_out c, gl_out (by omega)]
theorem proof_alike {L L' : List (List UInt8)} {P : List Nat} (hD : dep L.length ≤ 16) (hlen : L'.length = L.length) (hoff : ∀ i, i ∉ P → L'[i]? = L[i]?) : proofD L' P = proofD L P := by
  rw [proofD, proofD, hlen]
  refine List.map_congr_left fun p hp => ?_
  obtain ⟨h1, h2⟩ := flat_in hp
  obtain ⟨i, N, e1, e2, e3⟩ := flat_mem _ 0 p hp
  rw [Nat.zero_add] at e1
  subst e1
  rw [needM_at h1] at e2
  cases e2
  have hno : p.2 ∉ upTo (lvs P (dep L.length)) p.1 := by
    rw [needOf, List.mem_filter] at e3
    exact (of_decide_eq_true e3.2).2
  refine dg_congr p.1 p.2 fun j j1 j2 => gl_alike hD hlen hoff ?_ fun hj => hno (mem_upTo.2 ⟨j, hj, Nat.div_eq_of_lt_le j1 j2⟩)
  calc j < (p.2 + 1) * 2 ^ p.1 := j2
    _ ≤ 2 ^ (dep L.length - p.1) * 2 ^ p.1 := Nat.mul_le_mul_right _ h2
    _ = 2 ^ dep L.length := by rw [← Nat.pow_add]; congr 1; omega
/-- P11.3: of a list, and the proof that is made of some positions, its root comes; with other elements there the root of the list with those -/
theorem comes_back {L L' : List (List UInt8)} {P : List Nat} (hL : L.length ≤ 65536) (hs : standsP P L.length = true) (hlen : L'.length = L.length) (hoff : ∀ i, i ∉ P → L'[i]? = L[i]?) {f : Nat → (List UInt8)} (hf : ∀ p ∈ P, f (turnB p (dep L.length : Int)) = hashL leafT [L'[p]?.getD []]) :
    comesD (lvs P (dep L.length)) (dep L.length) (proofD L P) f = rootD L' := by
  have hd := dep_le L.length hL
  have hsp := (dep_spec L.length hL).1
  have hpp := stands_parts hs
  have hLV : ∀ z ∈ lvs P (dep L.length), z < 2 ^ dep L.length := fun z hz => by
    obtain ⟨p, hp, rfl⟩ := List.mem_map.1 hz
    exact turnB_lt hd (Nat.lt_of_lt_of_le (hpp.2.2 p hp) hsp)
  have hroot : 0 ∈ upTo (lvs P (dep L.length)) (dep L.length) := by
    obtain ⟨p, hp⟩ := List.exists_mem_of_ne_nil P hpp.1
    have hm : turnB p (dep L.length : Int) ∈ lvs P (dep L.length) := List.mem_map.2 ⟨p, hp, rfl⟩
    exact mem_upTo.2 ⟨_, hm, Nat.div_eq_of_lt (hLV _ hm)⟩
  have h := known_own (R := proofD L P) (f := f) (g := gl L' (dep L.length)) hLV (fun x hx => by
    obtain ⟨p, hp, rfl⟩ := List.mem_map.1 hx
    have hpl : p < L'.length := by rw [hlen]; exact hpp.2.2 p hp
    rw [hf p hp, gl_in (turnB_turnB hd (by omega)) hpl, List.getElem?_eq_getElem hpl]
    rfl) (fun i hi x hx => by
    have e := given_own (L := L') (P := P) (i := i) (x := x) (by rw [hlen]; exact hi) (by rw [hlen]; exact hx)
    rw [hlen, proof_alike hd hlen hoff] at e
    exact e) (dep L.length) (Nat.le_refl _) 0 hroot
  rw [comesD, h, rootD, hlen]
end Go.Proofs.YtmnklonoelpidaaGreatDoor
/- What comes of a list's own proof. -/
namespace Go.Proofs.YtmnklonoelpidaaGreatDoor
open Go.RowKit Go.Sort

theorem gl_32 (L : List (List UInt8)) (d k : Nat) : (gl L d k).length = 32 := by
  unfold gl
  split
  · exact hlen32 _ _ (by decide)
  · exact hlen32 _ _ (by decide)
theorem dg_32 {g : Nat → (List UInt8)} (h : ∀ k, (g k).length = 32) (l k : Nat) : (dg g l k).length = 32 := by
  cases l with
  | zero => exact h k
  | succ l => exact hlen32 _ _ (by decide)
theorem proofD_32 (L : List (List UInt8)) (P : List Nat) : ∀ x ∈ proofD L P, x.length = 32 := by
  intro x hx
  obtain ⟨p, _, rfl⟩ := List.mem_map.1 hx
  exact dg_32 (gl_32 L _) _ _
theorem may_of {n : Nat} {P : List Nat} (hn : n ≤ 65536) (hs : standsP P n = true) : mayP n P = true := by
  rw [mayP, decide_eq_true (by omega), Bool.true_and, Int.toNat_natCast]
  exact hs
/-- what comes of a list's own proof, and elements E at the positions: the root of the list L' with those -/
theorem root_back {L L' : List (List UInt8)} {P : List Nat} {E : List (List UInt8)} (hL : L.length ≤ 65536) (hs : standsP P L.length = true) (hlen : L'.length = L.length) (hoff : ∀ i, i ∉ P → L'[i]? = L[i]?) (hE : E.length = P.length) (hat : ∀ i (h : i < P.length) (h' : i < E.length), L'[P[i]]? = some E[i]) :
    rootV (L.length : Nat) P E (proofD L P) = (rootD L', 0) := by
  have hpp := stands_parts hs
  have hd : P.Nodup := hpp.2.1.imp fun h => Nat.ne_of_lt h
  rw [root_good (may_of hL hs) hE (all32_mk (proofD_32 L P)) (sizeD_eq L P), comes_back hL hs hlen hoff fun p hp => ?_]
  obtain ⟨i, hi, rfl⟩ := List.getElem_of_mem hp
  rw [leafF_at hs hL i hi (by omega), hat i hi (by omega)]
  rfl
end Go.Proofs.YtmnklonoelpidaaGreatDoor
/- Layer 14's answers, plainly. -/
namespace Go.Proofs.YtmnklonoelpidaaGreatDoor
open Go.RowKit Go.Sort

/-- a text of n bytes, by a letter -/
def txtF (c n : Nat) : (List UInt8) := (List.range n).map fun i => UInt8.ofNat (c + i % 5)
theorem txtF_len (c n : Nat) : (txtF c n).length = n := by simp [txtF]
theorem txtF_get (c n i : Nat) (h : i < n) : (txtF c n)[i]? = some (UInt8.ofNat (c + i % 5)) := by simp [txtF, h]
/-- the rung k; the rungs of n keys; a ladder's root -/
def rungF (s : (List UInt8)) (k : Nat) : (List UInt8) := numL k ++ pubF s k
theorem rungF_len (s : (List UInt8)) (k : Nat) : (rungF s k).length ≤ 40 := by
  have : (pubF s k).length ≤ 32 := hashL_len _ _
  rw [rungF, List.length_append, numL_length]; omega
def rungsL (s : (List UInt8)) (n : Nat) : List (List UInt8) := (List.range n).map (rungF s)
theorem rungsL_len (s : (List UInt8)) (n : Nat) : (rungsL s n).length = n := by simp [rungsL]
theorem rungsL_get (s : (List UInt8)) (n k : Nat) (h : k < n) : (rungsL s n)[k]? = some (rungF s k) := by simp [rungsL, h]
theorem rungsL_more (s : (List UInt8)) (k : Nat) : rungsL s (k + 1) = rungsL s k ++ [rungF s k] := by
  rw [rungsL, rungsL, List.range_succ, List.map_append]; rfl
theorem rungsL_short (s : (List UInt8)) (n : Nat) : ∀ x ∈ rungsL s n, x.length ≤ 40 := by
  intro x hx
  obtain ⟨k, _, rfl⟩ := List.mem_map.1 hx
  exact rungF_len s k
def rootS (s : (List UInt8)) (n : Nat) : (List UInt8) := rootD (rungsL s n)
theorem rootS_32 (s : (List UInt8)) (n : Nat) : (rootS s n).length = 32 := dg_32 (gl_32 _ _) _ _
/-- what is wrong with a ladder -/
def newE (s : (List UInt8)) (f l : Nat) (n : Int) : Nat := if s.length ≠ 32 ∨ l = 0 ∨ n < 1 ∨ 64 < n then 2 else if 18446744073709551615 < f + l * n.toNat then 21 else 0
/-- the key of a round -/
def keyF (f l n r : Nat) : Nat × Bool := if r < f ∨ n ≤ (r - f) / l then (0, false) else ((r - f) / l, true)
theorem keyF_yes {f l n r : Nat} (h1 : f ≤ r) (h2 : (r - f) / l < n) : keyF f l n r = ((r - f) / l, true) := if_neg (by omega)
theorem keyF_no {f l n r : Nat} (h : r < f ∨ n ≤ (r - f) / l) : keyF f l n r = (0, false) := if_pos h
theorem keyF_lt {f l n r k : Nat} (h : keyF f l n r = (k, true)) : k < n ∧ f ≤ r ∧ k = (r - f) / l := by
  unfold keyF at h
  split at h
  · cases h
  · cases h
    omega
/-- what Sign answers: is it wrong? the key's number, the texts, the path -/
structure SigA where
  e : Nat
  i : Nat
  w : List (List UInt8)
  p : List (List UInt8)
def signA (s : (List UInt8)) (f l n r : Nat) (d : (List UInt8)) : SigA :=
  if (keyF f l n r).2 = false then ⟨16, 0, [], []⟩ else if d.length ≠ 32 then ⟨2, 0, [], []⟩ else ⟨0, (keyF f l n r).1, sigL s (keyF f l n r).1 d, proofD (rungsL s n) [(keyF f l n r).1]⟩
/-- what Verify answers -/
def verV (root : (List UInt8)) (f l n r : Nat) (d : (List UInt8)) (i : Nat) (W P : List (List UInt8)) : Nat :=
  if d.length ≠ 32 ∨ root.length ≠ 32 ∨ l = 0 ∨ n < 1 ∨ 64 < n then 2
  else if (keyF f l n r).2 = false then 16
  else if i ≠ (keyF f l n r).1 ∨ (recC W d).2 ≠ 0 then 10
  else if (rootV n [(keyF f l n r).1] [numL (keyF f l n r).1 ++ (recC W d).1] P).2 ≠ 0 ∨ (rootV n [(keyF f l n r).1] [numL (keyF f l n r).1 ++ (recC W d).1] P).1 ≠ root then 10
  else 0
theorem stands_one {k n : Nat} (h : k < n) : standsP [k] n = true := by
  unfold standsP
  simp [h]
/-- what was signed for a key is verified for its rounds -/
theorem ver_good {s d : (List UInt8)} {f l n r k : Nat} (hd : d.length = 32) (hl : 0 < l) (hn : 1 ≤ n) (hn2 : n ≤ 64) (hk : keyF f l n r = (k, true)) : verV (rootS s n) f l n r d k (sigL s k d) (proofD (rungsL s n) [k]) = 0 := by
  have hlt := (keyF_lt hk).1
  have hrl := rungsL_len s n
  have hb : rootV (n : Nat) [k] [numL k ++ pubF s k] (proofD (rungsL s n) [k]) = (rootS s n, 0) := by
    have := root_back (L := rungsL s n) (L' := rungsL s n) (P := [k]) (E := [rungF s k]) (by omega) (by rw [hrl]; exact stands_one hlt) rfl (fun _ _ => rfl) rfl (fun i h h' => by
      have hi : i = 0 := by simp at h; omega
      subst hi
      exact rungsL_get s n k hlt)
    rw [hrl] at this
    exact this
  unfold verV
  rw [if_neg (by rw [rootS_32]; omega), hk, if_neg (by simp), rec_back hd, if_neg (by simp), hb, if_neg (by simp)]
theorem ver_none {root d : (List UInt8)} {f l n r i : Nat} {W P : List (List UInt8)} (hd : d.length = 32) (hr : root.length = 32) (hl : 0 < l) (hn : 1 ≤ n) (hn2 : n ≤ 64) (hk : keyF f l n r = (0, false)) : verV root f l n r d i W P = 16 := by
  unfold verV
  rw [if_neg (by omega), hk, if_pos rfl]
theorem ver_arg {root d : (List UInt8)} {f l n r i : Nat} {W P : List (List UInt8)} (h : d.length ≠ 32 ∨ root.length ≠ 32 ∨ l = 0 ∨ n < 1 ∨ 64 < n) : verV root f l n r d i W P = 2 := if_pos h
end Go.Proofs.YtmnklonoelpidaaGreatDoor
/- Layer 14's document: New, key. -/
namespace Go.Proofs.YtmnklonoelpidaaGreatDoor
open Go.RowKit

/-- the document's ladder in memory -/
def RLad (b : Nat) (s : (List UInt8)) (f l n : Nat) (w : World) : Prop := ∃ (ao : Option Addr) (cp : Nat), w.heap[b]? = some (.cells #[.string ⟨s.toArray⟩, .int .u64 (f : Int), .int .u64 (l : Int), .slice ao n cp] 43 (0, 0)) ∧ Strs ao (rungsL s n) w
theorem RLad.next {b : Nat} {s : (List UInt8)} {f l n : Nat} {w w' : World} (h : RLad b s f l n w) (hb : Below w.heap.size w w') : RLad b s f l n w' := by
  obtain ⟨ao, cp, h1, h2⟩ := h
  exact ⟨ao, cp, (hb.block _ (lit_lt h1)).trans h1, h2.below (Nat.le_refl _) hb⟩
theorem rung_calls (k : Nat) (x : (List UInt8)) (w : World) (hk : k < 18446744073709551616) (hx : x.length ≤ 1000000) : Calls Tryz.prog 39 #[.int .u64 (k : Int), .string ⟨x.toArray⟩] w fun e w' => e = .returned (.string ⟨(numL k ++ x).toArray⟩) ∧ Below w.heap.size w w' := by
  have HN := Lib.hid (refNum_any k w hk)
  have hct := fun w => run_cat (numL k) x (by rw [numL_length]; omega) w
  generalize numL k ++ x = y at *
  generalize numL k = z at *
  go_enter Tryz.func39, Tryz.ntmps39
  go_wp2_with (go_at_call 73; refine HN.out.mono ?_; rintro e w1 ⟨rfl, hb⟩; have HB := Lib.hid hb; clear hb)
  go_ret
  exact ⟨rfl, HB.out⟩
theorem key_calls (f l n r : Nat) (w : World) (hl : 0 < l) (hr : r < 18446744073709551616) : Calls Tryz.prog 47 #[.int .u64 (f : Int), .int .u64 (l : Int), .int .u64 (n : Int), .int .u64 (r : Int)] w fun e w' => e = .returned (.tuple #[.int .u64 (keyF f l n r).1, .bool (keyF f l n r).2]) ∧ w' = w := by
  by_cases h1 : r < f
  · rw [keyF_no (.inl h1)]
    have h2 : (r : Int) < (f : Int) := by omega
    clear h1 hl
    go_enter Tryz.func47, Tryz.ntmps47
    go_wp2
    exact bodyPost_ret (v := .tuple #[.int .u64 0, .bool false]) (by simp [results, Tryz.results47, go_sem]) rfl ⟨rfl, rfl⟩
  · have h2 : ¬ (r : Int) < (f : Int) := by omega
    have hl0 : ¬ (l : Int) = 0 := by omega
    obtain ⟨m, hm⟩ : ∃ m, m = r - f := ⟨_, rfl⟩
    have hs1 : (r : Int) - (f : Int) = (m : Int) := by omega
    have hs : IntKind.u64.wrap ((r : Int) - (f : Int)) = (m : Int) := by rw [hs1, IntKind.wrap_u64]; omega
    obtain ⟨q, hq⟩ : ∃ q, q = m / l := ⟨_, rfl⟩
    have hqm : q ≤ m := by rw [hq]; exact Nat.div_le_self _ _
    have hq1 : (m : Int).tdiv (l : Int) = (q : Int) := by rw [Int.tdiv_eq_ediv_of_nonneg (by omega), hq]; simp
    have hq2 : IntKind.u64.wrap ((m : Int).tdiv (l : Int)) = (q : Int) := by rw [hq1, IntKind.wrap_u64]; omega
    have hq3 : (m : Int) / (l : Int) = (q : Int) := by rw [hq]; simp
    have hwq : IntKind.u64.wrap (q : Int) = (q : Int) := by rw [IntKind.wrap_u64]; omega
    by_cases h3 : n ≤ q
    · rw [keyF_no (.inr (by rw [← hm, ← hq]; exact h3))]
      have h4 : (n : Int) ≤ (q : Int) := by omega
      clear h1 hl hm hq h3 hqm
      go_enter Tryz.func47, Tryz.ntmps47
      go_wp2
      exact bodyPost_ret (v := .tuple #[.int .u64 0, .bool false]) (by simp [results, Tryz.results47, go_sem]) rfl ⟨rfl, rfl⟩
    · rw [keyF_yes (by omega) (by rw [← hm, ← hq]; omega), ← hm, ← hq]
      have h4 : ¬ (n : Int) ≤ (q : Int) := by omega
      clear h1 hl hm hq h3 hqm
      go_enter Tryz.func47, Tryz.ntmps47
      go_wp2
      exact bodyPost_ret (v := .tuple #[.int .u64 (q : Int), .bool true]) (by simp [results, Tryz.results47, go_sem]) rfl ⟨rfl, rfl⟩
end Go.Proofs.YtmnklonoelpidaaGreatDoor
/- Layer 14's document: Root, Key, Part. -/
namespace Go.Proofs.YtmnklonoelpidaaGreatDoor
open Go.RowKit

theorem RLad.cells {b : Nat} {s : (List UInt8)} {f l n : Nat} {w : World} (h : RLad b s f l n w) : ∃ (ao : Option Addr) (cp : Nat), w.cell? ⟨b, 0, none⟩ = some (.string ⟨s.toArray⟩) ∧ w.cell? ⟨b, 1, none⟩ = some (.int .u64 (f : Int)) ∧ w.cell? ⟨b, 2, none⟩ = some (.int .u64 (l : Int)) ∧ w.cell? ⟨b, 3, none⟩ = some (.slice ao n cp) ∧ Strs ao (rungsL s n) w := by
  obtain ⟨ao, cp, h1, h2⟩ := h
  exact ⟨ao, cp, (lit_cell h1 0).trans rfl, (lit_cell h1 1).trans rfl, (lit_cell h1 2).trans rfl, (lit_cell h1 3).trans rfl, h2⟩
set_option maxRecDepth 100000 in
set_option maxHeartbeats 2000000 in
theorem rroot_any (b : Nat) (s : (List UInt8)) (f l n : Nat) (w : World) (h : RLad b s f l n w) (hn : 1 ≤ n) (hn2 : n ≤ 64) : Calls Tryz.prog 15 #[.pointer (some ⟨b, 0, none⟩)] w fun e w' => e = .returned (.string ⟨(rootS s n).toArray⟩) ∧ Below w.heap.size w w' := by
  obtain ⟨ao, cp, c0, c1, c2, c3, hS⟩ := h.cells
  have hlen := rungsL_len s n
  have hdep : dep n ≤ 16 := dep_le n (by omega)
  have HD := Lib.hid (show Calls Tryz.prog 44 #[.int .i64 (n : Int)] w fun e w' => e = .returned (.int .i64 (dep n : Int)) ∧ w = w' from by
    have h2 := refDepth_any (n : Int) w
    rwa [depthV, if_neg (by omega), Int.toNat_natCast] at h2)
  have HG := Lib.hid (show Calls Tryz.prog 45 #[.slice ao n cp, .int .i64 (dep n : Int), .int .i64 (dep n : Int), .int .u64 0] w fun e w' => e = .returned (.string ⟨(rootS s n).toArray⟩) ∧ Below w.heap.size w w' by
    have := rdigest_any (rungsL s n) ao cp (dep n) hdep (by omega) (fun i h => Nat.le_trans (rungsL_short s n _ (List.getElem_mem h)) (by decide)) (dep n) 0 w hS (by rw [Nat.zero_add, Nat.one_mul]; exact Nat.pow_le_pow_right (by decide) hdep)
    rw [hlen] at this
    rw [rootS, rootD, hlen]
    exact this)
  generalize rootS s n = R at *
  clear h hS hlen hn hn2 c0 c1 c2
  go_enter Tryz.func15, Tryz.ntmps15
  go_wp2_with (first
    | (go_at_call 44; with_reducible refine HD.out.mono ?_; rintro e w1 ⟨rfl, hw1⟩; subst hw1)
    | (go_at_call 45; with_reducible refine HG.out.mono ?_; rintro e w2 ⟨rfl, hb⟩; have HB := Lib.hid hb; clear hb))
  go_ret
  exact ⟨rfl, HB.out⟩
set_option maxRecDepth 100000 in
set_option maxHeartbeats 2000000 in
theorem rkey_any (b : Nat) (s : (List UInt8)) (f l n r : Nat) (w : World) (h : RLad b s f l n w) (hl : 0 < l) (hn : n ≤ 64) (hr : r < 18446744073709551616) : Calls Tryz.prog 19 #[.pointer (some ⟨b, 0, none⟩), .int .u64 (r : Int)] w fun e w' => e = .returned (.tuple #[.int .u64 (keyF f l n r).1, .bool (keyF f l n r).2]) ∧ Below w.heap.size w w' := by
  obtain ⟨ao, cp, c0, c1, c2, c3, hS⟩ := h.cells
  have hwn : IntKind.u64.wrap (n : Int) = (n : Int) := by rw [IntKind.wrap_u64]; omega
  have HK := Lib.hid (fun wz => (key_calls f l n r wz hl hr).mono fun e w' (h : e = .returned (.tuple #[.int .u64 (keyF f l n r).1, .bool (keyF f l n r).2]) ∧ w' = wz) => (show e = .returned (.tuple #[.int .u64 (keyF f l n r).1, .bool (keyF f l n r).2]) ∧ Below wz.heap.size wz w' from ⟨h.1, by rw [h.2]; exact Below.refl _ _⟩))
  generalize (keyF f l n r).1 = k at *
  generalize (keyF f l n r).2 = q at *
  have hS1 : w.drew.cell? ⟨b, 1, none⟩ = some (.int .u64 (f : Int)) ∧ w.drew.cell? ⟨b, 2, none⟩ = some (.int .u64 (l : Int)) ∧ w.drew.cell? ⟨b, 3, none⟩ = some (.slice ao n cp) ∧ Below w.heap.size w w.drew := ⟨c1, c2, c3, (Below.refl _ _).drew⟩
  have HST := Lib.hid (show ∀ wz wa, (wz.cell? ⟨b, 1, none⟩ = some (.int .u64 (f : Int)) ∧ wz.cell? ⟨b, 2, none⟩ = some (.int .u64 (l : Int)) ∧ wz.cell? ⟨b, 3, none⟩ = some (.slice ao n cp) ∧ Below w.heap.size w wz) → Below wz.heap.size wz wa → (wa.cell? ⟨b, 1, none⟩ = some (.int .u64 (f : Int)) ∧ wa.cell? ⟨b, 2, none⟩ = some (.int .u64 (l : Int)) ∧ wa.cell? ⟨b, 3, none⟩ = some (.slice ao n cp) ∧ Below w.heap.size w wa) from fun wz wa h hb => ⟨key_keep hb h.1, key_keep hb h.2.1, key_keep hb h.2.2.1, below_next h.2.2.2 hb⟩)
  clear h c0 c1 c2 c3 hS hl hn hr
  go_enter Tryz.func19, Tryz.ntmps19
  go_upto_region 1 with fail
  go_region_held3 (fun wz => (wz.cell? ⟨b, 1, none⟩ = some (.int .u64 (f : Int)) ∧ wz.cell? ⟨b, 2, none⟩ = some (.int .u64 (l : Int)) ∧ wz.cell? ⟨b, 3, none⟩ = some (.slice ao n cp) ∧ Below w.heap.size w wz))
    (first | (with_reducible assumption))
    (first
      | (go_at_call 47; with_reducible refine (HK.out _).mono ?_; rintro e wa ⟨rfl, hba⟩; have hSa := HST.out _ _ (by with_reducible assumption) hba))
  all_goals
    have HF := Lib.hid hSa.2.2.2
    go_wp2
    exact bodyPost_ret (v := .tuple #[.int .u64 (k : Int), .bool q]) (by simp [results, Tryz.results19, go_sem]) rfl ⟨rfl, HF.out⟩
end Go.Proofs.YtmnklonoelpidaaGreatDoor
/- Layer 14's document: Part, Sign. -/
namespace Go.Proofs.YtmnklonoelpidaaGreatDoor
open Go.RowKit

set_option maxRecDepth 100000 in
set_option maxHeartbeats 4000000 in
theorem rpart14_any (b : Nat) (s : (List UInt8)) (f l n wt : Nat) (w : World) (h : RLad b s f l n w) (hn : 1 ≤ n) (hn2 : n ≤ 64) : Calls Tryz.prog 17 #[.pointer (some ⟨b, 0, none⟩), .int .u64 (wt : Int)] w fun e w' => e = .returned (.agg #[.string ⟨(rootS s n).toArray⟩, .int .u64 (wt : Int), .int .u64 (f : Int), .int .u64 (l : Int), .int .u64 (n : Int)]) ∧ Below w.heap.size w w' := by
  have hwn : IntKind.u64.wrap (n : Int) = (n : Int) := by rw [IntKind.wrap_u64]; omega
  obtain ⟨R, hR⟩ : ∃ R, R = w.heap.size := ⟨_, rfl⟩
  obtain ⟨w1, hw1⟩ : ∃ w1, w1 = w.alloc (.cells #[.string ⟨#[]⟩, .int .u64 0, .int .u64 0, .int .u64 0, .int .u64 0] 39) := ⟨_, rfl⟩
  have hb1 : Below R w w1 := by rw [hw1, hR]; exact by0 w _
  have hx1 : w1.heap[R]? = some (.cells #[.string ⟨#[]⟩, .int .u64 0, .int .u64 0, .int .u64 0, .int .u64 0] 39 (0, 0)) := by rw [hw1, hR]; exact heap_alloc_new w _
  have h1 : RLad b s f l n w1 := h.next (by rw [← hR]; exact hb1)
  have HRT := Lib.hid (fun wz (hz : RLad b s f l n wz) => rroot_any b s f l n wz hz hn hn2)
  generalize rootS s n = rt at *
  obtain ⟨ao, cp, c0, c1, c2, c3, hS⟩ := h.cells
  have HOF := Lib.hid (show ∀ wz, Below R w wz → (wz.cell? ⟨b, 1, none⟩ = some (.int .u64 (f : Int)) ∧ wz.cell? ⟨b, 2, none⟩ = some (.int .u64 (l : Int)) ∧ wz.cell? ⟨b, 3, none⟩ = some (.slice ao n cp) ∧ Below R w wz) from fun wz hb => ⟨key_keep (by rw [← hR]; exact hb) c1, key_keep (by rw [← hR]; exact hb) c2, key_keep (by rw [← hR]; exact hb) c3, hb⟩)
  have hS1 := HOF.out _ hb1.drew
  have HRS := Lib.hid (fun wz (hz : (wz.cell? ⟨b, 1, none⟩ = some (.int .u64 (f : Int)) ∧ wz.cell? ⟨b, 2, none⟩ = some (.int .u64 (l : Int)) ∧ wz.cell? ⟨b, 3, none⟩ = some (.slice ao n cp) ∧ Below R w wz)) => HRT.out wz (h.next (by rw [← hR]; exact hz.2.2.2)))
  have HRR := Lib.hid hR
  have HX1 := Lib.hid (show w1.drew.heap[R]? = some (.cells #[.string ⟨#[]⟩, .int .u64 0, .int .u64 0, .int .u64 0, .int .u64 0] 39 (0, 0)) from hx1)
  clear h h1 hb1 hx1 c0 c1 c2 c3 hS HRT hn hn2
  go_enter Tryz.func17, Tryz.ntmps17
  go_upto_region 1 with fail
  rw [← hw1, ← HRR.out]
  clear hw1 hR
  go_region_held3 (fun wz => (wz.cell? ⟨b, 1, none⟩ = some (.int .u64 (f : Int)) ∧ wz.cell? ⟨b, 2, none⟩ = some (.int .u64 (l : Int)) ∧ wz.cell? ⟨b, 3, none⟩ = some (.slice ao n cp) ∧ Below R w wz))
    (first | (with_reducible assumption))
    (first
      | (go_at_call 15; with_reducible refine (HRS.out _ (by with_reducible assumption)).mono ?_; rintro e wa ⟨rfl, hba⟩; have hSa := HOF.out wa (hS1.2.2.2.trans (hba.mono (by rw [HRR.out]; exact hS1.2.2.2.size))); have hX := (hba.block _ (lit_lt HX1.out)).trans HX1.out; have r0 := (lit_cell hX 0).trans rfl; have r1 := (lit_cell hX 1).trans rfl; have r2 := (lit_cell hX 2).trans rfl; have r3 := (lit_cell hX 3).trans rfl; have r4 := (lit_cell hX 4).trans rfl; have f0 := lit_free hX 0; have f1 := lit_free hX 1; have f2 := lit_free hX 2; have f3 := lit_free hX 3; have f4 := lit_free hX 4; have hT := HOF.out (((((wa.setCell ⟨R, 0, none⟩ (.string ⟨rt.toArray⟩)).setCell ⟨R, 1, none⟩ (.int .u64 (wt : Int))).setCell ⟨R, 2, none⟩ (.int .u64 (f : Int))).setCell ⟨R, 3, none⟩ (.int .u64 (l : Int))).setCell ⟨R, 4, none⟩ (.int .u64 (n : Int))) (((((hSa.2.2.2.setCell (p := ⟨R, 0, none⟩) (Nat.le_refl _) _).setCell (p := ⟨R, 1, none⟩) (Nat.le_refl _) _).setCell (p := ⟨R, 2, none⟩) (Nat.le_refl _) _).setCell (p := ⟨R, 3, none⟩) (Nat.le_refl _) _).setCell (p := ⟨R, 4, none⟩) (Nat.le_refl _) _); have HX := Lib.hid hX))
  all_goals
    have hXT := lit_set (k := 4) (.int .u64 (n : Int)) (lit_set (k := 3) (.int .u64 (l : Int)) (lit_set (k := 2) (.int .u64 (f : Int)) (lit_set (k := 1) (.int .u64 (wt : Int)) (lit_set (k := 0) (.string ⟨rt.toArray⟩) HX.out))))
    have v0 := (lit_cell hXT 0).trans rfl
    have v1 := (lit_cell hXT 1).trans rfl
    have v2 := (lit_cell hXT 2).trans rfl
    have v3 := (lit_cell hXT 3).trans rfl
    have v4 := (lit_cell hXT 4).trans rfl
    have HF := Lib.hid hT.2.2.2
    clear hXT hT hX r0 r1 r2 r3 r4 f0 f1 f2 f3 f4 hS1 hSa HOF HRS
    generalize (((((wa.setCell ⟨R, 0, none⟩ (.string ⟨rt.toArray⟩)).setCell ⟨R, 1, none⟩ (.int .u64 (wt : Int))).setCell ⟨R, 2, none⟩ (.int .u64 (f : Int))).setCell ⟨R, 3, none⟩ (.int .u64 (l : Int))).setCell ⟨R, 4, none⟩ (.int .u64 (n : Int))) = wT at *
    go_wp2
    refine bodyPost_ret (v := .agg #[.string ⟨rt.toArray⟩, .int .u64 (wt : Int), .int .u64 (f : Int), .int .u64 (l : Int), .int .u64 (n : Int)]) (by simp [results, Tryz.results17, go_sem, v0, v1, v2, v3, v4]) rfl ⟨rfl, by rw [← HRR.out]; exact HF.out⟩
end Go.Proofs.YtmnklonoelpidaaGreatDoor
/- What the program's ladders are to do. -/
namespace Go.Proofs.YtmnklonoelpidaaGreatDoor
open Go.RowKit Go.Sort

/-- what a ladder that is one has -/
structure FineL (s : (List UInt8)) (f l n : Nat) : Prop where
  hs : s.length = 32
  hl : 0 < l
  hn : 1 ≤ n
  hn2 : n ≤ 64
  ho : f + l * n ≤ 18446744073709551615
theorem newE_fine {s : (List UInt8)} {f l : Nat} {n : Int} (h : newE s f l n = 0) : FineL s f l n.toNat := by
  unfold newE at h
  split at h
  · cases h
  · split at h
    · cases h
    · rename_i h1 h2
      exact ⟨by omega, by omega, by omega, by omega, by omega⟩
theorem newE_of {s : (List UInt8)} {f l N : Nat} (h : FineL s f l N) : newE s f l (N : Int) = 0 := by
  have h1 := h.hs; have h2 := h.hl; have h3 := h.hn; have h4 := h.hn2; have h5 := h.ho
  unfold newE
  rw [if_neg (by omega), if_neg (by rw [Int.toNat_natCast]; omega)]
/-- what a call of Sign answers, in memory -/
def SigO (A : SigA) (w : World) (e : Ending) (w' : World) : Prop := ∃ (wo po : Option Addr) (wc pc : Nat), e = .returned (.tuple #[.agg #[.int .u64 (A.i : Int), .slice wo A.w.length wc, .slice po A.p.length pc], .int .i64 (A.e : Int)]) ∧ Strs wo A.w w' ∧ Strs po A.p w' ∧ A.p.length ≤ pc ∧ Below w.heap.size w w'
/-- what is asked of ladders; Ld b s f l n: in the block b lies the ladder of that making -/
structure LadderC (Ld : Nat → (List UInt8) → Nat → Nat → Nat → World → Prop) : Prop where
  ck : ∀ {b : Nat} {s : (List UInt8)} {f l n : Nat} {w w' : World}, Ld b s f l n w → Below w.heap.size w w' → Ld b s f l n w'
  ca : ∀ (s : (List UInt8)) (f l : Nat) (n : Int) (w : World), Glob w → s.length ≤ 1000 → f < 18446744073709551616 → l < 18446744073709551616 → -9223372036854775808 ≤ n ∧ n ≤ 9223372036854775807 → newE s f l n ≠ 0 → Calls Tryz.prog 10 #[.string ⟨s.toArray⟩, .int .u64 (f : Int), .int .u64 (l : Int), .int .i64 n] w fun e w' => e = .returned (.tuple #[.pointer none, .int .i64 (newE s f l n : Nat)]) ∧ Below w.heap.size w w'
  cn : ∀ (s : (List UInt8)) (f l N : Nat) (w : World), Glob w → FineL s f l N → Calls Tryz.prog 10 #[.string ⟨s.toArray⟩, .int .u64 (f : Int), .int .u64 (l : Int), .int .i64 (N : Int)] w fun e w' => ∃ b, e = .returned (.tuple #[.pointer (some ⟨b, 0, none⟩), .int .i64 0]) ∧ Ld b s f l N w' ∧ Below w.heap.size w w'
  cr : ∀ (b : Nat) (s : (List UInt8)) (f l n : Nat) (w : World), Glob w → FineL s f l n → Ld b s f l n w → Calls Tryz.prog 14 #[.pointer (some ⟨b, 0, none⟩)] w fun e w' => e = .returned (.string ⟨(rootS s n).toArray⟩) ∧ Below w.heap.size w w'
  cq : ∀ (b : Nat) (s : (List UInt8)) (f l n r : Nat) (w : World), Glob w → FineL s f l n → Ld b s f l n w → r < 18446744073709551616 → Calls Tryz.prog 18 #[.pointer (some ⟨b, 0, none⟩), .int .u64 (r : Int)] w fun e w' => e = .returned (.tuple #[.int .u64 (keyF f l n r).1, .bool (keyF f l n r).2]) ∧ Below w.heap.size w w'
  cp : ∀ (b : Nat) (s : (List UInt8)) (f l n wt : Nat) (w : World), Glob w → FineL s f l n → Ld b s f l n w → wt < 18446744073709551616 → Calls Tryz.prog 16 #[.pointer (some ⟨b, 0, none⟩), .int .u64 (wt : Int)] w fun e w' => e = .returned (.agg #[.string ⟨(rootS s n).toArray⟩, .int .u64 (wt : Int), .int .u64 (f : Int), .int .u64 (l : Int), .int .u64 (n : Int)]) ∧ Below w.heap.size w w'
  cs : ∀ (b : Nat) (s : (List UInt8)) (f l n r : Nat) (d : (List UInt8)) (w : World), Glob w → FineL s f l n → Ld b s f l n w → r < 18446744073709551616 → d.length ≤ 1000 → Calls Tryz.prog 20 #[.pointer (some ⟨b, 0, none⟩), .int .u64 (r : Int), .string ⟨d.toArray⟩] w (SigO (signA s f l n r d) w)
  cv : ∀ (root : (List UInt8)) (wt f l n r : Nat) (d : (List UInt8)) (i : Nat) (W P : List (List UInt8)) (wo po : Option Addr) (wc pc : Nat) (w : World), Glob w → root.length ≤ 1000 → r < 18446744073709551616 → f < 18446744073709551616 → l < 18446744073709551616 → n < 18446744073709551616 → i < 18446744073709551616 → wt < 18446744073709551616 → d.length ≤ 1000 → Strs wo W w → Strs po P w → W.length ≤ 1000 → (W.length = 67 → ∀ x ∈ W, x.length ≤ 1000) → P.length ≤ pc → P.length ≤ 100000 → ((recC W d).2 = 0 → ∀ x ∈ P, x.length ≤ 1000) →
    Calls Tryz.prog 24 #[.agg #[.string ⟨root.toArray⟩, .int .u64 (wt : Int), .int .u64 (f : Int), .int .u64 (l : Int), .int .u64 (n : Int)], .int .u64 (r : Int), .string ⟨d.toArray⟩, .agg #[.int .u64 (i : Int), .slice wo W.length wc, .slice po P.length pc]] w fun e w' => e = .returned (.int .i64 (verV root f l n r d i W P : Nat)) ∧ Below w.heap.size w w'
  cr0 : ∀ w : World, Glob w → Calls Tryz.prog 14 #[.pointer none] w fun e w' => e = .returned (.string ⟨#[]⟩) ∧ Below w.heap.size w w'
  cq0 : ∀ (r : Nat) (w : World), Glob w → Calls Tryz.prog 18 #[.pointer none, .int .u64 (r : Int)] w fun e w' => e = .returned (.tuple #[.int .u64 0, .bool false]) ∧ Below w.heap.size w w'
  cp0 : ∀ (wt : Nat) (w : World), Glob w → Calls Tryz.prog 16 #[.pointer none, .int .u64 (wt : Int)] w fun e w' => e = .returned (.agg #[.string ⟨#[]⟩, .int .u64 0, .int .u64 0, .int .u64 0, .int .u64 0]) ∧ Below w.heap.size w w'
  cs0 : ∀ (r : Nat) (d : (List UInt8)) (w : World), Glob w → Calls Tryz.prog 20 #[.pointer none, .int .u64 (r : Int), .string ⟨d.toArray⟩] w fun e w' => e = .returned (.tuple #[.agg #[.int .u64 0, .slice none 0 0, .slice none 0 0], .int .i64 1]) ∧ Below w.heap.size w w'
theorem path_short (s : (List UInt8)) (n k : Nat) : ∀ x ∈ proofD (rungsL s n) [k], x.length ≤ 1000 := fun x hx => by rw [proofD_32 _ _ x hx]; decide
/-- a ladder of one key -/
theorem rootS_one (s : (List UInt8)) : rootS s 1 = hashL leafT [numL 0 ++ pubF s 0] := by
  have hd : dep 1 = 0 := by decide +kernel
  rw [rootS, rootD, rungsL_len, hd, dg, gl]
  rfl
theorem path_one (s : (List UInt8)) : (proofD (rungsL s 1) [0]).length = 0 := by
  rw [proofD_len, rungsL_len]
  decide +kernel
end Go.Proofs.YtmnklonoelpidaaGreatDoor
