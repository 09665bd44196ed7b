/- Layer 11's plain facts: the root that comes of leaves that are known, and a proof; that of a list's own proof. -/
import Derived.Test.YtblimejnjboedaaGreatDoorJ20
import Derived.Test.YtblimejnjboedaaGreatDoorJ32
namespace Go.Proofs.YtblimejnjboedaaGreatDoor
open Go.RowKit Go.Sort

theorem known_own {LV : List Nat} {D : Nat} {R : List (List UInt8)} {f g : Nat → (List UInt8)} (hLV : ∀ z ∈ LV, z < 2 ^ D) (hf : ∀ x ∈ LV, f x = g x) (hR : ∀ i, i < D → ∀ x ∈ needOf (upTo LV i) (2 ^ (D - i)), givenD (needM LV D) R i x = dg g i x) :
    ∀ i, i ≤ D → ∀ p ∈ upTo LV i, knownD LV D R f i p = dg g i p
  | 0, _, p, hp => by
    rw [upTo_zero] at hp
    exact hf p hp
  | i + 1, hi, p, hp => by
    have IH := known_own hLV hf hR i (by omega)
    have key : ∀ x, x / 2 = p → (if x ∈ upTo LV i then knownD LV D R f i x else givenD (needM LV D) R i x) = dg g i x := by
      intro x hx
      rcases pair_known hLV (by omega) hp hx with c | ⟨c, d⟩
      · rw [if_pos c]; exact IH x c
      · rw [if_neg c]; exact hR i (by omega) x d
    rw [knownD, key (2 * p) (by omega), key (2 * p + 1) (by omega)]
    rfl
/-- a list's own proof gives each needed place its digest -/
theorem given_own {L : List (List UInt8)} {P : List Nat} {i x : Nat} (hi : i < dep L.length) (hx : x ∈ needOf (upTo (lvs P (dep L.length)) i) (2 ^ (dep L.length - i))) : givenD (needM (lvs P (dep L.length)) (dep L.length)) (proofD L P) i x = dg (gl L (dep L.length)) i x := by
  obtain ⟨M, hM⟩ : ∃ M, M = needM (lvs P (dep L.length)) (dep L.length) := ⟨_, rfl⟩
  have hat := needM_at (L := lvs P (dep L.length)) hi
  rw [← hM] at hat
  obtain ⟨N, hN⟩ : ∃ N, N = needOf (upTo (lvs P (dep L.length)) i) (2 ^ (dep L.length - i)) := ⟨_, rfl⟩
  rw [← hN] at hat hx
  obtain ⟨hiM, hMi⟩ := List.getElem?_eq_some_iff.1 hat
  have hj : N.idxOf x < N.length := List.idxOf_lt_length_of_mem hx
  have hfl := flat_get M 0 i (N.idxOf x) hiM (by rw [hMi]; exact hj)
  rw [givenD, proofD, ← hM, hat, List.getElem?_map]
  simp only [Option.getD_some]
  rw [show flat M = flatFrom 0 M from rfl, hfl]
  simp only [hMi, Nat.zero_add, Option.map_some, Option.getD_some, List.getElem_idxOf]
/-- lists that differ at the positions alone have one proof of these -/
theorem gl_alike {L L' : List (List UInt8)} {P : List Nat} {D j : Nat} (hD : D ≤ 16) (hlen : L'.length = L.length) (hoff : ∀ i, i ∉ P → L'[i]? = L[i]?) (hj : j < 2 ^ D) (hn : j ∉ lvs P D) : gl L' D j = gl L D j := by
  have hp : turnB j (D : Int) ∉ P := fun c => hn (List.mem_map.2 ⟨_, c, turnB_turnB hD hj⟩)
  by_cases c : turnB j (D : Int) < L.length
  · have c' : turnB j (D : Int) < L'.length := by omega
    rw [gl_in rfl c, gl_in rfl c']
    have h := hoff _ hp
    rw [List.getElem?_eq_getElem c, List.getElem?_eq_getElem c'] at h
    rw [Option.some.inj h]
  · rw [gl_out c, gl_out (by omega)]
theorem proof_alike {L L' : List (List UInt8)} {P : List Nat} (hD : dep L.length ≤ 16) (hlen : L'.length = L.length) (hoff : ∀ i, i ∉ P → L'[i]? = L[i]?) : proofD L' P = proofD L P := by
  rw [proofD, proofD, hlen]
  refine List.map_congr_left fun p hp => ?_
  obtain ⟨h1, h2⟩ := flat_in hp
  obtain ⟨i, N, e1, e2, e3⟩ := flat_mem _ 0 p hp
  rw [Nat.zero_add] at e1
  subst e1
  rw [needM_at h1] at e2
  cases e2
  have hno : p.2 ∉ upTo (lvs P (dep L.length)) p.1 := by
    rw [needOf, List.mem_filter] at e3
    exact (of_decide_eq_true e3.2).2
  refine dg_congr p.1 p.2 fun j j1 j2 => gl_alike hD hlen hoff ?_ fun hj => hno (mem_upTo.2 ⟨j, hj, Nat.div_eq_of_lt_le j1 j2⟩)
  calc j < (p.2 + 1) * 2 ^ p.1 := j2
    _ ≤ 2 ^ (dep L.length - p.1) * 2 ^ p.1 := Nat.mul_le_mul_right _ h2
    _ = 2 ^ dep L.length := by rw [← Nat.pow_add]; congr 1; omega
/-- P11.3: of a list, and the proof that is made of some positions, its root comes; with other elements there the root of the list with those -/
theorem comes_back {L L' : List (List UInt8)} {P : List Nat} (hL : L.length ≤ 65536) (hs : standsP P L.length = true) (hlen : L'.length = L.length) (hoff : ∀ i, i ∉ P → L'[i]? = L[i]?) {f : Nat → (List UInt8)} (hf : ∀ p ∈ P, f (turnB p (dep L.length : Int)) = hashL leafT [L'[p]?.getD []]) :
    comesD (lvs P (dep L.length)) (dep L.length) (proofD L P) f = rootD L' := by
  have hd := dep_le L.length hL
  have hsp := (dep_spec L.length hL).1
  have hpp := stands_parts hs
  have hLV : ∀ z ∈ lvs P (dep L.length), z < 2 ^ dep L.length := fun z hz => by
    obtain ⟨p, hp, rfl⟩ := List.mem_map.1 hz
    exact turnB_lt hd (Nat.lt_of_lt_of_le (hpp.2.2 p hp) hsp)
  have hroot : 0 ∈ upTo (lvs P (dep L.length)) (dep L.length) := by
    obtain ⟨p, hp⟩ := List.exists_mem_of_ne_nil P hpp.1
    have hm : turnB p (dep L.length : Int) ∈ lvs P (dep L.length) := List.mem_map.2 ⟨p, hp, rfl⟩
    exact mem_upTo.2 ⟨_, hm, Nat.div_eq_of_lt (hLV _ hm)⟩
  have h := known_own (R := proofD L P) (f := f) (g := gl L' (dep L.length)) hLV (fun x hx => by
    obtain ⟨p, hp, rfl⟩ := List.mem_map.1 hx
    have hpl : p < L'.length := by rw [hlen]; exact hpp.2.2 p hp
    rw [hf p hp, gl_in (turnB_turnB hd (by omega)) hpl, List.getElem?_eq_getElem hpl]
    rfl) (fun i hi x hx => by
    have e := given_own (L := L') (P := P) (i := i) (x := x) (by rw [hlen]; exact hi) (by rw [hlen]; exact hx)
    rw [hlen, proof_alike hd hlen hoff] at e
    exact e) (dep L.length) (Nat.le_refl _) 0 hroot
  rw [comesD, h, rootD, hlen]
end Go.Proofs.YtblimejnjboedaaGreatDoor
