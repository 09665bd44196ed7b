/- Layer 13: a key's secrets, what is public of it, signatures, plainly. -/
import Derived.Test.YtmnklonoelpidaaGreatDoorJ8
namespace Go.Proofs.YtmnklonoelpidaaGreatDoor
open Go.RowKit

def secretT : (List UInt8) := [115, 101, 99, 114, 101, 116]
def publicT : (List UInt8) := [112, 117, 98, 108, 105, 99]
/-- the secret of the chain i of a key -/
def secF (s : (List UInt8)) (n i : Nat) : (List UInt8) := hashL secretT [s, numL n, [UInt8.ofNat i]]
theorem secF_len (s : (List UInt8)) (n i : Nat) : (secF s n i).length ≤ 32 := hashL_len _ _
/-- a digest's digit -/
def dgt (d : (List UInt8)) (i : Nat) : Nat := (digL d).getD i 0
theorem dgt_at {d : (List UInt8)} (h : d.length = 32) {i : Nat} (hi : i < 67) : (digL d)[i]? = some (dgt d i) := by
  have hl := digL_len h
  rw [dgt, List.getD_eq_getElem?_getD, List.getElem?_eq_getElem (by omega)]
  rfl
theorem dgt_le {d : (List UInt8)} (h : d.length = 32) {i : Nat} (hi : i < 67) : dgt d i ≤ 15 := digL_le h _ (List.mem_of_getElem? (dgt_at h hi))
/-- sixty-seven texts -/
def row67 (f : Nat → (List UInt8)) : List (List UInt8) := (List.range 67).map f
theorem row67_len (f : Nat → (List UInt8)) : (row67 f).length = 67 := by simp [row67]
theorem row67_get (f : Nat → (List UInt8)) (i : Nat) (h : i < 67) : (row67 f)[i]'(by rw [row67_len]; exact h) = f i := by simp [row67]
theorem row67_get? (f : Nat → (List UInt8)) (i : Nat) (h : i < 67) : (row67 f)[i]? = some (f i) := by simp [row67, h]
theorem row67_getD (f : Nat → (List UInt8)) (i : Nat) (h : i < 67) : (row67 f).getD i [] = f i := by rw [List.getD_eq_getElem?_getD, row67_get? f i h]; rfl
theorem row67_take (f : Nat → (List UInt8)) (k : Nat) (h : k < 67) : (row67 f).take (k + 1) = (row67 f).take k ++ [f k] := by
  rw [List.take_succ_eq_append_getElem (by rw [row67_len]; exact h), row67_get f k h]
theorem row67_congr {f g : Nat → (List UInt8)} (h : ∀ i, i < 67 → f i = g i) : row67 f = row67 g := List.map_congr_left fun i hi => h i (List.mem_range.1 hi)
/-- the ends of a key's chains; what is public; a signature; the ends that come of one -/
def endsL (s : (List UInt8)) (n : Nat) : List (List UInt8) := row67 fun i => walkV i 0 15 (secF s n i)
def pubF (s : (List UInt8)) (n : Nat) : (List UInt8) := hashL publicT (endsL s n)
def sigL (s : (List UInt8)) (n : Nat) (d : (List UInt8)) : List (List UInt8) := row67 fun i => walkV i 0 (dgt d i : Nat) (secF s n i)
def recL (g : List (List UInt8)) (d : (List UInt8)) : List (List UInt8) := row67 fun i => walkV i (dgt d i : Nat) 15 (g.getD i [])
def recF (g : List (List UInt8)) (d : (List UInt8)) : (List UInt8) := hashL publicT (recL g d)
/-- may these be a signature? -/
def isSig (g : List (List UInt8)) : Bool := g.length == 67 && g.all fun x => x.length == 32
/-- what Sign, and what Recover answers -/
def signC (s : (List UInt8)) (n : Nat) (d : (List UInt8)) : List (List UInt8) × Nat := if d.length = 32 then (sigL s n d, 0) else ([], 2)
def recC (g : List (List UInt8)) (d : (List UInt8)) : (List UInt8) × Nat := if d.length = 32 then if isSig g then (recF g d, 0) else ([], 10) else ([], 2)
theorem walkV_len32 (i a b : Nat) (x : (List UInt8)) (hx : x.length ≤ 32) : (walkV i a b x).length ≤ 32 := by
  unfold walkV
  split
  · generalize (b : Int).toNat - (a : Int).toNat = n
    cases n with
    | zero => exact hx
    | succ n => rw [walkF, stepF]; exact hashL_len _ _
  · simp
/-- from a signature what is public comes -/
theorem rec_sig {s d : (List UInt8)} {n : Nat} (h : d.length = 32) : recL (sigL s n d) d = endsL s n := by
  refine row67_congr fun i hi => ?_
  rw [sigL, row67_getD _ i hi]
  exact walkV_two i 0 (dgt d i) 15 _ (by omega) (Nat.zero_le _) (dgt_le h hi) (Nat.le_refl _)
theorem framed67 (tag : (List UInt8)) (f : Nat → (List UInt8)) (ht : tag.length ≤ 16) (hf : ∀ i, i < 67 → (f i).length ≤ 10000000) : (framed tag (row67 f)).length < 1100000000 := framed_short tag _ ht (fun x hx => by
  obtain ⟨i, hi, rfl⟩ := List.mem_map.1 hx
  exact hf i (List.mem_range.1 hi)) (by rw [row67_len]; decide)
end Go.Proofs.YtmnklonoelpidaaGreatDoor
/- What the program's Public, Sign, Recover are to do. -/
namespace Go.Proofs.YtmnklonoelpidaaGreatDoor
open Go.RowKit

structure WotsC : Prop where
  p : ∀ (s : (List UInt8)) (n : Nat) (w : World), Glob w → s.length ≤ 1000 → n < 18446744073709551616 → Calls Tryz.prog 27 #[.string ⟨s.toArray⟩, .int .u64 (n : Int)] w fun e w' => e = .returned (.string ⟨(pubF s n).toArray⟩) ∧ Below w.heap.size w w'
  s : ∀ (s : (List UInt8)) (n : Nat) (d : (List UInt8)) (w : World), Glob w → s.length ≤ 1000 → n < 18446744073709551616 → d.length ≤ 1000 → Calls Tryz.prog 52 #[.string ⟨s.toArray⟩, .int .u64 (n : Int), .string ⟨d.toArray⟩] w fun e w' => ∃ ao cp, e = .returned (.tuple #[.slice ao (signC s n d).1.length cp, .int .i64 (signC s n d).2]) ∧ Strs ao (signC s n d).1 w' ∧ (signC s n d).1.length ≤ cp ∧ Below w.heap.size w w'
  r : ∀ (g : List (List UInt8)) (ao : Option Addr) (cp : Nat) (d : (List UInt8)) (w : World), Glob w → Strs ao g w → g.length ≤ 1000 → (∀ x ∈ g, x.length ≤ 1000) → d.length ≤ 1000 → Calls Tryz.prog 89 #[.slice ao g.length cp, .string ⟨d.toArray⟩] w fun e w' => e = .returned (.tuple #[.string ⟨(recC g d).1.toArray⟩, .int .i64 (recC g d).2]) ∧ Below w.heap.size w w'
end Go.Proofs.YtmnklonoelpidaaGreatDoor
/- What Sign and Recover answer, case by case. -/
namespace Go.Proofs.YtmnklonoelpidaaGreatDoor
open Go.RowKit

theorem signC_yes {s : (List UInt8)} {n : Nat} {d : (List UInt8)} (h : d.length = 32) : signC s n d = (sigL s n d, 0) := if_pos h
theorem signC_no {s : (List UInt8)} {n : Nat} {d : (List UInt8)} (h : ¬ d.length = 32) : signC s n d = ([], 2) := if_neg h
theorem recC_arg {g : List (List UInt8)} {d : (List UInt8)} (h : ¬ d.length = 32) : recC g d = ([], 2) := if_neg h
theorem recC_sig {g : List (List UInt8)} {d : (List UInt8)} (h : d.length = 32) (hg : isSig g = false) : recC g d = ([], 10) := by rw [recC, if_pos h, hg]; rfl
theorem recC_yes {g : List (List UInt8)} {d : (List UInt8)} (h : d.length = 32) (hg : isSig g = true) : recC g d = (recF g d, 0) := by rw [recC, if_pos h, hg]; rfl
theorem isSig_len {g : List (List UInt8)} (h : ¬ g.length = 67) : isSig g = false := by simp [isSig, h]
theorem isSig_no {g : List (List UInt8)} {k : Nat} (hk : k < g.length) (h : ¬ g[k].length = 32) : isSig g = false := by
  rw [isSig, Bool.and_eq_false_iff]
  right
  rw [List.all_eq_false]
  exact ⟨_, List.getElem_mem hk, by simpa using h⟩
theorem isSig_yes {g : List (List UInt8)} (hl : g.length = 67) (h : ∀ k (hk : k < g.length), g[k].length = 32) : isSig g = true := by
  rw [isSig, Bool.and_eq_true]
  refine ⟨by simpa using hl, ?_⟩
  rw [List.all_eq_true]
  intro x hx
  obtain ⟨k, hk, rfl⟩ := List.getElem_of_mem hx
  simpa using h k hk
end Go.Proofs.YtmnklonoelpidaaGreatDoor
/- Lengths of what stands on chains; what comes of a signature. -/
namespace Go.Proofs.YtmnklonoelpidaaGreatDoor
open Go.RowKit

theorem hash_is32 (tag : (List UInt8)) (L : List (List UInt8)) (h : Tag tag) : (hashL tag L).length = 32 := by rw [hashL, if_pos h]; exact shaL_length _
theorem secF_32 (s : (List UInt8)) (n i : Nat) : (secF s n i).length = 32 := hash_is32 _ _ (by decide)
theorem walkV_32 (i b : Nat) (x : (List UInt8)) (hi : i ≤ 66) (hb : b ≤ 15) (hx : x.length = 32) : (walkV i 0 b x).length = 32 := by
  have := walkV_nat i 0 b x hi (Nat.zero_le _) hb
  rw [show walkV (i : Int) 0 (b : Int) x = walkF i 0 (b - 0) x from this]
  cases b with
  | zero => exact hx
  | succ b => rw [Nat.sub_zero, walkF, stepF]; exact hash_is32 _ _ (by decide)
/-- what comes of a signature -/
theorem rec_back {s d : (List UInt8)} {n : Nat} (h : d.length = 32) : recC (sigL s n d) d = (pubF s n, 0) := by
  have hl67 : (sigL s n d).length = 67 := by rw [sigL, row67_len]
  have hs1 : isSig (sigL s n d) = true := isSig_yes hl67 (fun k hk => by rw [show (sigL s n d)[k] = walkV (k : Int) 0 (dgt d k : Nat) (secF s n k) from row67_get _ k (by omega)]; exact walkV_32 k _ _ (by omega) (dgt_le h (by omega)) (secF_32 _ _ _))
  rw [recC_yes h hs1, recF, rec_sig h]; rfl
theorem sig_short (s d : (List UInt8)) (n : Nat) : ∀ t ∈ sigL s n d, t.length ≤ 32 := by
  intro t ht
  obtain ⟨i, hi, rfl⟩ := List.mem_map.1 ht
  exact walkV_len32 i 0 _ _ (secF_len _ _ _)
end Go.Proofs.YtmnklonoelpidaaGreatDoor
