/- The program's table of rows; which row says a number of a sort. -/
import Derived.Test.YtgdlfbphfogphaaDoorPk
import Derived.BigQuiet
import Derived.Deep.RegionHeld3
namespace Go.Proofs.YtgdlfbphfogphaaDoor
open Go.RowKit

theorem by0q (w : World) : ∀ n, Below w.heap.size w (w.drewN n)
  | 0 => Below.refl _ _
  | n + 1 => (by0q w n).drew

/-- a row: its sort, the last number that it says, its first byte, the bytes of the number behind it -/
structure RowP where
  s : Int
  last : Nat
  f : Nat
  size : Nat
def rowsL : List RowP := [⟨0, 127, 0, 0⟩, ⟨0, 255, 204, 1⟩, ⟨0, 65535, 205, 2⟩, ⟨0, 4294967295, 206, 4⟩, ⟨0, 18446744073709551615, 207, 8⟩, ⟨1, 255, 196, 1⟩, ⟨1, 65535, 197, 2⟩,
  ⟨2, 31, 160, 0⟩, ⟨2, 255, 217, 1⟩, ⟨2, 65535, 218, 2⟩, ⟨3, 15, 144, 0⟩, ⟨3, 65535, 220, 2⟩, ⟨4, 15, 128, 0⟩, ⟨4, 65535, 222, 2⟩]
def rowAt (i : Nat) : RowP := rowsL.getD i ⟨0, 0, 0, 0⟩
def rowV (r : RowP) : List Value := [.int .i64 r.s, .int .u64 (r.last : Int), .int .u8 (r.f : Int), .int .i64 (r.size : Int)]
/-- the package's table -/
structure Glob (w : World) : Prop where
  size : 0 < w.heap.size
  c : ∀ i j, i < 14 → j < 4 → w.cell? ⟨0, i * 4 + j, none⟩ = (rowV (rowAt i))[j]?
theorem Glob.below {B : Nat} {w w' : World} (h : Glob w) (hB : 1 ≤ B) (hb : Below B w w') : Glob w' :=
  ⟨by have := hb.size; have := h.size; omega, fun i j hi hj => (hb.cell (p := ⟨0, i * 4 + j, none⟩) (by show 0 < B; omega)).trans (h.c i j hi hj)⟩
theorem Glob.next {w w' : World} (h : Glob w) (hb : Below w.heap.size w w') : Glob w' := h.below h.size hb
theorem Glob.cells {w : World} (h : Glob w) (i : Nat) (hi : i < 14) : w.cell? ⟨0, i * 4, none⟩ = some (.int .i64 (rowAt i).s) ∧ w.cell? ⟨0, i * 4 + 1, none⟩ = some (.int .u64 ((rowAt i).last : Int)) ∧
    w.cell? ⟨0, i * 4 + 2, none⟩ = some (.int .u8 ((rowAt i).f : Int)) ∧ w.cell? ⟨0, i * 4 + 3, none⟩ = some (.int .i64 ((rowAt i).size : Int)) :=
  ⟨h.c i 0 hi (by decide), h.c i 1 hi (by decide), h.c i 2 hi (by decide), h.c i 3 hi (by decide)⟩

/-- the row says it -/
def saysB (r : RowP) (s : Int) (n : Nat) : Bool := r.s == s && decide (n ≤ r.last)

set_option maxRecDepth 100000 in
set_option maxHeartbeats 1000000 in
theorem says_any (p0 p1 p2 : Nat) (i : Nat) (s : Int) (n : Nat) (w : World) (hi : i < 14) (hg : Glob w)
    (h0 : w.cell? ⟨p0, 0, none⟩ = some (.int .i64 (i : Int))) (h1 : w.cell? ⟨p1, 0, none⟩ = some (.int .i64 s)) (h2 : w.cell? ⟨p2, 0, none⟩ = some (.int .u64 (n : Int))) :
    Calls Tryd.prog 44 #[.pointer (some ⟨p0, 0, none⟩), .pointer (some ⟨p1, 0, none⟩), .pointer (some ⟨p2, 0, none⟩)] w fun e w' => e = .returned (.bool (saysB (rowAt i) s n)) ∧ Below w.heap.size w w' := by
  obtain ⟨g0, g1, _, _⟩ := hg.cells i hi
  have hsz := hg.size
  unfold saysB
  generalize rowAt i = r at *
  obtain ⟨rs, rl, rf, rz⟩ := r
  have i0 : (0 : Int) ≤ (i : Int) := by omega
  have i1 : (i : Int) < 14 := by omega
  clear hi hg
  by_cases hs : rs = s
  · have e1 : (rs == s) = true := by simpa using hs
    have hd : ∃ b, decide ((n : Int) ≤ (rl : Int)) = b := ⟨_, rfl⟩
    have hn : decide (n ≤ rl) = decide ((n : Int) ≤ (rl : Int)) := by rw [decide_eq_decide]; omega
    obtain ⟨b, hb⟩ := hd
    show Calls _ _ _ _ fun e w' => e = .returned (.bool ((rs == s) && decide (n ≤ rl))) ∧ _
    rw [hn, e1]
    go_enter Tryd.func44, Tryd.ntmps44
    go_wp2
    go_quiet (fail)
    have hq : Below w.heap.size w (w.drewN nq) := by0q w nq
    go_wp2
    go_ret
    exact ⟨rfl, hq⟩
  · have e1 : (rs == s) = false := by simpa using hs
    show Calls _ _ _ _ fun e w' => e = .returned (.bool ((rs == s) && decide (n ≤ rl))) ∧ _
    rw [e1]
    go_enter Tryd.func44, Tryd.ntmps44
    go_wp2
    go_quiet (fail)
    have hq : Below w.heap.size w (w.drewN nq) := by0q w nq
    go_wp2
    go_ret
    exact ⟨rfl, hq⟩
end Go.Proofs.YtgdlfbphfogphaaDoor
