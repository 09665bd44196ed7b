/- Small facts on words, on the message schedule, and on the blocks that the compression lays. -/
import Derived.Test.YtdobmhbfadijoaaDoorTa
import Derived.Deep.Draws
import Derived.Deep.MidRow
namespace Go.Proofs.YtdobmhbfadijoaaDoor
open Go.RowKit

def word0 (c : Nat → BitVec 32) (t : Nat) : BitVec 32 := c (4*t) <<< 24 ||| c (4*t+1) <<< 16 ||| c (4*t+2) <<< 8 ||| c (4*t+3)
def sig0 (x : BitVec 32) : BitVec 32 := turnedBy x [7, 18] ^^^ x >>> 3
def sig1 (x : BitVec 32) : BitVec 32 := turnedBy x [17, 19] ^^^ x >>> 10
def sched (c : Nat → BitVec 32) (t : Nat) : BitVec 32 :=
  if t < 16 then word0 c t else sched c (t-16) + sched c (t-7) + sig0 (sched c (t-15)) + sig1 (sched c (t-2))
termination_by t

theorem sched_lo (c : Nat → BitVec 32) (t : Nat) (h : t < 16) : sched c t = word0 c t := by rw [sched, if_pos h]
theorem sched_hi (c : Nat → BitVec 32) (t : Nat) (h : 16 ≤ t) : sched c t = sched c (t-16) + sched c (t-7) + sig0 (sched c (t-15)) + sig1 (sched c (t-2)) := by rw [sched, if_neg (by omega)]

/-- the blocks that the function lays -/
structure Lay (N : Nat) (V B R : Array Value) (w : World) : Prop where
  hv : w.heap[N]? = some (.cells V 70 (0, 0))
  hb : w.heap[N+1]? = some (.cells B 71 (0, 0))
  ho : ∃ Z : Array Value, Z.size = 8 ∧ w.heap[N+2]? = some (.cells Z 70 (0, 0))
  hr : w.heap[N+3]? = some (.cells R 75 (0, 0))

/-- an index, as the walk asks of it -/
theorem idx (x : Int) (n : Nat) (h : x = n) (hb : n < 1000) : IntKind.i64.wrap x = x ∧ 0 ≤ x ∧ x.toNat = n := ⟨IntWalk.i64_in _ (by omega), by omega, by omega⟩

theorem Lay.cellV {N : Nat} {V B R : Array Value} {w : World} (h : Lay N V B R w) (i : Nat) : w.cell? ⟨N, i, none⟩ = V[i]? := by
  simp [World.cell?, h.hv]
theorem Lay.cellB {N : Nat} {V B R : Array Value} {w : World} (h : Lay N V B R w) (i : Nat) : w.cell? ⟨N+1, i, none⟩ = B[i]? := by
  simp [World.cell?, h.hb]
theorem Lay.cellR {N : Nat} {V B R : Array Value} {w : World} (h : Lay N V B R w) (i : Nat) : w.cell? ⟨N+1+1+1, i, none⟩ = R[i]? := by
  simp [World.cell?, h.hr]
theorem Lay.frR {N : Nat} {V B R : Array Value} {w : World} (h : Lay N V B R w) (i : Nat) : w.frozen? ⟨N+1+1+1, i, none⟩ = false := by
  simp [World.frozen?, h.hr]
theorem Lay.store {N : Nat} {V B R : Array Value} {w : World} (h : Lay N V B R w) (k : Nat) (u : Value) : Lay N V B (R.setIfInBounds k u) (w.setCell ⟨N+1+1+1, k, none⟩ u) := by
  obtain ⟨hv, hb, ⟨Z, hZ, ho⟩, hr⟩ := h
  refine ⟨?_, ?_, ⟨Z, hZ, ?_⟩, ?_⟩
  · rw [Below.heap_setCell _ _ _ _ (by simp; omega)]; exact hv
  · rw [Below.heap_setCell _ _ _ _ (by simp)]; exact hb
  · rw [Below.heap_setCell _ _ _ _ (by simp)]; exact ho
  · show (w.heap.modify (N + 3) _)[N + 3]? = _
    rw [Array.getElem?_modify, if_pos rfl, hr]
    rfl
theorem Lay.drew {N : Nat} {V B R : Array Value} {w : World} (h : Lay N V B R w) : Lay N V B R w.drew := ⟨h.hv, h.hb, h.ho, h.hr⟩
theorem Lay.drewN {N : Nat} {V B R : Array Value} {w : World} (h : Lay N V B R w) (n : Nat) : Lay N V B R (w.drewN n) := ⟨h.hv, h.hb, h.ho, h.hr⟩
theorem Below_drewN {B : Nat} {a w : World} (h : Below B a w) (n : Nat) : Below B a (w.drewN n) := ⟨h.os, h.tape, h.output, h.size, h.block⟩
theorem Lay.size {N : Nat} {V B R : Array Value} {w : World} (h : Lay N V B R w) : N + 3 < w.heap.size := by
  have := h.hr
  rw [Array.getElem?_eq_some_iff] at this
  exact this.1
theorem Lay.alloc {N : Nat} {V B R : Array Value} {w : World} (h : Lay N V B R w) (o : Obj) : Lay N V B R (w.alloc o) := by
  have hz := h.size
  obtain ⟨hv, hb, ⟨Z, hZ, ho⟩, hr⟩ := h
  refine ⟨?_, ?_, ⟨Z, hZ, ?_⟩, ?_⟩ <;> (rw [Below.heap_alloc _ _ _ (by omega)]; assumption)

theorem run_index60 (R : Array Value) (k : Nat) (v : Value) (hk : k < 64) (h : R[k]? = some v) (w : World) : (Instr.index 75 (.agg R) (.int .i64 (k : Int))).run Tryd.prog w = .ok v w := by
  have h1 : (0 : Int) ≤ (k : Int) ∧ (k : Int) < ((64 : Nat) : Int) := by omega
  have h2 : (sizeOf 64).run Tryd.prog w = .ok 1 w := by kernel_rfl
  simp [Instr.index, asIntOf, run_underlying Tryd.underlying75, h1, part, h2, h]
  intro h4
  omega

theorem lay_start (w : World) (V B Z R : Array Value) (hZ : Z.size = 8) : Lay w.heap.size V B R ((((w.alloc (.cells V 70)).alloc (.cells B 71)).alloc (.cells Z 70)).alloc (.cells R 75)) := by
  refine ⟨?_, ?_, ⟨Z, hZ, ?_⟩, ?_⟩
  · rw [Below.heap_alloc _ _ _ (by simp; omega), Below.heap_alloc _ _ _ (by simp; omega), Below.heap_alloc _ _ _ (by simp)]; exact heap_alloc_new w _
  · rw [Below.heap_alloc _ _ _ (by simp), Below.heap_alloc _ _ _ (by simp)]
    have := heap_alloc_new (w.alloc (.cells V 70)) (.cells B 71)
    rwa [World.size_alloc] at this
  · rw [Below.heap_alloc _ _ _ (by simp)]
    have := heap_alloc_new ((w.alloc (.cells V 70)).alloc (.cells B 71)) (.cells Z 70)
    rwa [World.size_alloc, World.size_alloc] at this
  · have := heap_alloc_new (((w.alloc (.cells V 70)).alloc (.cells B 71)).alloc (.cells Z 70)) (.cells R 75)
    rwa [World.size_alloc, World.size_alloc, World.size_alloc] at this
theorem below4 (w : World) (A B C D : Obj) : Below w.heap.size w ((((w.alloc A).alloc B).alloc C).alloc D) :=
  ((((Below.refl _ _).alloc (Nat.le_refl _) _).alloc (by simp) _).alloc (by simp; omega) _).alloc (by simp; omega) _

theorem turned2 (x : BitVec 32) (p q b : Nat) (w : World) (hp : 1 ≤ p ∧ p < 32) (hq : 1 ≤ q ∧ q < 32) (h0 : w.cell? ⟨b, 0, none⟩ = some (.int .i64 p)) (h1 : w.cell? ⟨b, 1, none⟩ = some (.int .i64 q)) :
    Calls Tryd.prog 49 #[.int .u32 (tn x), .slice (some ⟨b, 0, none⟩) 2 2] w fun e w' => e = .returned (.int .u32 (tn (turnedBy x [p, q]))) ∧ w = w' :=
  turned_any x [p, q] b 2 w rfl (by omega)
    (fun i h => by match i, h with | 0, _ => exact hp | 1, _ => exact hq)
    (fun i h => by match i, h with | 0, _ => exact h0 | 1, _ => exact h1)
theorem turned3 (x : BitVec 32) (p q r b : Nat) (w : World) (hp : 1 ≤ p ∧ p < 32) (hq : 1 ≤ q ∧ q < 32) (hr : 1 ≤ r ∧ r < 32) (h0 : w.cell? ⟨b, 0, none⟩ = some (.int .i64 p)) (h1 : w.cell? ⟨b, 1, none⟩ = some (.int .i64 q))
    (h2 : w.cell? ⟨b, 2, none⟩ = some (.int .i64 r)) :
    Calls Tryd.prog 49 #[.int .u32 (tn x), .slice (some ⟨b, 0, none⟩) 3 3] w fun e w' => e = .returned (.int .u32 (tn (turnedBy x [p, q, r]))) ∧ w = w' :=
  turned_any x [p, q, r] b 3 w rfl (by omega)
    (fun i h => by match i, h with | 0, _ => exact hp | 1, _ => exact hq | 2, _ => exact hr)
    (fun i h => by match i, h with | 0, _ => exact h0 | 1, _ => exact h1 | 2, _ => exact h2)
theorem turned_7_18 (x : BitVec 32) (b : Nat) (w : World) (h0 : w.cell? ⟨b, 0, none⟩ = some (.int .i64 7)) (h1 : w.cell? ⟨b, 1, none⟩ = some (.int .i64 18)) :
    Calls Tryd.prog 49 #[.int .u32 (tn x), .slice (some ⟨b, 0, none⟩) 2 2] w fun e w' => e = .returned (.int .u32 (tn (turnedBy x [7, 18]))) ∧ w = w' :=
  turned2 x 7 18 b w (by decide) (by decide) h0 h1
theorem turned_17_19 (x : BitVec 32) (b : Nat) (w : World) (h0 : w.cell? ⟨b, 0, none⟩ = some (.int .i64 17)) (h1 : w.cell? ⟨b, 1, none⟩ = some (.int .i64 19)) :
    Calls Tryd.prog 49 #[.int .u32 (tn x), .slice (some ⟨b, 0, none⟩) 2 2] w fun e w' => e = .returned (.int .u32 (tn (turnedBy x [17, 19]))) ∧ w = w' :=
  turned2 x 17 19 b w (by decide) (by decide) h0 h1
theorem turned_6_11_25 (x : BitVec 32) (b : Nat) (w : World) (h0 : w.cell? ⟨b, 0, none⟩ = some (.int .i64 6)) (h1 : w.cell? ⟨b, 1, none⟩ = some (.int .i64 11)) (h2 : w.cell? ⟨b, 2, none⟩ = some (.int .i64 25)) :
    Calls Tryd.prog 49 #[.int .u32 (tn x), .slice (some ⟨b, 0, none⟩) 3 3] w fun e w' => e = .returned (.int .u32 (tn (turnedBy x [6, 11, 25]))) ∧ w = w' :=
  turned3 x 6 11 25 b w (by decide) (by decide) (by decide) h0 h1 h2
theorem turned_2_13_22 (x : BitVec 32) (b : Nat) (w : World) (h0 : w.cell? ⟨b, 0, none⟩ = some (.int .i64 2)) (h1 : w.cell? ⟨b, 1, none⟩ = some (.int .i64 13)) (h2 : w.cell? ⟨b, 2, none⟩ = some (.int .i64 22)) :
    Calls Tryd.prog 49 #[.int .u32 (tn x), .slice (some ⟨b, 0, none⟩) 3 3] w fun e w' => e = .returned (.int .u32 (tn (turnedBy x [2, 13, 22]))) ∧ w = w' :=
  turned3 x 2 13 22 b w (by decide) (by decide) (by decide) h0 h1 h2

theorem cell_setCell_off {w : World} {b k j : Nat} (h : k ≠ j) (v : Value) : (w.setCell ⟨b, k, none⟩ v).cell? ⟨b, j, none⟩ = w.cell? ⟨b, j, none⟩ :=
  World.cell?_setCell_other _ _ _ _ (by intro e; injection e with _ e2 _; exact h e2)
theorem size_setCell (w : World) (a : Addr) (v : Value) : (w.setCell a v).heap.size = w.heap.size := by simp [World.setCell]
theorem keep_store {n k j : Nat} {wq : World} {A B : Obj} {v x : Value} (hz : n < wq.heap.size) (hne : k ≠ j) (h : wq.cell? ⟨n, j, none⟩ = some x) :
    (((wq.setCell ⟨n, k, none⟩ v).alloc A).alloc B).drew.cell? ⟨n, j, none⟩ = some x := by
  have h1 := size_setCell wq ⟨n, k, none⟩ v
  have h2 : n < (wq.setCell ⟨n, k, none⟩ v).heap.size := by omega
  have h3 : n < ((wq.setCell ⟨n, k, none⟩ v).alloc A).heap.size := by rw [World.size_alloc]; omega
  show (((wq.setCell ⟨n, k, none⟩ v).alloc A).alloc B).cell? ⟨n, j, none⟩ = some x
  rw [World.cell?_alloc_past (hn := h3), World.cell?_alloc_past (hn := h2), cell_setCell_off hne, h]

theorem wrap_tn (x : BitVec 32) : tn x % (4294967296 : Int) = tn x := by have := tn_nonneg x; have := tn_lt x; omega
theorem word0_eq (c : Nat → BitVec 32) (k : Nat) : (bits BinOp.or IntKind.u32
                      (bits BinOp.or IntKind.u32
                        (bits BinOp.or IntKind.u32 (tn (c (4 * k)) % (4294967296 : Int) * (16777216 : Int) % (4294967296 : Int))
                          (tn (c (4 * k + 1)) % (4294967296 : Int) * (65536 : Int) % (4294967296 : Int)))
                        (tn (c (4 * k + 2)) % (4294967296 : Int) * (256 : Int) % (4294967296 : Int)))
                      (tn (c (4 * k + 3)) % (4294967296 : Int))) = tn (word0 c k) := by
  have e24 : ∀ x : BitVec 32, tn x * (16777216 : Int) % (4294967296 : Int) = tn (x <<< 24) := fun x => shl_u32 x 24
  have e16 : ∀ x : BitVec 32, tn x * (65536 : Int) % (4294967296 : Int) = tn (x <<< 16) := fun x => shl_u32 x 16
  have e8 : ∀ x : BitVec 32, tn x * (256 : Int) % (4294967296 : Int) = tn (x <<< 8) := fun x => shl_u32 x 8
  simp only [wrap_tn, e24, e16, e8, bits_or_u32]
  rfl

theorem filled {R : Array Value} {f : Nat → BitVec 32} {k : Nat} (hR : R.size = 64) (hk : k < 64) (h : ∀ j < k, R[j]? = some (.int .u32 (tn (f j)))) :
    ∀ j < k + 1, (R.setIfInBounds k (.int .u32 (tn (f k))))[j]? = some (.int .u32 (tn (f j))) := by
  intro j hj
  rw [Array.getElem?_setIfInBounds]
  by_cases e : k = j
  · subst e; simp [hR, hk]
  · rw [if_neg e]; exact h j (by omega)

theorem sched_eq (c : Nat → BitVec 32) (k : Nat) (h : 16 ≤ k) : tn (sched c (k - 16) + sched c (k - 7) + (turnedBy (sched c (k - 15)) [7, 18] ^^^ sched c (k - 15) >>> 3) + (turnedBy (sched c (k - 2)) [17, 19] ^^^ sched c (k - 2) >>> 10)) = tn (sched c k) := by
  rw [sched_hi c k h]; rfl
theorem shr3 (x : BitVec 32) : tn x / (8 : Int) = tn (x >>> 3) := shr_u32 x 3
theorem shr10 (x : BitVec 32) : tn x / (1024 : Int) = tn (x >>> 10) := shr_u32 x 10

theorem not_u32 (x : BitVec 32) : bits BinOp.xor IntKind.u32 IntKind.u32.max (tn x) = tn (~~~x) := by
  have e : IntKind.u32.max = tn (BitVec.allOnes 32) := by decide +kernel
  rw [e, bits_xor_u32, BitVec.allOnes_xor]

theorem heap_setCells_ne (b k : Nat) (h : k ≠ b) : ∀ (vs : List Value) (o : Nat) (w : World), (w.setCells b o vs).heap[k]? = w.heap[k]?
  | [], _, _ => rfl
  | v :: r, o, w => by rw [World.setCells, heap_setCells_ne b k h r (o + 1), Below.heap_setCell _ _ _ _ h]
theorem size_setCells (b : Nat) : ∀ (vs : List Value) (o : Nat) (w : World), (w.setCells b o vs).heap.size = w.heap.size
  | [], _, _ => rfl
  | v :: r, o, w => by rw [World.setCells, size_setCells b r (o + 1), size_setCell]
theorem rest_setCells (b : Nat) : ∀ (vs : List Value) (o : Nat) (w : World), (w.setCells b o vs).os = w.os ∧ (w.setCells b o vs).tape = w.tape ∧ (w.setCells b o vs).output = w.output
  | [], _, _ => ⟨rfl, rfl, rfl⟩
  | v :: r, o, w => by rw [World.setCells]; exact rest_setCells b r (o + 1) _
theorem Below_setCells {B : Nat} {a w : World} (h : Below B a w) {b : Nat} (hb : B ≤ b) (o : Nat) (vs : List Value) : Below B a (w.setCells b o vs) :=
  have q := rest_setCells b vs o w
  h.trans ⟨q.1, q.2.1, q.2.2, Nat.le_of_eq (size_setCells b vs o w).symm, fun k hk => heap_setCells_ne b k (by omega) vs o w⟩
theorem Lay.there {N : Nat} {V B R : Array Value} {w : World} (h : Lay N V B R w) : w.there (N+1+1) 0 8 := by
  obtain ⟨Z, hZ, ho⟩ := h.ho
  intro j hj
  have e : w.heap[N+1+1]? = some (.cells Z 70 (0, 0)) := ho
  simp [World.cell?, World.frozen?, e, hZ, hj]

theorem Lay.outAt {N : Nat} {V B R : Array Value} {w : World} (h : Lay N V B R w) (i : Nat) (hi : i < 8) : (∃ z, w.cell? ⟨N+1+1, i, none⟩ = some z) ∧ w.frozen? ⟨N+1+1, i, none⟩ = false := by
  obtain ⟨Z, hZ, ho⟩ := h.ho
  have e : w.heap[N+1+1]? = some (.cells Z 70 (0, 0)) := ho
  exact ⟨⟨Z[i], by simp [World.cell?, e]⟩, by simp [World.frozen?, e]⟩

structure St where
  a : BitVec 32
  b : BitVec 32
  c : BitVec 32
  d : BitVec 32
  e : BitVec 32
  f : BitVec 32
  g : BitVec 32
  h : BitVec 32

def xOf (s : St) (kt wt : BitVec 32) : BitVec 32 := s.h + kt + wt + turnedBy s.e [6, 11, 25] + (s.e &&& s.f ||| ~~~s.e &&& s.g)
def yOf (s : St) : BitVec 32 := turnedBy s.a [2, 13, 22] + (s.a &&& s.b ||| s.a &&& s.c ||| s.b &&& s.c)
def stepS (s : St) (kt wt : BitVec 32) : St := ⟨xOf s kt wt + yOf s, s.a, s.b, s.c, s.d + xOf s kt wt, s.e, s.f, s.g⟩
def rounds (K W : Nat → BitVec 32) (s : St) : Nat → St
  | 0 => s
  | n + 1 => stepS (rounds K W s n) (K n) (W n)

theorem turnedBy2 (x : BitVec 32) (p q : Nat) : turnedBy x [p, q] = x.rotateRight p ^^^ x.rotateRight q := by simp [turnedBy]
theorem turnedBy3 (x : BitVec 32) (p q r : Nat) : turnedBy x [p, q, r] = x.rotateRight p ^^^ x.rotateRight q ^^^ x.rotateRight r := by simp [turnedBy]
end Go.Proofs.YtdobmhbfadijoaaDoor
