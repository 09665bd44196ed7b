/- The rotation of a 32-bit word, and the closure that folds several of them, answer what the words say, in every world. -/
import Derived.Test.YtmnklonoelpidaaGreatDoorProg
import Derived.WalkKit
import Derived.WalkSpells
import Derived.WalkLawsBesides
import Derived.Lib.Hide
import Derived.Deep.Draws
import Derived.Deep.MidRow
namespace Go.Proofs.YtmnklonoelpidaaGreatDoor
open Go.RowKit

theorem wrap_u32 (n : Int) : IntKind.u32.wrap n = n % 4294967296 := by
  simp [IntKind.wrap, IntKind.bits, IntKind.signed]
theorem wrap_u64 (n : Int) : IntKind.u64.wrap n = n % 18446744073709551616 := by
  simp [IntKind.wrap, IntKind.bits, IntKind.signed]
theorem and31 (k : Nat) (k1 : 1 ≤ k) (k2 : k < 32) : bits BinOp.and IntKind.u64 (IntKind.u64.wrap (-(k:Int))) 31 = 32 - k := by
  have : k ∈ List.range 32 := by simp; omega
  revert k1
  revert k
  decide +kernel

/-- a word's number -/
def tn (x : BitVec 32) : Int := (x.toNat : Int)
theorem tn_nonneg (x : BitVec 32) : 0 ≤ tn x := Int.natCast_nonneg _
theorem tn_lt (x : BitVec 32) : tn x < 4294967296 := by have := x.isLt; unfold tn; omega

theorem bits_or_u32 (x y : BitVec 32) : bits .or .u32 (tn x) (tn y) = tn (x ||| y) := by
  have h := (x ||| y).isLt
  have e : bits .or .u32 (tn x) (tn y) = IntKind.u32.wrap ((BitVec.ofInt 32 (x.toNat : Int) ||| BitVec.ofInt 32 (y.toNat : Int)).toNat : Int) := rfl
  rw [e, wrap_u32, BitVec.ofInt_natCast, BitVec.ofInt_natCast, BitVec.ofNat_toNat, BitVec.ofNat_toNat, BitVec.setWidth_eq, BitVec.setWidth_eq]
  unfold tn
  omega
theorem bits_and_u32 (x y : BitVec 32) : bits .and .u32 (tn x) (tn y) = tn (x &&& y) := by
  have h := (x &&& y).isLt
  have e : bits .and .u32 (tn x) (tn y) = IntKind.u32.wrap ((BitVec.ofInt 32 (x.toNat : Int) &&& BitVec.ofInt 32 (y.toNat : Int)).toNat : Int) := rfl
  rw [e, wrap_u32, BitVec.ofInt_natCast, BitVec.ofInt_natCast, BitVec.ofNat_toNat, BitVec.ofNat_toNat, BitVec.setWidth_eq, BitVec.setWidth_eq]
  unfold tn
  omega
theorem bits_xor_u32 (x y : BitVec 32) : bits .xor .u32 (tn x) (tn y) = tn (x ^^^ y) := by
  have h := (x ^^^ y).isLt
  have e : bits .xor .u32 (tn x) (tn y) = IntKind.u32.wrap ((BitVec.ofInt 32 (x.toNat : Int) ^^^ BitVec.ofInt 32 (y.toNat : Int)).toNat : Int) := rfl
  rw [e, wrap_u32, BitVec.ofInt_natCast, BitVec.ofInt_natCast, BitVec.ofNat_toNat, BitVec.ofNat_toNat, BitVec.setWidth_eq, BitVec.setWidth_eq]
  unfold tn
  omega
theorem add_u32 (x y : BitVec 32) : (tn x + tn y) % (4294967296 : Int) = tn (x + y) := by
  unfold tn
  rw [BitVec.toNat_add]; omega
theorem shl_u32 (x : BitVec 32) (m : Nat) : tn x * (2 : Int) ^ m % (4294967296 : Int) = tn (x <<< m) := by
  unfold tn
  rw [BitVec.toNat_shiftLeft, Nat.shiftLeft_eq, Int.natCast_emod, Int.natCast_mul, Int.natCast_pow]
  rfl
theorem shr_u32 (x : BitVec 32) (m : Nat) : tn x / (2 : Int) ^ m = tn (x >>> m) := by
  unfold tn
  rw [BitVec.toNat_ushiftRight, Nat.shiftRight_eq_div_pow, Int.natCast_ediv, Int.natCast_pow]
  rfl
theorem rot_eq (x : BitVec 32) (k : Nat) (k1 : 1 ≤ k) (k2 : k < 32) :
    bits BinOp.or IntKind.u32 (tn x * 2 ^ (32 - k) % 4294967296) (tn x / 2 ^ (32 - (32 - k))) = tn (x.rotateRight k) := by
  rw [shl_u32, shr_u32, bits_or_u32, show 32 - (32 - k) = k from by omega, BitVec.or_comm]
  rw [BitVec.rotateRight, Nat.mod_eq_of_lt k2]
  rfl

set_option maxHeartbeats 400000 in
theorem rot_any (x : BitVec 32) (k : Nat) (w : World) (k1 : 1 ≤ k) (k2 : k < 32) :
    Calls Tryz.prog 168 #[.int .u32 (tn x), .int .i64 (-(k:Int))] w fun e w' => e = .returned (.int .u32 (tn (x.rotateRight k))) ∧ w = w' := by
  have h1 := and31 k k1 k2
  go_enter Tryz.func168, Tryz.ntmps168
  go_wp2
  go_ret
  exact ⟨congrArg Ending.returned (congrArg (Value.int IntKind.u32) (rot_eq x k k1 k2)), rfl⟩

/-- the rotations of a word, over some places -/
def turnedBy (x : BitVec 32) (ps : List Nat) : BitVec 32 := ps.foldl (fun acc n => acc ^^^ x.rotateRight n) 0

theorem turnedBy_snoc (x : BitVec 32) (ps : List Nat) (k : Nat) (h : k < ps.length) : turnedBy x (ps.take (k + 1)) = turnedBy x (ps.take k) ^^^ x.rotateRight ps[k] := by
  rw [turnedBy, List.take_succ_eq_append_getElem h, List.foldl_append]; rfl

set_option maxHeartbeats 400000 in
theorem turned_any (x : BitVec 32) (ps : List Nat) (b n : Nat) (w : World) (hn : ps.length = n) (hl : n < 1000) (hp : ∀ (i : Nat) (h : i < ps.length), 1 ≤ ps[i] ∧ ps[i] < 32)
    (hc : ∀ (i : Nat) (h : i < ps.length), w.cell? ⟨b, i, none⟩ = some (.int .i64 ps[i])) :
    Calls Tryz.prog 167 #[.int .u32 (tn x), .slice (some ⟨b, 0, none⟩) n n] w fun e w' => e = .returned (.int .u32 (tn (turnedBy x ps))) ∧ w = w' := by
  subst hn
  have HC := Lib.hid hc
  have HP := Lib.hid hp
  clear hc hp
  go_enter Tryz.func167, Tryz.ntmps167
  go_wp2
  go_loop [5, 7, 10] (fun all n i => ∃ k : Nat, k ≤ ps.length ∧ i = .int .i64 k ∧ all = .int .u32 (tn (turnedBy x (ps.take k)))) (fun _ _ i => ps.length - (intOf i).toNat)
  case atStart => exact ⟨0, Nat.zero_le _, rfl, rfl⟩
  case round =>
    obtain ⟨k, hk, rfl, rfl⟩ := hrel
    by_cases hlt : k < ps.length
    · have hcell := HC.out k hlt
      have hpk := HP.out k hlt
      have HS := Lib.hid (turnedBy_snoc x ps k hlt)
      go_wp2_with (go_at_call 168; refine (rot_any _ _ _ hpk.1 hpk.2).mono ?_; rintro e w' ⟨rfl, rfl⟩)
      go_round
      case rel => exact ⟨k + 1, by omega, by go_num, by rw [HS.out, ← bits_xor_u32]⟩
      case measure => simp [intOf]; omega
    · go_wp2
      go_ret
      exact ⟨by rw [List.take_of_length_le (by omega)]; rfl, rfl⟩
end Go.Proofs.YtmnklonoelpidaaGreatDoor
/- Small facts on words, on the message schedule, and on the blocks that the compression lays. -/
namespace Go.Proofs.YtmnklonoelpidaaGreatDoor
open Go.RowKit

def word0 (c : Nat → BitVec 32) (t : Nat) : BitVec 32 := c (4*t) <<< 24 ||| c (4*t+1) <<< 16 ||| c (4*t+2) <<< 8 ||| c (4*t+3)
def sig0 (x : BitVec 32) : BitVec 32 := turnedBy x [7, 18] ^^^ x >>> 3
def sig1 (x : BitVec 32) : BitVec 32 := turnedBy x [17, 19] ^^^ x >>> 10
def sched (c : Nat → BitVec 32) (t : Nat) : BitVec 32 :=
  if t < 16 then word0 c t else sched c (t-16) + sched c (t-7) + sig0 (sched c (t-15)) + sig1 (sched c (t-2))
termination_by t

theorem sched_lo (c : Nat → BitVec 32) (t : Nat) (h : t < 16) : sched c t = word0 c t := by rw [sched, if_pos h]
theorem sched_hi (c : Nat → BitVec 32) (t : Nat) (h : 16 ≤ t) : sched c t = sched c (t-16) + sched c (t-7) + sig0 (sched c (t-15)) + sig1 (sched c (t-2)) := by rw [sched, if_neg (by omega)]

/-- the blocks that the function lays -/
structure Lay (N : Nat) (V B R : Array Value) (w : World) : Prop where
  hv : w.heap[N]? = some (.cells V 182 (0, 0))
  hb : w.heap[N+1]? = some (.cells B 183 (0, 0))
  ho : ∃ Z : Array Value, Z.size = 8 ∧ w.heap[N+2]? = some (.cells Z 182 (0, 0))
  hr : w.heap[N+3]? = some (.cells R 205 (0, 0))

/-- an index, as the walk asks of it -/
theorem idx (x : Int) (n : Nat) (h : x = n) (hb : n < 1000) : IntKind.i64.wrap x = x ∧ 0 ≤ x ∧ x.toNat = n := ⟨IntWalk.i64_in _ (by omega), by omega, by omega⟩

theorem Lay.cellV {N : Nat} {V B R : Array Value} {w : World} (h : Lay N V B R w) (i : Nat) : w.cell? ⟨N, i, none⟩ = V[i]? := by
  simp [World.cell?, h.hv]
theorem Lay.cellB {N : Nat} {V B R : Array Value} {w : World} (h : Lay N V B R w) (i : Nat) : w.cell? ⟨N+1, i, none⟩ = B[i]? := by
  simp [World.cell?, h.hb]
theorem Lay.cellR {N : Nat} {V B R : Array Value} {w : World} (h : Lay N V B R w) (i : Nat) : w.cell? ⟨N+1+1+1, i, none⟩ = R[i]? := by
  simp [World.cell?, h.hr]
theorem Lay.frR {N : Nat} {V B R : Array Value} {w : World} (h : Lay N V B R w) (i : Nat) : w.frozen? ⟨N+1+1+1, i, none⟩ = false := by
  simp [World.frozen?, h.hr]
theorem Lay.store {N : Nat} {V B R : Array Value} {w : World} (h : Lay N V B R w) (k : Nat) (u : Value) : Lay N V B (R.setIfInBounds k u) (w.setCell ⟨N+1+1+1, k, none⟩ u) := by
  obtain ⟨hv, hb, ⟨Z, hZ, ho⟩, hr⟩ := h
  refine ⟨?_, ?_, ⟨Z, hZ, ?_⟩, ?_⟩
  · rw [Below.heap_setCell _ _ _ _ (by simp; omega)]; exact hv
  · rw [Below.heap_setCell _ _ _ _ (by simp)]; exact hb
  · rw [Below.heap_setCell _ _ _ _ (by simp)]; exact ho
  · show (w.heap.modify (N + 3) _)[N + 3]? = _
    rw [Array.getElem?_modify, if_pos rfl, hr]
    rfl
theorem Lay.drew {N : Nat} {V B R : Array Value} {w : World} (h : Lay N V B R w) : Lay N V B R w.drew := ⟨h.hv, h.hb, h.ho, h.hr⟩
theorem Lay.drewN {N : Nat} {V B R : Array Value} {w : World} (h : Lay N V B R w) (n : Nat) : Lay N V B R (w.drewN n) := ⟨h.hv, h.hb, h.ho, h.hr⟩
theorem Below_drewN {B : Nat} {a w : World} (h : Below B a w) (n : Nat) : Below B a (w.drewN n) := ⟨h.os, h.tape, h.output, h.size, h.block⟩
theorem Lay.size {N : Nat} {V B R : Array Value} {w : World} (h : Lay N V B R w) : N + 3 < w.heap.size := by
  have := h.hr
  rw [Array.getElem?_eq_some_iff] at this
  exact this.1
theorem Lay.alloc {N : Nat} {V B R : Array Value} {w : World} (h : Lay N V B R w) (o : Obj) : Lay N V B R (w.alloc o) := by
  have hz := h.size
  obtain ⟨hv, hb, ⟨Z, hZ, ho⟩, hr⟩ := h
  refine ⟨?_, ?_, ⟨Z, hZ, ?_⟩, ?_⟩ <;> (rw [Below.heap_alloc _ _ _ (by omega)]; assumption)

theorem run_index60 (R : Array Value) (k : Nat) (v : Value) (hk : k < 64) (h : R[k]? = some v) (w : World) : (Instr.index 205 (.agg R) (.int .i64 (k : Int))).run Tryz.prog w = .ok v w := by
  have h1 : (0 : Int) ≤ (k : Int) ∧ (k : Int) < ((64 : Nat) : Int) := by omega
  have h2 : (sizeOf 178).run Tryz.prog w = .ok 1 w := by kernel_rfl
  simp [Instr.index, asIntOf, run_underlying Tryz.underlying205, h1, part, h2, h]
  intro h4
  omega

theorem lay_start (w : World) (V B Z R : Array Value) (hZ : Z.size = 8) : Lay w.heap.size V B R ((((w.alloc (.cells V 182)).alloc (.cells B 183)).alloc (.cells Z 182)).alloc (.cells R 205)) := by
  refine ⟨?_, ?_, ⟨Z, hZ, ?_⟩, ?_⟩
  · rw [Below.heap_alloc _ _ _ (by simp; omega), Below.heap_alloc _ _ _ (by simp; omega), Below.heap_alloc _ _ _ (by simp)]; exact heap_alloc_new w _
  · rw [Below.heap_alloc _ _ _ (by simp), Below.heap_alloc _ _ _ (by simp)]
    have := heap_alloc_new (w.alloc (.cells V 182)) (.cells B 183)
    rwa [World.size_alloc] at this
  · rw [Below.heap_alloc _ _ _ (by simp)]
    have := heap_alloc_new ((w.alloc (.cells V 182)).alloc (.cells B 183)) (.cells Z 182)
    rwa [World.size_alloc, World.size_alloc] at this
  · have := heap_alloc_new (((w.alloc (.cells V 182)).alloc (.cells B 183)).alloc (.cells Z 182)) (.cells R 205)
    rwa [World.size_alloc, World.size_alloc, World.size_alloc] at this
theorem below4 (w : World) (A B C D : Obj) : Below w.heap.size w ((((w.alloc A).alloc B).alloc C).alloc D) :=
  ((((Below.refl _ _).alloc (Nat.le_refl _) _).alloc (by simp) _).alloc (by simp; omega) _).alloc (by simp; omega) _

theorem turned2 (x : BitVec 32) (p q b : Nat) (w : World) (hp : 1 ≤ p ∧ p < 32) (hq : 1 ≤ q ∧ q < 32) (h0 : w.cell? ⟨b, 0, none⟩ = some (.int .i64 p)) (h1 : w.cell? ⟨b, 1, none⟩ = some (.int .i64 q)) :
    Calls Tryz.prog 167 #[.int .u32 (tn x), .slice (some ⟨b, 0, none⟩) 2 2] w fun e w' => e = .returned (.int .u32 (tn (turnedBy x [p, q]))) ∧ w = w' :=
  turned_any x [p, q] b 2 w rfl (by omega)
    (fun i h => by match i, h with | 0, _ => exact hp | 1, _ => exact hq)
    (fun i h => by match i, h with | 0, _ => exact h0 | 1, _ => exact h1)
theorem turned3 (x : BitVec 32) (p q r b : Nat) (w : World) (hp : 1 ≤ p ∧ p < 32) (hq : 1 ≤ q ∧ q < 32) (hr : 1 ≤ r ∧ r < 32) (h0 : w.cell? ⟨b, 0, none⟩ = some (.int .i64 p)) (h1 : w.cell? ⟨b, 1, none⟩ = some (.int .i64 q))
    (h2 : w.cell? ⟨b, 2, none⟩ = some (.int .i64 r)) :
    Calls Tryz.prog 167 #[.int .u32 (tn x), .slice (some ⟨b, 0, none⟩) 3 3] w fun e w' => e = .returned (.int .u32 (tn (turnedBy x [p, q, r]))) ∧ w = w' :=
  turned_any x [p, q, r] b 3 w rfl (by omega)
    (fun i h => by match i, h with | 0, _ => exact hp | 1, _ => exact hq | 2, _ => exact hr)
    (fun i h => by match i, h with | 0, _ => exact h0 | 1, _ => exact h1 | 2, _ => exact h2)
theorem turned_7_18 (x : BitVec 32) (b : Nat) (w : World) (h0 : w.cell? ⟨b, 0, none⟩ = some (.int .i64 7)) (h1 : w.cell? ⟨b, 1, none⟩ = some (.int .i64 18)) :
    Calls Tryz.prog 167 #[.int .u32 (tn x), .slice (some ⟨b, 0, none⟩) 2 2] w fun e w' => e = .returned (.int .u32 (tn (turnedBy x [7, 18]))) ∧ w = w' :=
  turned2 x 7 18 b w (by decide) (by decide) h0 h1
theorem turned_17_19 (x : BitVec 32) (b : Nat) (w : World) (h0 : w.cell? ⟨b, 0, none⟩ = some (.int .i64 17)) (h1 : w.cell? ⟨b, 1, none⟩ = some (.int .i64 19)) :
    Calls Tryz.prog 167 #[.int .u32 (tn x), .slice (some ⟨b, 0, none⟩) 2 2] w fun e w' => e = .returned (.int .u32 (tn (turnedBy x [17, 19]))) ∧ w = w' :=
  turned2 x 17 19 b w (by decide) (by decide) h0 h1
theorem turned_6_11_25 (x : BitVec 32) (b : Nat) (w : World) (h0 : w.cell? ⟨b, 0, none⟩ = some (.int .i64 6)) (h1 : w.cell? ⟨b, 1, none⟩ = some (.int .i64 11)) (h2 : w.cell? ⟨b, 2, none⟩ = some (.int .i64 25)) :
    Calls Tryz.prog 167 #[.int .u32 (tn x), .slice (some ⟨b, 0, none⟩) 3 3] w fun e w' => e = .returned (.int .u32 (tn (turnedBy x [6, 11, 25]))) ∧ w = w' :=
  turned3 x 6 11 25 b w (by decide) (by decide) (by decide) h0 h1 h2
theorem turned_2_13_22 (x : BitVec 32) (b : Nat) (w : World) (h0 : w.cell? ⟨b, 0, none⟩ = some (.int .i64 2)) (h1 : w.cell? ⟨b, 1, none⟩ = some (.int .i64 13)) (h2 : w.cell? ⟨b, 2, none⟩ = some (.int .i64 22)) :
    Calls Tryz.prog 167 #[.int .u32 (tn x), .slice (some ⟨b, 0, none⟩) 3 3] w fun e w' => e = .returned (.int .u32 (tn (turnedBy x [2, 13, 22]))) ∧ w = w' :=
  turned3 x 2 13 22 b w (by decide) (by decide) (by decide) h0 h1 h2

theorem cell_setCell_off {w : World} {b k j : Nat} (h : k ≠ j) (v : Value) : (w.setCell ⟨b, k, none⟩ v).cell? ⟨b, j, none⟩ = w.cell? ⟨b, j, none⟩ :=
  World.cell?_setCell_other _ _ _ _ (by intro e; injection e with _ e2 _; exact h e2)
theorem size_setCell (w : World) (a : Addr) (v : Value) : (w.setCell a v).heap.size = w.heap.size := by simp [World.setCell]
theorem keep_store {n k j : Nat} {wq : World} {A B : Obj} {v x : Value} (hz : n < wq.heap.size) (hne : k ≠ j) (h : wq.cell? ⟨n, j, none⟩ = some x) :
    (((wq.setCell ⟨n, k, none⟩ v).alloc A).alloc B).drew.cell? ⟨n, j, none⟩ = some x := by
  have h1 := size_setCell wq ⟨n, k, none⟩ v
  have h2 : n < (wq.setCell ⟨n, k, none⟩ v).heap.size := by omega
  have h3 : n < ((wq.setCell ⟨n, k, none⟩ v).alloc A).heap.size := by rw [World.size_alloc]; omega
  show (((wq.setCell ⟨n, k, none⟩ v).alloc A).alloc B).cell? ⟨n, j, none⟩ = some x
  rw [World.cell?_alloc_past (hn := h3), World.cell?_alloc_past (hn := h2), cell_setCell_off hne, h]

theorem wrap_tn (x : BitVec 32) : tn x % (4294967296 : Int) = tn x := by have := tn_nonneg x; have := tn_lt x; omega
theorem word0_eq (c : Nat → BitVec 32) (k : Nat) : (bits BinOp.or IntKind.u32
                      (bits BinOp.or IntKind.u32
                        (bits BinOp.or IntKind.u32 (tn (c (4 * k)) % (4294967296 : Int) * (16777216 : Int) % (4294967296 : Int))
                          (tn (c (4 * k + 1)) % (4294967296 : Int) * (65536 : Int) % (4294967296 : Int)))
                        (tn (c (4 * k + 2)) % (4294967296 : Int) * (256 : Int) % (4294967296 : Int)))
                      (tn (c (4 * k + 3)) % (4294967296 : Int))) = tn (word0 c k) := by
  have e24 : ∀ x : BitVec 32, tn x * (16777216 : Int) % (4294967296 : Int) = tn (x <<< 24) := fun x => shl_u32 x 24
  have e16 : ∀ x : BitVec 32, tn x * (65536 : Int) % (4294967296 : Int) = tn (x <<< 16) := fun x => shl_u32 x 16
  have e8 : ∀ x : BitVec 32, tn x * (256 : Int) % (4294967296 : Int) = tn (x <<< 8) := fun x => shl_u32 x 8
  simp only [wrap_tn, e24, e16, e8, bits_or_u32]
  rfl

theorem filled {R : Array Value} {f : Nat → BitVec 32} {k : Nat} (hR : R.size = 64) (hk : k < 64) (h : ∀ j < k, R[j]? = some (.int .u32 (tn (f j)))) :
    ∀ j < k + 1, (R.setIfInBounds k (.int .u32 (tn (f k))))[j]? = some (.int .u32 (tn (f j))) := by
  intro j hj
  rw [Array.getElem?_setIfInBounds]
  by_cases e : k = j
  · subst e; simp [hR, hk]
  · rw [if_neg e]; exact h j (by omega)

theorem sched_eq (c : Nat → BitVec 32) (k : Nat) (h : 16 ≤ k) : tn (sched c (k - 16) + sched c (k - 7) + (turnedBy (sched c (k - 15)) [7, 18] ^^^ sched c (k - 15) >>> 3) + (turnedBy (sched c (k - 2)) [17, 19] ^^^ sched c (k - 2) >>> 10)) = tn (sched c k) := by
  rw [sched_hi c k h]; rfl
theorem shr3 (x : BitVec 32) : tn x / (8 : Int) = tn (x >>> 3) := shr_u32 x 3
theorem shr10 (x : BitVec 32) : tn x / (1024 : Int) = tn (x >>> 10) := shr_u32 x 10

theorem not_u32 (x : BitVec 32) : bits BinOp.xor IntKind.u32 IntKind.u32.max (tn x) = tn (~~~x) := by
  have e : IntKind.u32.max = tn (BitVec.allOnes 32) := by decide +kernel
  rw [e, bits_xor_u32, BitVec.allOnes_xor]

theorem heap_setCells_ne (b k : Nat) (h : k ≠ b) : ∀ (vs : List Value) (o : Nat) (w : World), (w.setCells b o vs).heap[k]? = w.heap[k]?
  | [], _, _ => rfl
  | v :: r, o, w => by rw [World.setCells, heap_setCells_ne b k h r (o + 1), Below.heap_setCell _ _ _ _ h]
theorem size_setCells (b : Nat) : ∀ (vs : List Value) (o : Nat) (w : World), (w.setCells b o vs).heap.size = w.heap.size
  | [], _, _ => rfl
  | v :: r, o, w => by rw [World.setCells, size_setCells b r (o + 1), size_setCell]
theorem rest_setCells (b : Nat) : ∀ (vs : List Value) (o : Nat) (w : World), (w.setCells b o vs).os = w.os ∧ (w.setCells b o vs).tape = w.tape ∧ (w.setCells b o vs).output = w.output
  | [], _, _ => ⟨rfl, rfl, rfl⟩
  | v :: r, o, w => by rw [World.setCells]; exact rest_setCells b r (o + 1) _
theorem Below_setCells {B : Nat} {a w : World} (h : Below B a w) {b : Nat} (hb : B ≤ b) (o : Nat) (vs : List Value) : Below B a (w.setCells b o vs) :=
  have q := rest_setCells b vs o w
  h.trans ⟨q.1, q.2.1, q.2.2, Nat.le_of_eq (size_setCells b vs o w).symm, fun k hk => heap_setCells_ne b k (by omega) vs o w⟩
theorem Lay.there {N : Nat} {V B R : Array Value} {w : World} (h : Lay N V B R w) : w.there (N+1+1) 0 8 := by
  obtain ⟨Z, hZ, ho⟩ := h.ho
  intro j hj
  have e : w.heap[N+1+1]? = some (.cells Z 182 (0, 0)) := ho
  simp [World.cell?, World.frozen?, e, hZ, hj]

theorem Lay.outAt {N : Nat} {V B R : Array Value} {w : World} (h : Lay N V B R w) (i : Nat) (hi : i < 8) : (∃ z, w.cell? ⟨N+1+1, i, none⟩ = some z) ∧ w.frozen? ⟨N+1+1, i, none⟩ = false := by
  obtain ⟨Z, hZ, ho⟩ := h.ho
  have e : w.heap[N+1+1]? = some (.cells Z 182 (0, 0)) := ho
  exact ⟨⟨Z[i], by simp [World.cell?, e]⟩, by simp [World.frozen?, e]⟩

structure St where
  a : BitVec 32
  b : BitVec 32
  c : BitVec 32
  d : BitVec 32
  e : BitVec 32
  f : BitVec 32
  g : BitVec 32
  h : BitVec 32

def xOf (s : St) (kt wt : BitVec 32) : BitVec 32 := s.h + kt + wt + turnedBy s.e [6, 11, 25] + (s.e &&& s.f ||| ~~~s.e &&& s.g)
def yOf (s : St) : BitVec 32 := turnedBy s.a [2, 13, 22] + (s.a &&& s.b ||| s.a &&& s.c ||| s.b &&& s.c)
def stepS (s : St) (kt wt : BitVec 32) : St := ⟨xOf s kt wt + yOf s, s.a, s.b, s.c, s.d + xOf s kt wt, s.e, s.f, s.g⟩
def rounds (K W : Nat → BitVec 32) (s : St) : Nat → St
  | 0 => s
  | n + 1 => stepS (rounds K W s n) (K n) (W n)

theorem turnedBy2 (x : BitVec 32) (p q : Nat) : turnedBy x [p, q] = x.rotateRight p ^^^ x.rotateRight q := by simp [turnedBy]
theorem turnedBy3 (x : BitVec 32) (p q r : Nat) : turnedBy x [p, q, r] = x.rotateRight p ^^^ x.rotateRight q ^^^ x.rotateRight r := by simp [turnedBy]
end Go.Proofs.YtmnklonoelpidaaGreatDoor
