/- The rotation of a 32-bit word, and the closure that folds several of them, answer what the words say, in every world. -/
import Derived.Test.YtpbbpkflljcklaaDoorProg
import Derived.WalkKit
import Derived.WalkSpells
import Derived.WalkLawsBesides
import Derived.Lib.Hide
import Derived.Deep.Draws
import Derived.Deep.MidRow
import Derived.Test.YtpbbpkflljcklaaDoorJ1
import Derived.Shelf.Strings.Builder1
import Derived.Shelf.Strings.Builder2
namespace Go.Proofs.YtpbbpkflljcklaaDoor
open Go.RowKit

theorem wrap_u32 (n : Int) : IntKind.u32.wrap n = n % 4294967296 := by
  simp [IntKind.wrap, IntKind.bits, IntKind.signed]
theorem wrap_u64 (n : Int) : IntKind.u64.wrap n = n % 18446744073709551616 := by
  simp [IntKind.wrap, IntKind.bits, IntKind.signed]
theorem wrap_u8 (n : Int) : IntKind.u8.wrap n = n % 256 := by
  simp [IntKind.wrap, IntKind.bits, IntKind.signed]

theorem and31 (k : Nat) (k1 : 1 ≤ k) (k2 : k < 32) : bits BinOp.and IntKind.u64 (IntKind.u64.wrap (-(k:Int))) 31 = 32 - k := by
  have : k ∈ List.range 32 := by simp; omega
  revert k1
  revert k
  decide +kernel

/-- a word's number -/
def tn (x : BitVec 32) : Int := (x.toNat : Int)
theorem tn_nonneg (x : BitVec 32) : 0 ≤ tn x := Int.natCast_nonneg _
theorem tn_lt (x : BitVec 32) : tn x < 4294967296 := by have := x.isLt; unfold tn; omega

theorem bits_or_u32 (x y : BitVec 32) : bits .or .u32 (tn x) (tn y) = tn (x ||| y) := by
  have h := (x ||| y).isLt
  have e : bits .or .u32 (tn x) (tn y) = IntKind.u32.wrap ((BitVec.ofInt 32 (x.toNat : Int) ||| BitVec.ofInt 32 (y.toNat : Int)).toNat : Int) := rfl
  rw [e, wrap_u32, BitVec.ofInt_natCast, BitVec.ofInt_natCast, BitVec.ofNat_toNat, BitVec.ofNat_toNat, BitVec.setWidth_eq, BitVec.setWidth_eq]
  unfold tn
  omega
theorem bits_and_u32 (x y : BitVec 32) : bits .and .u32 (tn x) (tn y) = tn (x &&& y) := by
  have h := (x &&& y).isLt
  have e : bits .and .u32 (tn x) (tn y) = IntKind.u32.wrap ((BitVec.ofInt 32 (x.toNat : Int) &&& BitVec.ofInt 32 (y.toNat : Int)).toNat : Int) := rfl
  rw [e, wrap_u32, BitVec.ofInt_natCast, BitVec.ofInt_natCast, BitVec.ofNat_toNat, BitVec.ofNat_toNat, BitVec.setWidth_eq, BitVec.setWidth_eq]
  unfold tn
  omega
theorem bits_xor_u32 (x y : BitVec 32) : bits .xor .u32 (tn x) (tn y) = tn (x ^^^ y) := by
  have h := (x ^^^ y).isLt
  have e : bits .xor .u32 (tn x) (tn y) = IntKind.u32.wrap ((BitVec.ofInt 32 (x.toNat : Int) ^^^ BitVec.ofInt 32 (y.toNat : Int)).toNat : Int) := rfl
  rw [e, wrap_u32, BitVec.ofInt_natCast, BitVec.ofInt_natCast, BitVec.ofNat_toNat, BitVec.ofNat_toNat, BitVec.setWidth_eq, BitVec.setWidth_eq]
  unfold tn
  omega
theorem add_u32 (x y : BitVec 32) : (tn x + tn y) % (4294967296 : Int) = tn (x + y) := by
  unfold tn
  rw [BitVec.toNat_add]; omega
theorem shl_u32 (x : BitVec 32) (m : Nat) : tn x * (2 : Int) ^ m % (4294967296 : Int) = tn (x <<< m) := by
  unfold tn
  rw [BitVec.toNat_shiftLeft, Nat.shiftLeft_eq, Int.natCast_emod, Int.natCast_mul, Int.natCast_pow]
  rfl
theorem shr_u32 (x : BitVec 32) (m : Nat) : tn x / (2 : Int) ^ m = tn (x >>> m) := by
  unfold tn
  rw [BitVec.toNat_ushiftRight, Nat.shiftRight_eq_div_pow, Int.natCast_ediv, Int.natCast_pow]
  rfl
theorem rot_eq (x : BitVec 32) (k : Nat) (k1 : 1 ≤ k) (k2 : k < 32) :
    bits BinOp.or IntKind.u32 (tn x * 2 ^ (32 - k) % 4294967296) (tn x / 2 ^ (32 - (32 - k))) = tn (x.rotateRight k) := by
  rw [shl_u32, shr_u32, bits_or_u32, show 32 - (32 - k) = k from by omega, BitVec.or_comm]
  rw [BitVec.rotateRight, Nat.mod_eq_of_lt k2]
  rfl

set_option maxHeartbeats 400000 in
theorem rot_any (x : BitVec 32) (k : Nat) (w : World) (k1 : 1 ≤ k) (k2 : k < 32) :
    Calls Tryd.prog 71 #[.int .u32 (tn x), .int .i64 (-(k:Int))] w fun e w' => e = .returned (.int .u32 (tn (x.rotateRight k))) ∧ w = w' := by
  have h1 := and31 k k1 k2
  go_enter Tryd.func71, Tryd.ntmps71
  go_wp2
  go_ret
  exact ⟨congrArg Ending.returned (congrArg (Value.int IntKind.u32) (rot_eq x k k1 k2)), rfl⟩

/-- the rotations of a word, over some places -/
def turnedBy (x : BitVec 32) (ps : List Nat) : BitVec 32 := ps.foldl (fun acc n => acc ^^^ x.rotateRight n) 0

theorem turnedBy_snoc (x : BitVec 32) (ps : List Nat) (k : Nat) (h : k < ps.length) : turnedBy x (ps.take (k + 1)) = turnedBy x (ps.take k) ^^^ x.rotateRight ps[k] := by
  rw [turnedBy, List.take_succ_eq_append_getElem h, List.foldl_append]; rfl

set_option maxHeartbeats 400000 in
theorem turned_any (x : BitVec 32) (ps : List Nat) (b n : Nat) (w : World) (hn : ps.length = n) (hl : n < 1000) (hp : ∀ (i : Nat) (h : i < ps.length), 1 ≤ ps[i] ∧ ps[i] < 32)
    (hc : ∀ (i : Nat) (h : i < ps.length), w.cell? ⟨b, i, none⟩ = some (.int .i64 ps[i])) :
    Calls Tryd.prog 70 #[.int .u32 (tn x), .slice (some ⟨b, 0, none⟩) n n] w fun e w' => e = .returned (.int .u32 (tn (turnedBy x ps))) ∧ w = w' := by
  subst hn
  have HC := Lib.hid hc
  have HP := Lib.hid hp
  clear hc hp
  go_enter Tryd.func70, Tryd.ntmps70
  go_wp2
  go_loop [5, 7, 10] (fun all n i => ∃ k : Nat, k ≤ ps.length ∧ i = .int .i64 k ∧ all = .int .u32 (tn (turnedBy x (ps.take k)))) (fun _ _ i => ps.length - (intOf i).toNat)
  case atStart => exact ⟨0, Nat.zero_le _, rfl, rfl⟩
  case round =>
    obtain ⟨k, hk, rfl, rfl⟩ := hrel
    by_cases hlt : k < ps.length
    · have hcell := HC.out k hlt
      have hpk := HP.out k hlt
      have HS := Lib.hid (turnedBy_snoc x ps k hlt)
      go_wp2_with (go_at_call 71; refine (rot_any _ _ _ hpk.1 hpk.2).mono ?_; rintro e w' ⟨rfl, rfl⟩)
      go_round
      case rel => exact ⟨k + 1, by omega, by go_num, by rw [HS.out, ← bits_xor_u32]⟩
      case measure => simp [intOf]; omega
    · go_wp2
      go_ret
      exact ⟨by rw [List.take_of_length_le (by omega)]; rfl, rfl⟩
end Go.Proofs.YtpbbpkflljcklaaDoor
/- Small facts on words, on the message schedule, and on the blocks that the compression lays. -/
namespace Go.Proofs.YtpbbpkflljcklaaDoor
open Go.RowKit

def word0 (c : Nat → BitVec 32) (t : Nat) : BitVec 32 := c (4*t) <<< 24 ||| c (4*t+1) <<< 16 ||| c (4*t+2) <<< 8 ||| c (4*t+3)
def sig0 (x : BitVec 32) : BitVec 32 := turnedBy x [7, 18] ^^^ x >>> 3
def sig1 (x : BitVec 32) : BitVec 32 := turnedBy x [17, 19] ^^^ x >>> 10
def sched (c : Nat → BitVec 32) (t : Nat) : BitVec 32 :=
  if t < 16 then word0 c t else sched c (t-16) + sched c (t-7) + sig0 (sched c (t-15)) + sig1 (sched c (t-2))
termination_by t

theorem sched_lo (c : Nat → BitVec 32) (t : Nat) (h : t < 16) : sched c t = word0 c t := by rw [sched, if_pos h]
theorem sched_hi (c : Nat → BitVec 32) (t : Nat) (h : 16 ≤ t) : sched c t = sched c (t-16) + sched c (t-7) + sig0 (sched c (t-15)) + sig1 (sched c (t-2)) := by rw [sched, if_neg (by omega)]

/-- the blocks that the function lays -/
structure Lay (N : Nat) (V B R : Array Value) (w : World) : Prop where
  hv : w.heap[N]? = some (.cells V 94 (0, 0))
  hb : w.heap[N+1]? = some (.cells B 95 (0, 0))
  ho : ∃ Z : Array Value, Z.size = 8 ∧ w.heap[N+2]? = some (.cells Z 94 (0, 0))
  hr : w.heap[N+3]? = some (.cells R 99 (0, 0))

/-- an index, as the walk asks of it -/
theorem idx (x : Int) (n : Nat) (h : x = n) (hb : n < 1000) : IntKind.i64.wrap x = x ∧ 0 ≤ x ∧ x.toNat = n := ⟨IntWalk.i64_in _ (by omega), by omega, by omega⟩

theorem Lay.cellV {N : Nat} {V B R : Array Value} {w : World} (h : Lay N V B R w) (i : Nat) : w.cell? ⟨N, i, none⟩ = V[i]? := by
  simp [World.cell?, h.hv]
theorem Lay.cellB {N : Nat} {V B R : Array Value} {w : World} (h : Lay N V B R w) (i : Nat) : w.cell? ⟨N+1, i, none⟩ = B[i]? := by
  simp [World.cell?, h.hb]
theorem Lay.cellR {N : Nat} {V B R : Array Value} {w : World} (h : Lay N V B R w) (i : Nat) : w.cell? ⟨N+1+1+1, i, none⟩ = R[i]? := by
  simp [World.cell?, h.hr]
theorem Lay.frR {N : Nat} {V B R : Array Value} {w : World} (h : Lay N V B R w) (i : Nat) : w.frozen? ⟨N+1+1+1, i, none⟩ = false := by
  simp [World.frozen?, h.hr]
theorem Lay.store {N : Nat} {V B R : Array Value} {w : World} (h : Lay N V B R w) (k : Nat) (u : Value) : Lay N V B (R.setIfInBounds k u) (w.setCell ⟨N+1+1+1, k, none⟩ u) := by
  obtain ⟨hv, hb, ⟨Z, hZ, ho⟩, hr⟩ := h
  refine ⟨?_, ?_, ⟨Z, hZ, ?_⟩, ?_⟩
  · rw [Below.heap_setCell _ _ _ _ (by simp; omega)]; exact hv
  · rw [Below.heap_setCell _ _ _ _ (by simp)]; exact hb
  · rw [Below.heap_setCell _ _ _ _ (by simp)]; exact ho
  · show (w.heap.modify (N + 3) _)[N + 3]? = _
    rw [Array.getElem?_modify, if_pos rfl, hr]
    rfl
theorem Lay.drew {N : Nat} {V B R : Array Value} {w : World} (h : Lay N V B R w) : Lay N V B R w.drew := ⟨h.hv, h.hb, h.ho, h.hr⟩
theorem Lay.drewN {N : Nat} {V B R : Array Value} {w : World} (h : Lay N V B R w) (n : Nat) : Lay N V B R (w.drewN n) := ⟨h.hv, h.hb, h.ho, h.hr⟩
theorem Below_drewN {B : Nat} {a w : World} (h : Below B a w) (n : Nat) : Below B a (w.drewN n) := ⟨h.os, h.tape, h.output, h.size, h.block⟩
theorem Lay.size {N : Nat} {V B R : Array Value} {w : World} (h : Lay N V B R w) : N + 3 < w.heap.size := by
  have := h.hr
  rw [Array.getElem?_eq_some_iff] at this
  exact this.1
theorem Lay.alloc {N : Nat} {V B R : Array Value} {w : World} (h : Lay N V B R w) (o : Obj) : Lay N V B R (w.alloc o) := by
  have hz := h.size
  obtain ⟨hv, hb, ⟨Z, hZ, ho⟩, hr⟩ := h
  refine ⟨?_, ?_, ⟨Z, hZ, ?_⟩, ?_⟩ <;> (rw [Below.heap_alloc _ _ _ (by omega)]; assumption)

theorem run_index60 (R : Array Value) (k : Nat) (v : Value) (hk : k < 64) (h : R[k]? = some v) (w : World) : (Instr.index 99 (.agg R) (.int .i64 (k : Int))).run Tryd.prog w = .ok v w := by
  have h1 : (0 : Int) ≤ (k : Int) ∧ (k : Int) < ((64 : Nat) : Int) := by omega
  have h2 : (sizeOf 88).run Tryd.prog w = .ok 1 w := by kernel_rfl
  simp [Instr.index, asIntOf, run_underlying Tryd.underlying99, h1, part, h2, h]
  intro h4
  omega

theorem lay_start (w : World) (V B Z R : Array Value) (hZ : Z.size = 8) : Lay w.heap.size V B R ((((w.alloc (.cells V 94)).alloc (.cells B 95)).alloc (.cells Z 94)).alloc (.cells R 99)) := by
  refine ⟨?_, ?_, ⟨Z, hZ, ?_⟩, ?_⟩
  · rw [Below.heap_alloc _ _ _ (by simp; omega), Below.heap_alloc _ _ _ (by simp; omega), Below.heap_alloc _ _ _ (by simp)]; exact heap_alloc_new w _
  · rw [Below.heap_alloc _ _ _ (by simp), Below.heap_alloc _ _ _ (by simp)]
    have := heap_alloc_new (w.alloc (.cells V 94)) (.cells B 95)
    rwa [World.size_alloc] at this
  · rw [Below.heap_alloc _ _ _ (by simp)]
    have := heap_alloc_new ((w.alloc (.cells V 94)).alloc (.cells B 95)) (.cells Z 94)
    rwa [World.size_alloc, World.size_alloc] at this
  · have := heap_alloc_new (((w.alloc (.cells V 94)).alloc (.cells B 95)).alloc (.cells Z 94)) (.cells R 99)
    rwa [World.size_alloc, World.size_alloc, World.size_alloc] at this
theorem below4 (w : World) (A B C D : Obj) : Below w.heap.size w ((((w.alloc A).alloc B).alloc C).alloc D) :=
  ((((Below.refl _ _).alloc (Nat.le_refl _) _).alloc (by simp) _).alloc (by simp; omega) _).alloc (by simp; omega) _

theorem turned2 (x : BitVec 32) (p q b : Nat) (w : World) (hp : 1 ≤ p ∧ p < 32) (hq : 1 ≤ q ∧ q < 32) (h0 : w.cell? ⟨b, 0, none⟩ = some (.int .i64 p)) (h1 : w.cell? ⟨b, 1, none⟩ = some (.int .i64 q)) :
    Calls Tryd.prog 70 #[.int .u32 (tn x), .slice (some ⟨b, 0, none⟩) 2 2] w fun e w' => e = .returned (.int .u32 (tn (turnedBy x [p, q]))) ∧ w = w' :=
  turned_any x [p, q] b 2 w rfl (by omega)
    (fun i h => by match i, h with | 0, _ => exact hp | 1, _ => exact hq)
    (fun i h => by match i, h with | 0, _ => exact h0 | 1, _ => exact h1)
theorem turned3 (x : BitVec 32) (p q r b : Nat) (w : World) (hp : 1 ≤ p ∧ p < 32) (hq : 1 ≤ q ∧ q < 32) (hr : 1 ≤ r ∧ r < 32) (h0 : w.cell? ⟨b, 0, none⟩ = some (.int .i64 p)) (h1 : w.cell? ⟨b, 1, none⟩ = some (.int .i64 q))
    (h2 : w.cell? ⟨b, 2, none⟩ = some (.int .i64 r)) :
    Calls Tryd.prog 70 #[.int .u32 (tn x), .slice (some ⟨b, 0, none⟩) 3 3] w fun e w' => e = .returned (.int .u32 (tn (turnedBy x [p, q, r]))) ∧ w = w' :=
  turned_any x [p, q, r] b 3 w rfl (by omega)
    (fun i h => by match i, h with | 0, _ => exact hp | 1, _ => exact hq | 2, _ => exact hr)
    (fun i h => by match i, h with | 0, _ => exact h0 | 1, _ => exact h1 | 2, _ => exact h2)
theorem turned_7_18 (x : BitVec 32) (b : Nat) (w : World) (h0 : w.cell? ⟨b, 0, none⟩ = some (.int .i64 7)) (h1 : w.cell? ⟨b, 1, none⟩ = some (.int .i64 18)) :
    Calls Tryd.prog 70 #[.int .u32 (tn x), .slice (some ⟨b, 0, none⟩) 2 2] w fun e w' => e = .returned (.int .u32 (tn (turnedBy x [7, 18]))) ∧ w = w' :=
  turned2 x 7 18 b w (by decide) (by decide) h0 h1
theorem turned_17_19 (x : BitVec 32) (b : Nat) (w : World) (h0 : w.cell? ⟨b, 0, none⟩ = some (.int .i64 17)) (h1 : w.cell? ⟨b, 1, none⟩ = some (.int .i64 19)) :
    Calls Tryd.prog 70 #[.int .u32 (tn x), .slice (some ⟨b, 0, none⟩) 2 2] w fun e w' => e = .returned (.int .u32 (tn (turnedBy x [17, 19]))) ∧ w = w' :=
  turned2 x 17 19 b w (by decide) (by decide) h0 h1
theorem turned_6_11_25 (x : BitVec 32) (b : Nat) (w : World) (h0 : w.cell? ⟨b, 0, none⟩ = some (.int .i64 6)) (h1 : w.cell? ⟨b, 1, none⟩ = some (.int .i64 11)) (h2 : w.cell? ⟨b, 2, none⟩ = some (.int .i64 25)) :
    Calls Tryd.prog 70 #[.int .u32 (tn x), .slice (some ⟨b, 0, none⟩) 3 3] w fun e w' => e = .returned (.int .u32 (tn (turnedBy x [6, 11, 25]))) ∧ w = w' :=
  turned3 x 6 11 25 b w (by decide) (by decide) (by decide) h0 h1 h2
theorem turned_2_13_22 (x : BitVec 32) (b : Nat) (w : World) (h0 : w.cell? ⟨b, 0, none⟩ = some (.int .i64 2)) (h1 : w.cell? ⟨b, 1, none⟩ = some (.int .i64 13)) (h2 : w.cell? ⟨b, 2, none⟩ = some (.int .i64 22)) :
    Calls Tryd.prog 70 #[.int .u32 (tn x), .slice (some ⟨b, 0, none⟩) 3 3] w fun e w' => e = .returned (.int .u32 (tn (turnedBy x [2, 13, 22]))) ∧ w = w' :=
  turned3 x 2 13 22 b w (by decide) (by decide) (by decide) h0 h1 h2

theorem cell_setCell_off {w : World} {b k j : Nat} (h : k ≠ j) (v : Value) : (w.setCell ⟨b, k, none⟩ v).cell? ⟨b, j, none⟩ = w.cell? ⟨b, j, none⟩ :=
  World.cell?_setCell_other _ _ _ _ (by intro e; injection e with _ e2 _; exact h e2)
theorem size_setCell (w : World) (a : Addr) (v : Value) : (w.setCell a v).heap.size = w.heap.size := by simp [World.setCell]
theorem keep_store {n k j : Nat} {wq : World} {A B : Obj} {v x : Value} (hz : n < wq.heap.size) (hne : k ≠ j) (h : wq.cell? ⟨n, j, none⟩ = some x) :
    (((wq.setCell ⟨n, k, none⟩ v).alloc A).alloc B).drew.cell? ⟨n, j, none⟩ = some x := by
  have h1 := size_setCell wq ⟨n, k, none⟩ v
  have h2 : n < (wq.setCell ⟨n, k, none⟩ v).heap.size := by omega
  have h3 : n < ((wq.setCell ⟨n, k, none⟩ v).alloc A).heap.size := by rw [World.size_alloc]; omega
  show (((wq.setCell ⟨n, k, none⟩ v).alloc A).alloc B).cell? ⟨n, j, none⟩ = some x
  rw [World.cell?_alloc_past (hn := h3), World.cell?_alloc_past (hn := h2), cell_setCell_off hne, h]

theorem wrap_tn (x : BitVec 32) : tn x % (4294967296 : Int) = tn x := by have := tn_nonneg x; have := tn_lt x; omega
theorem word0_eq (c : Nat → BitVec 32) (k : Nat) : (bits BinOp.or IntKind.u32
                      (bits BinOp.or IntKind.u32
                        (bits BinOp.or IntKind.u32 (tn (c (4 * k)) % (4294967296 : Int) * (16777216 : Int) % (4294967296 : Int))
                          (tn (c (4 * k + 1)) % (4294967296 : Int) * (65536 : Int) % (4294967296 : Int)))
                        (tn (c (4 * k + 2)) % (4294967296 : Int) * (256 : Int) % (4294967296 : Int)))
                      (tn (c (4 * k + 3)) % (4294967296 : Int))) = tn (word0 c k) := by
  have e24 : ∀ x : BitVec 32, tn x * (16777216 : Int) % (4294967296 : Int) = tn (x <<< 24) := fun x => shl_u32 x 24
  have e16 : ∀ x : BitVec 32, tn x * (65536 : Int) % (4294967296 : Int) = tn (x <<< 16) := fun x => shl_u32 x 16
  have e8 : ∀ x : BitVec 32, tn x * (256 : Int) % (4294967296 : Int) = tn (x <<< 8) := fun x => shl_u32 x 8
  simp only [wrap_tn, e24, e16, e8, bits_or_u32]
  rfl

theorem filled {R : Array Value} {f : Nat → BitVec 32} {k : Nat} (hR : R.size = 64) (hk : k < 64) (h : ∀ j < k, R[j]? = some (.int .u32 (tn (f j)))) :
    ∀ j < k + 1, (R.setIfInBounds k (.int .u32 (tn (f k))))[j]? = some (.int .u32 (tn (f j))) := by
  intro j hj
  rw [Array.getElem?_setIfInBounds]
  by_cases e : k = j
  · subst e; simp [hR, hk]
  · rw [if_neg e]; exact h j (by omega)

theorem sched_eq (c : Nat → BitVec 32) (k : Nat) (h : 16 ≤ k) : tn (sched c (k - 16) + sched c (k - 7) + (turnedBy (sched c (k - 15)) [7, 18] ^^^ sched c (k - 15) >>> 3) + (turnedBy (sched c (k - 2)) [17, 19] ^^^ sched c (k - 2) >>> 10)) = tn (sched c k) := by
  rw [sched_hi c k h]; rfl
theorem shr3 (x : BitVec 32) : tn x / (8 : Int) = tn (x >>> 3) := shr_u32 x 3
theorem shr10 (x : BitVec 32) : tn x / (1024 : Int) = tn (x >>> 10) := shr_u32 x 10

theorem not_u32 (x : BitVec 32) : bits BinOp.xor IntKind.u32 IntKind.u32.max (tn x) = tn (~~~x) := by
  have e : IntKind.u32.max = tn (BitVec.allOnes 32) := by decide +kernel
  rw [e, bits_xor_u32, BitVec.allOnes_xor]

theorem heap_setCells_ne (b k : Nat) (h : k ≠ b) : ∀ (vs : List Value) (o : Nat) (w : World), (w.setCells b o vs).heap[k]? = w.heap[k]?
  | [], _, _ => rfl
  | v :: r, o, w => by rw [World.setCells, heap_setCells_ne b k h r (o + 1), Below.heap_setCell _ _ _ _ h]
theorem size_setCells (b : Nat) : ∀ (vs : List Value) (o : Nat) (w : World), (w.setCells b o vs).heap.size = w.heap.size
  | [], _, _ => rfl
  | v :: r, o, w => by rw [World.setCells, size_setCells b r (o + 1), size_setCell]
theorem rest_setCells (b : Nat) : ∀ (vs : List Value) (o : Nat) (w : World), (w.setCells b o vs).os = w.os ∧ (w.setCells b o vs).tape = w.tape ∧ (w.setCells b o vs).output = w.output
  | [], _, _ => ⟨rfl, rfl, rfl⟩
  | v :: r, o, w => by rw [World.setCells]; exact rest_setCells b r (o + 1) _
theorem Below_setCells {B : Nat} {a w : World} (h : Below B a w) {b : Nat} (hb : B ≤ b) (o : Nat) (vs : List Value) : Below B a (w.setCells b o vs) :=
  have q := rest_setCells b vs o w
  h.trans ⟨q.1, q.2.1, q.2.2, Nat.le_of_eq (size_setCells b vs o w).symm, fun k hk => heap_setCells_ne b k (by omega) vs o w⟩
theorem Lay.there {N : Nat} {V B R : Array Value} {w : World} (h : Lay N V B R w) : w.there (N+1+1) 0 8 := by
  obtain ⟨Z, hZ, ho⟩ := h.ho
  intro j hj
  have e : w.heap[N+1+1]? = some (.cells Z 94 (0, 0)) := ho
  simp [World.cell?, World.frozen?, e, hZ, hj]

theorem Lay.outAt {N : Nat} {V B R : Array Value} {w : World} (h : Lay N V B R w) (i : Nat) (hi : i < 8) : (∃ z, w.cell? ⟨N+1+1, i, none⟩ = some z) ∧ w.frozen? ⟨N+1+1, i, none⟩ = false := by
  obtain ⟨Z, hZ, ho⟩ := h.ho
  have e : w.heap[N+1+1]? = some (.cells Z 94 (0, 0)) := ho
  exact ⟨⟨Z[i], by simp [World.cell?, e]⟩, by simp [World.frozen?, e]⟩

structure St where
  a : BitVec 32
  b : BitVec 32
  c : BitVec 32
  d : BitVec 32
  e : BitVec 32
  f : BitVec 32
  g : BitVec 32
  h : BitVec 32

def xOf (s : St) (kt wt : BitVec 32) : BitVec 32 := s.h + kt + wt + turnedBy s.e [6, 11, 25] + (s.e &&& s.f ||| ~~~s.e &&& s.g)
def yOf (s : St) : BitVec 32 := turnedBy s.a [2, 13, 22] + (s.a &&& s.b ||| s.a &&& s.c ||| s.b &&& s.c)
def stepS (s : St) (kt wt : BitVec 32) : St := ⟨xOf s kt wt + yOf s, s.a, s.b, s.c, s.d + xOf s kt wt, s.e, s.f, s.g⟩
def rounds (K W : Nat → BitVec 32) (s : St) : Nat → St
  | 0 => s
  | n + 1 => stepS (rounds K W s n) (K n) (W n)

theorem turnedBy2 (x : BitVec 32) (p q : Nat) : turnedBy x [p, q] = x.rotateRight p ^^^ x.rotateRight q := by simp [turnedBy]
theorem turnedBy3 (x : BitVec 32) (p q r : Nat) : turnedBy x [p, q, r] = x.rotateRight p ^^^ x.rotateRight q ^^^ x.rotateRight r := by simp [turnedBy]
end Go.Proofs.YtpbbpkflljcklaaDoor
/- The padding is one byte 128, the noughts and the eight bytes of the count, for sizes below ten to the twelfth. -/
namespace Go.Proofs.YtpbbpkflljcklaaDoor
open Go.RowKit

theorem Tryd.info5 : (Tryd.prog.info? 5).map (fun i => (i.zero, i.size, i.bytes)) = some (some (.int .u8 0), 1, 1) := by kernel_rfl

/-- bytes as cells -/
def cellsOf (l : List UInt8) : List Value := l.map fun b => .int .u8 (b.toNat : Int)
theorem cellsOf_length (l : List UInt8) : (cellsOf l).length = l.length := by simp [cellsOf]
theorem cellsOf_append (a b : List UInt8) : cellsOf (a ++ b) = cellsOf a ++ cellsOf b := by simp [cellsOf]
theorem cellsOf_get (l : List UInt8) (j : Nat) (h : j < l.length) : (cellsOf l)[j]? = some (.int .u8 (l[j].toNat : Int)) := by simp [cellsOf, h]
/-- how many noughts -/
def noughts (n : Nat) : Nat := (119 - n % 64) % 64
/-- the last k of a number's eight bytes that come first -/
def be64To (v k : Nat) : List UInt8 := (List.range k).map fun j => UInt8.ofNat (v / 2 ^ (56 - 8 * j))
def padL (n : Nat) : List UInt8 := 128 :: List.replicate (noughts n) 0 ++ be64To (8 * n) 8

/-- what stands behind, as far as it is laid -/
def padTo (n m k : Nat) : List UInt8 := 128 :: List.replicate m 0 ++ be64To (8 * n) k

theorem be64To_succ (v k : Nat) : be64To v (k + 1) = be64To v k ++ [UInt8.ofNat (v / 2 ^ (56 - 8 * k))] := by
  simp [be64To, List.range_succ]

theorem made_pad (w : World) (m : Nat) (C : Array Value) (hmx : m + 9 ≤ maxLen) (hC : C = madeCells #[.int .u8 0] (m + 9)) : (w.alloc (.cells (C.setIfInBounds 0 (.int .u8 128)) 5)).ownsRow w.heap.size 5 1 (.slice (some ⟨w.heap.size, 0, none⟩) (m + 1) (m + 9)) (m + 1) (cellsOf (128 :: List.replicate m 0)) := by
  subst hC
  refine ⟨by simp [cellsOf], .inr ⟨_, _, _, rfl, Nat.le_refl _, heap_alloc_new w _, by omega, hmx, by simp [size_madeCells], ?_⟩⟩
  rw [Array.toList_setIfInBounds, toList_madeCells_one, show m + 9 = (m + 8) + 1 by omega, List.replicate_succ, List.set_cons_zero, Nat.mul_one, List.take_succ_cons, List.take_replicate, Nat.min_eq_left (by omega)]
  simp [cellsOf]

theorem byte_eq (n k : Nat) : ((n : Int) * (8 : Int) / (2 : Int) ^ (56 - 8 * k) % (256 : Int)) = ((UInt8.ofNat (8 * n / 2 ^ (56 - 8 * k))).toNat : Int) := by
  have e : (2 : Int) ^ (56 - 8 * k) = ((2 ^ (56 - 8 * k) : Nat) : Int) := by rw [Int.natCast_pow]; rfl
  rw [e, UInt8.toNat_ofNat', Nat.mul_comm 8 n]
  generalize 2 ^ (56 - 8 * k) = p
  show _ = ((n * 8 / p % 256 : Nat) : Int)
  rw [Int.natCast_emod, Int.natCast_ediv, Int.natCast_mul]
  rfl

theorem padTo_succ (n m k : Nat) : cellsOf (padTo n m k) ++ [.int .u8 ((n : Int) * (8 : Int) / (2 : Int) ^ (56 - 8 * k) % (256 : Int))] = cellsOf (padTo n m (k + 1)) := by
  rw [byte_eq, padTo, padTo, be64To_succ, ← List.append_assoc, cellsOf_append (128 :: List.replicate m 0 ++ be64To (8 * n) k)]; rfl

theorem owned_bytes {w : World} {base g n cap : Nat} {l l' : List UInt8} (h : w.ownsRow base 5 1 (.slice (some ⟨g, 0, none⟩) n cap) n (cellsOf l')) (e : l' = l) :
    ∀ j (hj : j < l.length), w.cell? ((⟨g, 0, none⟩ : Addr).add j) = some (.int .u8 (l[j].toNat : Int)) := by
  subst e
  intro j hj
  have hn := h.1
  rw [cellsOf_length] at hn
  have := h.cellAt j (by omega)
  rw [Addr.add_mid, Nat.zero_add, this, cellsOf_get]

set_option maxRecDepth 100000 in
set_option maxHeartbeats 1000000 in
theorem padding_any (n : Nat) (w : World) (hn : n < 1000000000000) :
    Calls Tryd.prog 64 #[.int .u64 (n : Int)] w fun e w' => e = .returned (.string ⟨(padL n).toArray⟩) ∧ Below w.heap.size w w' := by
  obtain ⟨i0, hi, hz0, hz1, hz2⟩ := info_parts Tryd.info5
  obtain ⟨m, hm, hm2⟩ : ∃ m : Nat, (119 - (n : Int) % 64) % 64 = (m : Int) ∧ noughts n = m := ⟨noughts n, by unfold noughts; omega, rfl⟩
  have hmb : m < 64 := by unfold noughts at hm2; omega
  obtain ⟨C, hC⟩ : ∃ C, C = madeCells #[.int .u8 0] (m + 9) := ⟨_, rfl⟩
  have hmk : ∀ w, (Instr.makeSlice 33 (.int .u64 (1 + (m:Int))) (.int .u64 (1 + (m:Int) + 8))).run Tryd.prog w = .ok (.slice (some ⟨w.heap.size, 0, none⟩) (m + 1) (m + 9)) (w.alloc (.cells C 5)) := by
    intro w
    have h := run_make (P := Tryd.prog) w 33 5 i0 (.int .u8 0) Tryd.underlying33 hi hz0 .u64 .u64 (1 + (m:Int)) (1 + (m:Int) + 8) (by omega) (by omega) (by rw [hz2]; omega) (by omega)
    rw [show (1 + (m:Int)).toNat = m + 1 by omega, show (1 + (m:Int) + 8).toNat = m + 9 by omega, hz1, Nat.mul_one] at h
    rw [hC]
    exact h
  have hC0 : C[0]? = some (.int .u8 0) := by rw [hC]; simp [madeCells]
  have Hm2 := Lib.hid hm2
  have HC := Lib.hid hC
  clear hm2 hC
  go_enter Tryd.func64, Tryd.ntmps64
  go_wp2
  clear hm
  generalize (119 - (n : Int) % 64) % 64 = q9
  generalize 119 - (n : Int) % 64 = q8
  go_loopw [4, 5] (fun v i wr => ∃ k : Nat, k ≤ 8 ∧ i = .int .i64 (56 - 8 * (k : Int)) ∧ v = .slice (some ⟨w.heap.size, 0, none⟩) (m + 1 + k) (m + 9) ∧
      wr.ownsRow w.heap.size 5 1 (.slice (some ⟨w.heap.size, 0, none⟩) (m + 1 + k) (m + 9)) (m + 1 + k) (cellsOf (padTo n m k)) ∧ Below w.heap.size w wr)
    (fun _ i _ => (8 + intOf i).toNat)
  case atStart =>
    exact ⟨0, by omega, by go_num, rfl, by simpa [padTo, be64To] using made_pad w m C (by unfold maxLen; omega) HC.out, (Below.refl _ _).alloc (Nat.le_refl _) _⟩
  case round =>
    obtain ⟨k, hk, rfl, rfl, hown, hbe⟩ := hrel
    by_cases hlt : k < 8
    · have hnb : (0:Int) ≤ n := by omega
      have hz := hbe.size
      have HO := Lib.hid (padTo_succ n m k)
      go_wp2_with (at_builtin; refine wpList_append_fits _ rfl (.tmp 22) (.tmp 28) 33 rfl w.heap.size 5 i0 1 Tryd.underlying33 hi hz1 w.heap.size (m + 1 + k) (m + 9) _ rfl (hown.alloc _) ⟨wr.heap.size, 0, none⟩ 1 1 [.int .u8 ((n : Int) * (8 : Int) / (2 : Int) ^ (56 - 8 * k) % (256 : Int))] rfl rfl (cell_one_new _ _ _) (by simp [Value.oneCell']) (by omega) ?_)
      intro w1 hown1 hgrow
      rw [HO.out] at hown1
      clear hown
      go_wp2
      go_roundw
      case rel => exact ⟨k + 1, by omega, by go_num, rfl, hown1, (hbe.alloc hz _).grown hgrow (by simp; omega) (fun k' e => by cases e; exact Nat.le_refl _)⟩
      case measure => simp [intOf]; omega
    · have ek : Hid (k = 8) := Lib.hid (by omega)
      have hpl : padTo n m k = padL n := by rw [ek.out, ← Hm2.out]; rfl
      have hcv : ∀ j (hj : j < (padL n).length), wr.cell? ((⟨w.heap.size, 0, none⟩ : Addr).add j) = some (.int .u8 ((padL n)[j].toNat : Int)) := owned_bytes hown hpl
      have hlen : Hid ((padL n).length = m + 1 + k) := Lib.hid (by have := hown.1; rw [hpl, cellsOf_length] at this; omega)
      clear hpl
      have hconv := run_convert_bytes_back wr 33 9 5 ⟨w.heap.size, 0, none⟩ (m + 9) (padL n) Tryd.underlying33 Tryd.underlying5 Tryd.underlying9 hcv
      rw [hlen.out] at hconv
      clear hcv
      go_wp2
      go_ret
      exact ⟨rfl, hbe⟩
end Go.Proofs.YtpbbpkflljcklaaDoor
/- The digest of eight words is their 32 bytes, the highest first. -/
namespace Go.Proofs.YtpbbpkflljcklaaDoor
open Go.RowKit

/-- a word's four bytes, the highest first -/
def word4 (x : BitVec 32) : List UInt8 := [UInt8.ofNat (x >>> 24).toNat, UInt8.ofNat (x >>> 16).toNat, UInt8.ofNat (x >>> 8).toNat, UInt8.ofNat x.toNat]
def digestTo (v : Nat → BitVec 32) (k : Nat) : List UInt8 := (List.range k).flatMap fun i => word4 (v i)
theorem digestTo_succ (v : Nat → BitVec 32) (k : Nat) : digestTo v (k + 1) = digestTo v k ++ word4 (v k) := by
  simp [digestTo, List.range_succ]
theorem digestTo_length (v : Nat → BitVec 32) : ∀ k, (digestTo v k).length = 4 * k
  | 0 => rfl
  | k + 1 => by rw [digestTo_succ, List.length_append, digestTo_length v k]; rfl

theorem run_index42 (R : Array Value) (k : Nat) (v : Value) (hk : k < 8) (h : R[k]? = some v) (w : World) : (Instr.index 94 (.agg R) (.int .i64 (k : Int))).run Tryd.prog w = .ok v w := by
  have h1 : (0 : Int) ≤ (k : Int) ∧ (k : Int) < ((8 : Nat) : Int) := by omega
  have h2 : (sizeOf 88).run Tryd.prog w = .ok 1 w := by kernel_rfl
  simp [Instr.index, asIntOf, run_underlying Tryd.underlying94, h1, part, h2, h]
  intro h4
  omega

theorem tn_u8 (x : BitVec 32) : tn x % (256 : Int) = ((UInt8.ofNat x.toNat).toNat : Int) := by
  rw [UInt8.toNat_ofNat', tn]
  omega

theorem word4_cells (x : BitVec 32) : [Value.int .u8 (tn x / (16777216 : Int) % (256 : Int)), .int .u8 (tn x / (65536 : Int) % (256 : Int)), .int .u8 (tn x / (256 : Int) % (256 : Int)), .int .u8 (tn x % (256 : Int))] = cellsOf (word4 x) := by
  have e24 : tn x / (16777216 : Int) = tn (x >>> 24) := shr_u32 x 24
  have e16 : tn x / (65536 : Int) = tn (x >>> 16) := shr_u32 x 16
  have e8 : tn x / (256 : Int) = tn (x >>> 8) := shr_u32 x 8
  rw [e24, e16, e8, tn_u8, tn_u8, tn_u8, tn_u8]
  rfl

theorem news_new (w : World) (l : List Value) (t : TypeId) : ∀ j u, l[j]? = some u → (w.alloc (.cells l.toArray t)).cell? ((⟨w.heap.size, 0, none⟩ : Addr).add j) = some u := by
  intro j u h
  rw [Addr.add_mid, Nat.zero_add, World.cell?_alloc_at (hn := rfl)]
  simpa using h

theorem made_dig (w : World) (b : Nat) (hb : b ≤ w.heap.size) (C : Array Value) (hC : C.size = 32) : (w.alloc (.cells C 5)).ownsRow b 5 1 (.slice (some ⟨w.heap.size, 0, none⟩) 0 32) 0 [] :=
  ⟨rfl, .inr ⟨_, _, _, rfl, hb, heap_alloc_new w _, by omega, by unfold maxLen; omega, by rw [hC], by simp⟩⟩

set_option maxRecDepth 100000 in
set_option maxHeartbeats 1000000 in
theorem digest_any (V : Array Value) (v : Nat → BitVec 32) (w : World) (hV : V.size = 8) (hv : ∀ i < 8, V[i]? = some (.int .u32 (tn (v i)))) :
    Calls Tryd.prog 65 #[.agg V] w fun e w' => e = .returned (.string ⟨(digestTo v 8).toArray⟩) ∧ Below w.heap.size w w' := by
  obtain ⟨i0, hi, hz0, hz1, hz2⟩ := info_parts Tryd.info5
  obtain ⟨C, hC⟩ : ∃ C, C = madeCells #[.int .u8 0] 32 := ⟨_, rfl⟩
  have hmk : ∀ w, (Instr.makeSlice 33 (.int .i64 0) (.int .i64 32)).run Tryd.prog w = .ok (.slice (some ⟨w.heap.size, 0, none⟩) 0 32) (w.alloc (.cells C 5)) := by
    intro w
    have h := run_make (P := Tryd.prog) w 33 5 i0 (.int .u8 0) Tryd.underlying33 hi hz0 .i64 .i64 0 32 (by omega) (by omega) (by rw [hz2]; omega) (by omega)
    rw [show (0:Int).toNat = 0 by omega, show (32:Int).toNat = 32 by omega, hz1, Nat.mul_one] at h
    rw [hC]
    exact h
  have hCs := Lib.hid (show C.size = 32 by rw [hC]; exact size_madeCells _ _)
  have HV := Lib.hid hv
  have hi42 := Lib.hid (show (Tryd.prog.info? 94).map (·.size) = some V.size by rw [hV]; kernel_rfl)
  clear hC hv hV
  go_enter Tryd.func65, Tryd.ntmps65
  go_wp2_with (refine wpList_load_row rfl 94 _ rfl _ rfl 94 V (0, 0) _ (heap_alloc2_old w _ _) Tryd.underlying94 rfl hi42.out ?_)
  go_loopw [3, 5, 8] (fun v' _ i wr => ∃ k : Nat, k ≤ 8 ∧ i = .int .i64 (k : Int) ∧ v' = .slice (some ⟨w.heap.size + 1, 0, none⟩) (4 * k) 32 ∧
      wr.ownsRow (w.heap.size + 1) 5 1 (.slice (some ⟨w.heap.size + 1, 0, none⟩) (4 * k) 32) (4 * k) (cellsOf (digestTo v k)) ∧ w.heap.size + 1 < wr.heap.size ∧ Below w.heap.size w wr)
    (fun _ _ i _ => 8 - (intOf i).toNat)
  case atStart =>
    exact ⟨0, by omega, rfl, rfl, by have := made_dig (w.alloc (.cells V 94)) (w.heap.size + 1) (by simp) C hCs.out; rwa [World.size_alloc] at this, by simp, ((Below.refl _ _).alloc (Nat.le_refl _) _).alloc (by simp) _⟩
  case round =>
    obtain ⟨k, hk, rfl, rfl, hown, hz, hbe⟩ := hrel
    by_cases hlt : k < 8
    · have hx := run_index42 V k _ hlt (HV.out k hlt)
      have HO := Lib.hid (show cellsOf (digestTo v k) ++ [Value.int .u8 (tn (v k) / (16777216 : Int) % (256 : Int)), .int .u8 (tn (v k) / (65536 : Int) % (256 : Int)), .int .u8 (tn (v k) / (256 : Int) % (256 : Int)), .int .u8 (tn (v k) % (256 : Int))] = cellsOf (digestTo v (k + 1)) by rw [word4_cells, digestTo_succ, cellsOf_append])
      go_wp2_with (at_builtin; refine wpList_append_fits _ rfl (.tmp 11) (.tmp 23) 33 rfl (w.heap.size + 1) 5 i0 1 Tryd.underlying33 hi hz1 (w.heap.size + 1) (4 * k) 32 _ rfl (hown.alloc _) ⟨wr.heap.size, 0, none⟩ 4 4 [Value.int .u8 (tn (v k) / (16777216 : Int) % (256 : Int)), .int .u8 (tn (v k) / (65536 : Int) % (256 : Int)), .int .u8 (tn (v k) / (256 : Int) % (256 : Int)), .int .u8 (tn (v k) % (256 : Int))] rfl rfl (news_new _ _ _) (by simp [Value.oneCell']) (by omega) ?_)
      intro w1 hown1 hgrow
      rw [HO.out] at hown1
      clear hown
      go_wp2
      go_roundw
      case rel => exact ⟨k + 1, by omega, by go_num, rfl, hown1, by have := hgrow.size; simp at this; omega, (hbe.alloc (by omega) _).grown hgrow (by simp; omega) (fun k' e => by cases e; omega)⟩
      case measure => simp [intOf]; omega
    · have ek : k = 8 := by omega
      subst ek
      have hconv := run_convert_bytes_back wr 33 9 5 ⟨w.heap.size + 1, 0, none⟩ 32 (digestTo v 8) Tryd.underlying33 Tryd.underlying5 Tryd.underlying9 (owned_bytes hown rfl)
      rw [digestTo_length] at hconv
      go_wp2
      go_ret
      exact ⟨rfl, hbe⟩
end Go.Proofs.YtpbbpkflljcklaaDoor
/- A number's eight bytes, by the program; and the number that bytes say. -/
namespace Go.Proofs.YtpbbpkflljcklaaDoor
open Go.RowKit

/-- a number's eight bytes, the highest first -/
def numL (n : Nat) : List UInt8 := be64To n 8
theorem numL_length (n : Nat) : (numL n).length = 8 := by simp [numL, be64To]
theorem numL_get (n j : Nat) (h : j < 8) : (numL n)[j]? = some (UInt8.ofNat (n / 2 ^ (56 - 8 * j))) := by simp [numL, be64To, h]

theorem shr_byte (n k : Nat) : ((n : Int) / (2 : Int) ^ (8 * k) % (256 : Int)) = ((UInt8.ofNat (n / 2 ^ (8 * k))).toNat : Int) := by
  have e : (2 : Int) ^ (8 * k) = ((2 ^ (8 * k) : Nat) : Int) := by rw [Int.natCast_pow]; rfl
  rw [e, UInt8.toNat_ofNat']
  generalize 2 ^ (8 * k) = p
  show _ = ((n / p % 256 : Nat) : Int)
  rw [Int.natCast_emod, Int.natCast_ediv]
  rfl

/-- the array of eight, from its end on -/
def Laid8 (n k : Nat) (R : Array Value) : Prop := ∀ j, 8 - k ≤ j → j < 8 → R[j]? = some (.int .u8 ((UInt8.ofNat (n / 2 ^ (56 - 8 * j))).toNat : Int))
theorem Laid8.next {n k : Nat} {R : Array Value} (h : Laid8 n k R) (hR : R.size = 8) (hk : k < 8) : Laid8 n (k + 1) (R.setIfInBounds (7 - k) (.int .u8 ((n : Int) / (2 : Int) ^ (8 * k) % (256 : Int)))) := by
  intro j h1 h2
  by_cases e : j = 7 - k
  · subst e
    rw [Array.getElem?_setIfInBounds_self_of_lt (by omega), shr_byte, show 56 - 8 * (7 - k) = 8 * k by omega]
  · rw [Array.getElem?_setIfInBounds_ne (by omega)]
    exact h j (by omega) h2

set_option maxRecDepth 100000 in
set_option maxHeartbeats 1000000 in
theorem num_any (n : Nat) (w : World) :
    Calls Tryd.prog 37 #[.int .u64 (n : Int)] w fun e w' => e = .returned (.string ⟨(numL n).toArray⟩) ∧ Below w.heap.size w w' := by
  go_enter Tryd.func37, Tryd.ntmps37
  go_wp2
  go_loopw [4, 5] (fun _ i wr => ∃ k : Nat, ∃ R : Array Value, k ≤ 8 ∧ i = .int .i64 (k : Int) ∧ R.size = 8 ∧ Hid (Laid8 n k R) ∧ wr.heap[w.heap.size]? = some (.cells R 73 (0, 0)) ∧ Below w.heap.size w wr)
    (fun _ i _ => 8 - (intOf i).toNat)
  case atStart => exact ⟨0, _, by omega, rfl, rfl, Lib.hid (fun j h1 h2 => by omega), heap_alloc_new w _, (Below.refl _ _).alloc (Nat.le_refl _) _⟩
  case round =>
    obtain ⟨k, R, hk, rfl, hR, HR, hrow, hbe⟩ := hrel
    by_cases hlt : k < 8
    · obtain ⟨u, hu⟩ : ∃ u, R[7 - k]? = some u := ⟨R[7 - k], by simp⟩
      have r0 : wr.cell? ⟨w.heap.size, 7 - k, none⟩ = some u := by rw [cell_of_row _ _ _ _ 73 _ hrow]; exact hu
      have r1 : wr.frozen? ⟨w.heap.size, 7 - k, none⟩ = false := frozen_of_row _ _ _ _ 73 hrow
      clear hu
      obtain ⟨i0, j0, l0⟩ := idx (7 - (k:Int)) (7 - k) (by omega) (by omega)
      have m0 : 7 - (k:Int) < 8 := by omega
      go_wp2
      go_roundw
      case rel =>
        refine ⟨k + 1, R.setIfInBounds (7 - k) _, by omega, by go_num, by simpa using hR, Lib.hid (HR.out.next hR hlt), ?_, hbe.setCell (by show w.heap.size ≤ w.heap.size; omega) _⟩
        exact heap_setCell_same wr w.heap.size (7 - k) R 73 _ hrow
      case measure => simp [intOf]; omega
    · have ek : k = 8 := by omega
      have hcv : ∀ j (hj : j < (numL n).length), wr.cell? ((⟨w.heap.size, 0, none⟩ : Addr).add j) = some (.int .u8 ((numL n)[j].toNat : Int)) := by
        intro j hj
        rw [numL_length] at hj
        have h := HR.out j (by omega) hj
        have e := numL_get n j hj
        rw [List.getElem?_eq_getElem (by rw [numL_length]; exact hj), Option.some.injEq] at e
        rw [Addr.add_mid, Nat.zero_add, cell_of_row _ _ _ _ 73 _ hrow, h, e]
      have hconv := run_convert_bytes_back wr 33 9 5 ⟨w.heap.size, 0, none⟩ 8 (numL n) Tryd.underlying33 Tryd.underlying5 Tryd.underlying9 hcv
      rw [numL_length] at hconv
      clear hcv
      go_wp2
      go_ret
      exact ⟨rfl, hbe⟩

/-- the number that some bytes say -/
def numberL (l : List UInt8) : Nat := l.foldl (fun a b => a * 256 + b.toNat) 0
theorem numberL_snoc (S : List UInt8) (k : Nat) (h : k < S.length) : numberL (S.take (k + 1)) = numberL (S.take k) * 256 + S[k].toNat := by
  rw [numberL, List.take_succ_eq_append_getElem h, List.foldl_append]; rfl
theorem numberL_lt (S : List UInt8) : ∀ k, k ≤ S.length → numberL (S.take k) < 256 ^ k
  | 0, _ => by simp [numberL]
  | k + 1, h => by
    rw [numberL_snoc S k (by omega), Nat.pow_succ]
    have := numberL_lt S k (by omega)
    have := S[k].toNat_lt
    omega

theorem numL_take (n : Nat) (hn : n < 18446744073709551616) : ∀ k, k ≤ 8 → numberL ((numL n).take k) = n / 256 ^ (8 - k)
  | 0, _ => by
    have : n / 256 ^ 8 = 0 := Nat.div_eq_of_lt (by omega)
    simp only [Nat.sub_zero, this]
    rfl
  | k + 1, h => by
    have hl : k < (numL n).length := by rw [numL_length]; omega
    rw [numberL_snoc _ k hl, numL_take n hn k (by omega)]
    have e := numL_get n k (by omega)
    rw [List.getElem?_eq_getElem hl, Option.some.injEq] at e
    rw [e, UInt8.toNat_ofNat', show 8 - k = (8 - (k + 1)) + 1 by omega, Nat.pow_succ, ← Nat.div_div_eq_div_mul, show 56 - 8 * k = 8 * (8 - (k + 1)) by omega, Nat.pow_mul]
    show n / 256 ^ (8 - (k + 1)) / 256 * 256 + n / 256 ^ (8 - (k + 1)) % 256 = _
    omega
theorem numberL_numL (n : Nat) (hn : n < 18446744073709551616) : numberL (numL n) = n := by
  have h := numL_take n hn 8 (by omega)
  rw [List.take_of_length_le (by rw [numL_length]; omega)] at h
  rw [h]; simp
theorem numL_inj {a b : Nat} (ha : a < 18446744073709551616) (hb : b < 18446744073709551616) (h : numL a = numL b) : a = b := by
  rw [← numberL_numL a ha, ← numberL_numL b hb, h]

/-- a text's number, from its front -/
def valL : List UInt8 → Nat
  | [] => 0
  | a :: x => a.toNat * 256 ^ x.length + valL x
theorem valL_lt : ∀ x : List UInt8, valL x < 256 ^ x.length
  | [] => by simp [valL]
  | a :: x => by
    have := valL_lt x
    have ha := a.toNat_lt
    rw [valL, List.length_cons, Nat.pow_succ]
    have h2 : a.toNat * 256 ^ x.length ≤ 255 * 256 ^ x.length := Nat.mul_le_mul_right _ (by omega)
    omega
theorem foldl_val : ∀ (x : List UInt8) (c : Nat), x.foldl (fun a b => a * 256 + b.toNat) c = c * 256 ^ x.length + valL x
  | [], c => by simp [valL]
  | a :: x, c => by
    rw [List.foldl_cons, foldl_val x, valL, List.length_cons, Nat.pow_succ, Nat.add_mul, Nat.mul_assoc, Nat.mul_comm 256, Nat.add_assoc]
theorem numberL_val (x : List UInt8) : numberL x = valL x := by rw [numberL, foldl_val]; simp
theorem less_val : ∀ x y : List UInt8, x.length = y.length → Op.bytesLess x y = decide (valL x < valL y)
  | [], [], _ => by simp [Op.bytesLess, valL]
  | [], _ :: _, h => by simp at h
  | _ :: _, [], h => by simp at h
  | a :: x, b :: y, h => by
    have hl : x.length = y.length := by simpa using h
    rw [Op.bytesLess, less_val x y hl, valL, valL, hl]
    have hx := valL_lt x
    have hy := valL_lt y
    rw [hl] at hx
    generalize 256 ^ y.length = p at hx hy
    rcases Nat.lt_trichotomy a.toNat b.toNat with h1 | h1 | h1
    · have : (a.toNat + 1) * p ≤ b.toNat * p := Nat.mul_le_mul_right _ h1
      rw [Nat.add_mul] at this
      have e1 : decide (a < b) = true := decide_eq_true (UInt8.lt_iff_toNat_lt.2 h1)
      have e2 : decide (a.toNat * p + valL x < b.toNat * p + valL y) = true := decide_eq_true (by omega)
      rw [e1, e2]; rfl
    · obtain rfl := UInt8.toNat_inj.1 h1
      have e1 : decide (a < a) = false := decide_eq_false (by rw [UInt8.lt_iff_toNat_lt]; omega)
      rw [e1]
      simp
    · have : (b.toNat + 1) * p ≤ a.toNat * p := Nat.mul_le_mul_right _ h1
      rw [Nat.add_mul] at this
      have e1 : decide (a < b) = false := decide_eq_false (by rw [UInt8.lt_iff_toNat_lt]; omega)
      have e2 : (a == b) = false := by rw [beq_eq_false_iff_ne]; rintro rfl; omega
      have e3 : decide (a.toNat * p + valL x < b.toNat * p + valL y) = false := decide_eq_false (by omega)
      rw [e1, e2, e3]; rfl
theorem numL_less (a b : Nat) (ha : a < 18446744073709551616) (hb : b < 18446744073709551616) : Op.bytesLess (numL a) (numL b) = decide ((a : Int) < (b : Int)) := by
  rw [less_val _ _ (by rw [numL_length, numL_length]), ← numberL_val, ← numberL_val, numberL_numL a ha, numberL_numL b hb]
  simp
theorem numL_eq (a b : Nat) (ha : a < 18446744073709551616) (hb : b < 18446744073709551616) : (numL a == numL b) = ((a : Int) == (b : Int)) := by
  by_cases h : a = b
  · subst h; simp
  · have : numL a ≠ numL b := fun e => h (numL_inj ha hb e)
    rw [beq_eq_false_iff_ne.2 this]
    symm
    rw [beq_eq_false_iff_ne]
    omega
end Go.Proofs.YtpbbpkflljcklaaDoor
/- The contracts of strings.Builder at this program: WriteByte, WriteString, Grow of a new one, and String, each by one application of the shelf's theorem. -/
namespace Go.Proofs.YtpbbpkflljcklaaDoor
open Go.Shelf Go.RowKit
def ren165 : Go.Shelf.Ren := ⟨fun | 165 => 48 | 240 => 61 | 241 => 62 | 276 => 68 | 277 => 69 | n => n, fun | 0 => 0 | 3 => 3 | 4 => 4 | 9 => 9 | 20 => 20 | 37 => 33 | 70 => 74 | 72 => 76 | 164 => 102 | 5 => 5 | n => n, fun | n => n⟩
theorem lays165 : Go.Proofs.Lays.n165 Tryd.prog ren165 := {
  mixed := by kernel_rfl
  f165 := Tryd.func48.trans (congrArg some (by kernel_rfl))
  f240 := Tryd.func61.trans (congrArg some (by kernel_rfl))
  f241 := Tryd.func62.trans (congrArg some (by kernel_rfl))
  f276 := Tryd.func68.trans (congrArg some (by kernel_rfl))
  f277 := Tryd.func69.trans (congrArg some (by kernel_rfl))
  t0 := Tryd.underlying0
  a0 := Tryd.isAgg0
  z0 := Tryd.sizeOf0
  v0 := Tryd.zeroValue0
  t3 := Tryd.underlying3
  a3 := Tryd.isAgg3
  z3 := Tryd.sizeOf3
  v3 := Tryd.zeroValue3
  t4 := Tryd.underlying4
  a4 := Tryd.isAgg4
  z4 := Tryd.sizeOf4
  v4 := Tryd.zeroValue4
  t9 := Tryd.underlying9
  a9 := Tryd.isAgg9
  z9 := Tryd.sizeOf9
  v9 := Tryd.zeroValue9
  t20 := Tryd.underlying20
  a20 := Tryd.isAgg20
  z20 := Tryd.sizeOf20
  v20 := Tryd.zeroValue20
  t37 := Tryd.underlying33
  a37 := Tryd.isAgg33
  z37 := Tryd.sizeOf33
  v37 := Tryd.zeroValue33
  t70 := Tryd.underlying74
  a70 := Tryd.isAgg74
  z70 := Tryd.sizeOf74
  v70 := Tryd.zeroValue74
  t72 := Tryd.underlying76
  a72 := Tryd.isAgg76
  z72 := Tryd.sizeOf76
  v72 := Tryd.zeroValue76
  t164 := Tryd.underlying102
  a164 := Tryd.isAgg102
  z164 := Tryd.sizeOf102
  v164 := Tryd.zeroValue102 }
theorem extra165 : Builder.Extra Tryd.prog ren165 := {
  sizeBuilder := by kernel_rfl
  liesBuilder := by kernel_rfl
  t5 := Tryd.underlying5
  a5 := Tryd.isAgg5
  z5 := Tryd.sizeOf5
  v5 := Tryd.zeroValue5
  infoByte := by kernel_rfl
  cellsByte := by kernel_rfl
  sizeByte := by kernel_rfl
  neB5 := by decide }
def ren166 : Go.Shelf.Ren := ⟨fun | 166 => 51 | 240 => 61 | 276 => 68 | n => n, fun | 0 => 0 | 3 => 3 | 4 => 4 | 9 => 9 | 20 => 20 | 37 => 33 | 70 => 74 | 72 => 76 | 75 => 80 | 164 => 102 | 80 => 85 | 76 => 81 | 5 => 5 | n => n, fun | n => n⟩
theorem lays166 : Go.Proofs.Lays.n166 Tryd.prog ren166 := {
  mixed := by kernel_rfl
  f166 := Tryd.func51.trans (congrArg some (by kernel_rfl))
  f240 := Tryd.func61.trans (congrArg some (by kernel_rfl))
  f276 := Tryd.func68.trans (congrArg some (by kernel_rfl))
  t0 := Tryd.underlying0
  a0 := Tryd.isAgg0
  z0 := Tryd.sizeOf0
  v0 := Tryd.zeroValue0
  t3 := Tryd.underlying3
  a3 := Tryd.isAgg3
  z3 := Tryd.sizeOf3
  v3 := Tryd.zeroValue3
  t4 := Tryd.underlying4
  a4 := Tryd.isAgg4
  z4 := Tryd.sizeOf4
  v4 := Tryd.zeroValue4
  t9 := Tryd.underlying9
  a9 := Tryd.isAgg9
  z9 := Tryd.sizeOf9
  v9 := Tryd.zeroValue9
  t20 := Tryd.underlying20
  a20 := Tryd.isAgg20
  z20 := Tryd.sizeOf20
  v20 := Tryd.zeroValue20
  t37 := Tryd.underlying33
  a37 := Tryd.isAgg33
  z37 := Tryd.sizeOf33
  v37 := Tryd.zeroValue33
  t70 := Tryd.underlying74
  a70 := Tryd.isAgg74
  z70 := Tryd.sizeOf74
  v70 := Tryd.zeroValue74
  t72 := Tryd.underlying76
  a72 := Tryd.isAgg76
  z72 := Tryd.sizeOf76
  v72 := Tryd.zeroValue76
  t75 := Tryd.underlying80
  a75 := Tryd.isAgg80
  z75 := Tryd.sizeOf80
  v75 := Tryd.zeroValue80
  t164 := Tryd.underlying102
  a164 := Tryd.isAgg102
  z164 := Tryd.sizeOf102
  v164 := Tryd.zeroValue102 }
theorem extra166 : Builder.Extra Tryd.prog ren166 := {
  sizeBuilder := by kernel_rfl
  liesBuilder := by kernel_rfl
  t5 := Tryd.underlying5
  a5 := Tryd.isAgg5
  z5 := Tryd.sizeOf5
  v5 := Tryd.zeroValue5
  infoByte := by kernel_rfl
  cellsByte := by kernel_rfl
  sizeByte := by kernel_rfl
  neB5 := by decide }
def ren167 : Go.Shelf.Ren := ⟨fun | 167 => 52 | 240 => 61 | 276 => 68 | n => n, fun | 0 => 0 | 4 => 4 | 5 => 5 | 9 => 9 | 20 => 20 | 37 => 33 | 70 => 74 | 72 => 76 | 75 => 80 | 164 => 102 | 80 => 85 | n => n, fun | n => n⟩
theorem lays167 : Go.Proofs.Lays.n167 Tryd.prog ren167 := {
  mixed := by kernel_rfl
  f167 := Tryd.func52.trans (congrArg some (by kernel_rfl))
  f240 := Tryd.func61.trans (congrArg some (by kernel_rfl))
  f276 := Tryd.func68.trans (congrArg some (by kernel_rfl))
  t0 := Tryd.underlying0
  a0 := Tryd.isAgg0
  z0 := Tryd.sizeOf0
  v0 := Tryd.zeroValue0
  t4 := Tryd.underlying4
  a4 := Tryd.isAgg4
  z4 := Tryd.sizeOf4
  v4 := Tryd.zeroValue4
  t5 := Tryd.underlying5
  a5 := Tryd.isAgg5
  z5 := Tryd.sizeOf5
  v5 := Tryd.zeroValue5
  t9 := Tryd.underlying9
  a9 := Tryd.isAgg9
  z9 := Tryd.sizeOf9
  v9 := Tryd.zeroValue9
  t20 := Tryd.underlying20
  a20 := Tryd.isAgg20
  z20 := Tryd.sizeOf20
  v20 := Tryd.zeroValue20
  t37 := Tryd.underlying33
  a37 := Tryd.isAgg33
  z37 := Tryd.sizeOf33
  v37 := Tryd.zeroValue33
  t70 := Tryd.underlying74
  a70 := Tryd.isAgg74
  z70 := Tryd.sizeOf74
  v70 := Tryd.zeroValue74
  t72 := Tryd.underlying76
  a72 := Tryd.isAgg76
  z72 := Tryd.sizeOf76
  v72 := Tryd.zeroValue76
  t75 := Tryd.underlying80
  a75 := Tryd.isAgg80
  z75 := Tryd.sizeOf80
  v75 := Tryd.zeroValue80
  t164 := Tryd.underlying102
  a164 := Tryd.isAgg102
  z164 := Tryd.sizeOf102
  v164 := Tryd.zeroValue102 }
theorem extra167 : Builder.Extra Tryd.prog ren167 := {
  sizeBuilder := by kernel_rfl
  liesBuilder := by kernel_rfl
  t5 := Tryd.underlying5
  a5 := Tryd.isAgg5
  z5 := Tryd.sizeOf5
  v5 := Tryd.zeroValue5
  infoByte := by kernel_rfl
  cellsByte := by kernel_rfl
  sizeByte := by kernel_rfl
  neB5 := by decide }
def ren169 : Go.Shelf.Ren := ⟨fun | 169 => 53 | n => n, fun | 0 => 0 | 3 => 3 | 9 => 9 | 37 => 33 | 70 => 74 | 72 => 76 | 127 => 93 | 5 => 5 | n => n, fun | n => n⟩
theorem lays169 : Go.Proofs.Lays.n169 Tryd.prog ren169 := {
  mixed := by kernel_rfl
  f169 := Tryd.func53.trans (congrArg some (by kernel_rfl))
  t0 := Tryd.underlying0
  a0 := Tryd.isAgg0
  z0 := Tryd.sizeOf0
  v0 := Tryd.zeroValue0
  t3 := Tryd.underlying3
  a3 := Tryd.isAgg3
  z3 := Tryd.sizeOf3
  v3 := Tryd.zeroValue3
  t9 := Tryd.underlying9
  a9 := Tryd.isAgg9
  z9 := Tryd.sizeOf9
  v9 := Tryd.zeroValue9
  t37 := Tryd.underlying33
  a37 := Tryd.isAgg33
  z37 := Tryd.sizeOf33
  v37 := Tryd.zeroValue33
  t70 := Tryd.underlying74
  a70 := Tryd.isAgg74
  z70 := Tryd.sizeOf74
  v70 := Tryd.zeroValue74
  t72 := Tryd.underlying76
  a72 := Tryd.isAgg76
  z72 := Tryd.sizeOf76
  v72 := Tryd.zeroValue76
  t127 := Tryd.underlying93
  a127 := Tryd.isAgg93
  z127 := Tryd.sizeOf93
  v127 := Tryd.zeroValue93 }
theorem extra169 : Builder.Extra Tryd.prog ren169 := {
  sizeBuilder := by kernel_rfl
  liesBuilder := by kernel_rfl
  t5 := Tryd.underlying5
  a5 := Tryd.isAgg5
  z5 := Tryd.sizeOf5
  v5 := Tryd.zeroValue5
  infoByte := by kernel_rfl
  cellsByte := by kernel_rfl
  sizeByte := by kernel_rfl
  neB5 := by decide }
theorem grow_fresh (B b n : Nat) (w : World) (hB : B ≤ b) (hbk : w.heap[b]? = some (.cells #[.pointer none, .slice none 0 0] 76 (0, 0))) (hBw : B ≤ w.heap.size) (hn : n ≤ 281474976710656) :
    Calls Tryd.prog 48 #[.pointer (some ⟨b, 0, none⟩), .int .i64 n] w fun e w' => e = .returned (.tuple #[]) ∧ (Lib.BuilderAt 76 5 B b (.pointer (some ⟨b, 0, none⟩)) [] w' ∧ Below B w w') := Any.Builder_Grow_fresh lays165 extra165 B b n w hB hbk hBw hn
theorem writeString (B b : Nat) (bs : List Value) (s : ByteArray) (w : World) (h : Lib.IsBuilder 76 5 B b bs w) (hlen : bs.length + s.size ≤ 140737488355328) (hBw : B ≤ w.heap.size) :
    Calls Tryd.prog 51 #[.pointer (some ⟨b, 0, none⟩), .string s] w fun e w' => e = .returned (.tuple #[.int .i64 s.size, .nilIface]) ∧ (Lib.BuilderAt 76 5 B b (.pointer (some ⟨b, 0, none⟩)) (bs ++ Lib.strCells s) w' ∧ Below B w w') := Any.Builder_WriteString lays166 extra166 B b bs s w h hlen hBw
theorem writeByte (B b : Nat) (bs : List Value) (c : Int) (w : World) (h : Lib.IsBuilder 76 5 B b bs w) (hlen : bs.length + 1 ≤ 140737488355328) (hBw : B ≤ w.heap.size) :
    Calls Tryd.prog 52 #[.pointer (some ⟨b, 0, none⟩), .int .u8 c] w fun e w' => e = .returned .nilIface ∧ (Lib.BuilderAt 76 5 B b (.pointer (some ⟨b, 0, none⟩)) (bs ++ [.int .u8 c]) w' ∧ Below B w w') := Any.Builder_WriteByte lays167 extra167 B b bs c w h hlen hBw
theorem builderString (B b : Nat) (l : List UInt8) (w : World) (h : Lib.IsBuilder 76 5 B b (Lib.byteCells l) w) (hBw : B ≤ w.heap.size) :
    Calls Tryd.prog 53 #[.pointer (some ⟨b, 0, none⟩)] w fun e w' => e = .returned (.string ⟨l.toArray⟩) ∧ Below B w w' := Any.Builder_String_any lays169 extra169 B b l w h hBw
end Go.Proofs.YtpbbpkflljcklaaDoor
/- A list of texts in memory. -/
namespace Go.Proofs.YtpbbpkflljcklaaDoor
open Go.RowKit

/-- the slice at ao lays the texts L -/
def Strs (ao : Option Addr) (L : List (List UInt8)) (w : World) : Prop :=
  L = [] ∨ ∃ b off, ao = some ⟨b, off, none⟩ ∧ b < w.heap.size ∧ ∀ i (h : i < L.length), w.cell? ⟨b, off + i, none⟩ = some (.string ⟨L[i].toArray⟩)
theorem Strs.below {ao : Option Addr} {L : List (List UInt8)} {w w' : World} {B : Nat} (h : Strs ao L w) (hB : w.heap.size ≤ B) (hb : Below B w w') : Strs ao L w' := by
  rcases h with h | ⟨b, off, h1, h2, h3⟩
  · exact .inl h
  · exact .inr ⟨b, off, h1, by have := hb.size; omega, fun i hi => (hb.cell (p := ⟨b, off + i, none⟩) (by show b < B; omega)).trans (h3 i hi)⟩
theorem Strs.cell {ao : Option Addr} {L : List (List UInt8)} {w : World} (h : Strs ao L w) (k : Nat) (hk : k < L.length) : ∃ b off, ao = some ⟨b, off, none⟩ ∧ w.cell? ⟨b, off + k, none⟩ = some (.string ⟨L[k].toArray⟩) := by
  rcases h with h | ⟨b, off, h1, h2, h3⟩
  · subst h; simp at hk
  · exact ⟨b, off, h1, h3 k hk⟩
end Go.Proofs.YtpbbpkflljcklaaDoor
/- A frame: its size, its parts, and the frame itself, as the words say, by the program. -/
namespace Go.Proofs.YtpbbpkflljcklaaDoor
open Go.RowKit

/-- a part behind its eight bytes of size -/
def partL (p : List UInt8) : List UInt8 := numL p.length ++ p
/-- the frame of a tag and some parts -/
def framed (tag : List UInt8) (ps : List (List UInt8)) : List UInt8 := UInt8.ofNat tag.length :: (tag ++ ps.flatMap partL)
theorem partL_length (p : List UInt8) : (partL p).length = 8 + p.length := by rw [partL, List.length_append, numL_length]
theorem framed_nil (tag : List UInt8) : framed tag [] = UInt8.ofNat tag.length :: tag := by simp [framed]
theorem framed_snoc (tag : List UInt8) (L : List (List UInt8)) (k : Nat) (h : k < L.length) : framed tag (L.take (k + 1)) = framed tag (L.take k) ++ partL L[k] := by
  rw [framed, framed, List.take_succ_eq_append_getElem h, List.flatMap_append]; simp
theorem framed_len (tag : List UInt8) (L : List (List UInt8)) (k : Nat) (h : k < L.length) : (framed tag (L.take (k + 1))).length = (framed tag (L.take k)).length + (8 + L[k].length) := by
  rw [framed_snoc tag L k h, List.length_append, partL_length]
theorem framed_mono (tag : List UInt8) (L : List (List UInt8)) : ∀ k, (framed tag (L.take k)).length ≤ (framed tag L).length := by
  intro k
  have e : L = L.take k ++ L.drop k := (List.take_append_drop k L).symm
  have h : framed tag L = framed tag (L.take k) ++ (L.drop k).flatMap partL := by
    rw [framed, framed]
    conv => lhs; rw [e, List.flatMap_append]
    simp
  rw [h, List.length_append]; omega
theorem framed_count (tag : List UInt8) (L : List (List UInt8)) : ∀ k, k ≤ L.length → 8 * k + tag.length + 1 ≤ (framed tag (L.take k)).length
  | 0, _ => by rw [List.take_zero, framed_nil]; simp
  | k + 1, h => by
    rw [framed_len tag L k (by omega)]
    have := framed_count tag L k (by omega)
    omega

theorem isBuilder_below {T e : TypeId} {B b : Nat} {bs : List Value} {w w' : World} (h : Lib.IsBuilder T e B b bs w) (hb : Below w.heap.size w w') : Lib.IsBuilder T e B b bs w' := by
  have key : ∀ p, Lib.BuilderAt T e B b p bs w → Lib.BuilderAt T e B b p bs w' := by
    rintro p ⟨h1, v, h2, ⟨h3, h4⟩, h5⟩
    refine ⟨h1, v, (hb.block b (Array.getElem?_eq_some_iff.1 h2).1).trans h2, ⟨h3, ?_⟩, h5⟩
    rcases h4 with h4 | ⟨g, cap, cur, e1, e2, e3, e4⟩
    · exact .inl h4
    · exact .inr ⟨g, cap, cur, e1, e2, (hb.block g (Array.getElem?_eq_some_iff.1 e3).1).trans e3, e4⟩
  exact h.elim (fun x => .inl (key _ x)) (fun x => .inr (key _ x))

set_option maxRecDepth 100000 in
set_option maxHeartbeats 1000000 in
theorem frameSize_any (tag : List UInt8) (ao : Option Addr) (cap : Nat) (L : List (List UInt8)) (w : World) (hs : Strs ao L w) (hlen : (framed tag L).length < 100000000000) :
    Calls Tryd.prog 49 #[.string ⟨tag.toArray⟩, .slice ao L.length cap] w fun e w' => e = .returned (.int .i64 ((framed tag L).length : Int)) ∧ w = w' := by
  have HS := Lib.hid hs
  clear hs
  have hc := framed_count tag L L.length (Nat.le_refl _)
  rw [List.take_length] at hc
  go_enter Tryd.func49, Tryd.ntmps49
  go_wp2
  go_loop [5, 7, 13] (fun v _ i => ∃ k m : Nat, k ≤ L.length ∧ i = .int .i64 (k : Int) ∧ v = .int .i64 (m : Int) ∧ Hid ((framed tag (L.take k)).length = m)) (fun _ _ i => L.length - (intOf i).toNat)
  case atStart => exact ⟨0, 1 + tag.length, by omega, rfl, by go_num, Lib.hid (by rw [List.take_zero, framed_nil]; simp; omega)⟩
  case round =>
    obtain ⟨k, m, hk, rfl, rfl, HM⟩ := hrel
    have hm1 := framed_mono tag L k
    rw [HM.out] at hm1
    by_cases hlt : k < L.length
    · obtain ⟨b, off, rfl, hcell⟩ := HS.out.cell k hlt
      have hm2 := framed_mono tag L (k + 1)
      rw [framed_len tag L k hlt, HM.out] at hm2
      have HM2 := Lib.hid (framed_len tag L k hlt)
      obtain ⟨X, hX⟩ : ∃ X, L[k] = X := ⟨_, rfl⟩
      rw [hX] at hcell hm2 HM2
      clear hX
      have k0 : (0 : Int) ≤ (k : Int) := by omega
      have k1 : (k : Int) < (L.length : Int) := by omega
      go_wp2
      go_round
      case rel => exact ⟨k + 1, m + (8 + X.length), by omega, by go_num, by go_num, Lib.hid (by rw [HM2.out, HM.out])⟩
      case measure => simp [intOf]; omega
    · have ek : k = L.length := by omega
      subst ek
      have HE := Lib.hid (show (framed tag L).length = m by rw [← HM.out, List.take_length])
      clear HM
      go_wp2
      go_ret
      exact ⟨by rw [HE.out]; rfl, rfl⟩

theorem bytes_snoc (l : List UInt8) (X : List UInt8) : Lib.byteCells l ++ Lib.strCells ⟨X.toArray⟩ = Lib.byteCells (l ++ X) := by rw [Lib.byteCells_append]; rfl

set_option maxRecDepth 100000 in
set_option maxHeartbeats 1000000 in
theorem lay_any (B b : Nat) (l X : List UInt8) (w : World) (h : Lib.IsBuilder 76 5 B b (Lib.byteCells l) w) (hB : B ≤ w.heap.size) (hlen : l.length + X.length < 200000000000) :
    Calls Tryd.prog 50 #[.string ⟨X.toArray⟩, .pointer (some ⟨b, 0, none⟩)] w fun e w' => e = .returned (.tuple #[]) ∧ Lib.IsBuilder 76 5 B b (Lib.byteCells (l ++ partL X)) w' ∧ Below B w w' := by
  have hl1 := Lib.byteCells_length l
  go_enter Tryd.func50, Tryd.ntmps50
  go_wp2_with fail
  refine (num_any X.length w).mono ?_
  rintro e w1 ⟨rfl, hB1⟩
  have h1 := isBuilder_below h hB1
  have hn8 : (numL X.length).length = 8 := numL_length _
  have hb1 : Below B w w1 := hB1.mono hB
  have s1 := hb1.size
  go_wp2_with fail
  refine (writeString B b _ ⟨(numL X.length).toArray⟩ w1 h1 (by show (Lib.byteCells l).length + (numL X.length).length ≤ _; omega) (by omega)).mono ?_
  rintro e w2 ⟨rfl, h2, hb2⟩
  rw [bytes_snoc] at h2
  have hl2 := Lib.byteCells_length (l ++ numL X.length)
  rw [List.length_append] at hl2
  have s2 := hb2.size
  go_wp2_with fail
  refine (writeString B b _ ⟨X.toArray⟩ w2 (.inr h2) (by show (Lib.byteCells (l ++ numL X.length)).length + X.length ≤ _; omega) (by omega)).mono ?_
  rintro e w3 ⟨rfl, h3, hb3⟩
  rw [bytes_snoc, List.append_assoc] at h3
  go_wp2
  refine bodyPost_end (results_none rfl _ _ _) rfl ?_
  exact ⟨rfl, .inr h3, (hb1.trans hb2).trans hb3⟩

set_option maxRecDepth 100000 in
set_option maxHeartbeats 1000000 in
theorem frame_any (tag : List UInt8) (ao : Option Addr) (cap : Nat) (L : List (List UInt8)) (w : World) (hs : Strs ao L w) (h1 : 1 ≤ tag.length) (h16 : tag.length ≤ 16) (hlen : (framed tag L).length < 100000000000) :
    Calls Tryd.prog 38 #[.string ⟨tag.toArray⟩, .slice ao L.length cap] w fun e w' => e = .returned (.string ⟨(framed tag L).toArray⟩) ∧ Below w.heap.size w w' := by
  have hc := framed_count tag L L.length (Nat.le_refl _)
  rw [List.take_length] at hc
  have HS := Lib.hid hs
  clear hs
  go_enter Tryd.func38, Tryd.ntmps38
  go_wp2_with fail
  obtain ⟨w0, hw0⟩ : ∃ w0, w.alloc (.cells #[.pointer none, .slice none 0 0] 76) = w0 := ⟨_, rfl⟩
  have hrow0 : w0.heap[w.heap.size]? = some (.cells #[.pointer none, .slice none 0 0] 76 (0, 0)) := by rw [← hw0]; exact heap_alloc_new w _
  have hb0 : Below w.heap.size w w0 := by rw [← hw0]; exact (Below.refl _ _).alloc (Nat.le_refl _) _
  rw [hw0]
  clear hw0
  have z0 := hb0.size
  refine (frameSize_any tag ao cap L w0 (HS.out.below (Nat.le_refl _) hb0) hlen).mono ?_
  rintro e wx ⟨rfl, rfl⟩
  go_wp2_with fail
  refine (grow_fresh w.heap.size w.heap.size (framed tag L).length w0 (Nat.le_refl _) hrow0 z0 (by omega)).mono ?_
  rintro e w1 ⟨rfl, hI1, hb1⟩
  clear hrow0
  have z1 := hb1.size
  go_wp2_with fail
  refine (writeByte w.heap.size w.heap.size [] (tag.length : Int) w1 (.inr hI1) (by simp) (by omega)).mono ?_
  rintro e w2 ⟨rfl, hI2, hb2⟩
  have e2 : ([] : List Value) ++ [.int .u8 (tag.length : Int)] = Lib.byteCells [UInt8.ofNat tag.length] := by
    have : (tag.length : Int) = ((UInt8.ofNat tag.length).toNat : Int) := by rw [UInt8.toNat_ofNat']; omega
    rw [this]; rfl
  rw [e2] at hI2
  clear e2
  have z2 := hb2.size
  go_wp2_with fail
  refine (writeString w.heap.size w.heap.size (Lib.byteCells [UInt8.ofNat tag.length]) ⟨tag.toArray⟩ w2 (.inr hI2) (by show 1 + tag.length ≤ _; omega) (by omega)).mono ?_
  rintro e w3 ⟨rfl, hI3, hb3⟩
  rw [bytes_snoc, List.singleton_append, ← framed_nil] at hI3
  have hb03 : Below w.heap.size w w3 := ((hb0.trans hb1).trans hb2).trans hb3
  clear hI1 hI2 hb0 hb1 hb2 hb3 z0 z1 z2
  go_wp2
  go_loopw [8, 30] (fun _ i wr => ∃ k : Nat, ∃ T : List UInt8, k ≤ L.length ∧ i = .int .i64 (k : Int) ∧ Hid (T = framed tag (L.take k)) ∧ Lib.IsBuilder 76 5 w.heap.size w.heap.size (Lib.byteCells T) wr ∧ Below w.heap.size w wr)
    (fun _ i _ => L.length - (intOf i).toNat)
  case atStart => exact ⟨0, _, by omega, rfl, Lib.hid (by rw [List.take_zero]), .inr hI3, hb03⟩
  case round =>
    clear hI3 hb03
    obtain ⟨k, T, hk, rfl, HT, hI, hb⟩ := hrel
    have hm1 := framed_mono tag L k
    rw [← HT.out] at hm1
    have z := hb.size
    by_cases hlt : k < L.length
    · obtain ⟨b, off, rfl, hcell⟩ := (HS.out.below (Nat.le_refl _) hb).cell k hlt
      have hm2 := framed_mono tag L (k + 1)
      rw [framed_len tag L k hlt, ← HT.out] at hm2
      have HT2 := Lib.hid (framed_snoc tag L k hlt)
      obtain ⟨X, hX⟩ : ∃ X, L[k] = X := ⟨_, rfl⟩
      rw [hX] at hcell hm2 HT2
      clear hX
      have k0 : (0 : Int) ≤ (k : Int) := by omega
      have k1 : (k : Int) < (L.length : Int) := by omega
      go_wp2_with fail
      refine (lay_any w.heap.size w.heap.size T X wr hI z (by omega)).mono ?_
      rintro e w4 ⟨rfl, hI4, hb4⟩
      go_wp2
      go_roundw
      case rel => exact ⟨k + 1, T ++ partL X, by omega, by go_num, Lib.hid (by rw [HT2.out, HT.out]), hI4, hb.trans hb4⟩
      case measure => simp [intOf]; omega
    · have ek : k = L.length := by omega
      subst ek
      have HE := Lib.hid (show T = framed tag L by rw [HT.out, List.take_length])
      clear HT
      go_wp2_with fail
      refine (builderString w.heap.size w.heap.size T wr hI z).mono ?_
      rintro e w4 ⟨rfl, hb4⟩
      go_wp2
      go_ret
      exact ⟨by rw [HE.out]; rfl, hb.trans hb4⟩
end Go.Proofs.YtpbbpkflljcklaaDoor
