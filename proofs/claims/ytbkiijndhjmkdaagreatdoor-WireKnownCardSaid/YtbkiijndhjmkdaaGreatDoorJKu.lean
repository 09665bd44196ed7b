/- The law's WireKnown: its examples, by the kernel. -/
import Derived.Test.YtbkiijndhjmkdaaGreatDoorJ34
import Derived.Test.YtbkiijndhjmkdaaGreatDoorJ28
namespace Go.Proofs.YtbkiijndhjmkdaaGreatDoor
open Go.RowKit

def kA : (List UInt8) := List.replicate 32 97
def kB : (List UInt8) := List.replicate 32 98
def kC : (List UInt8) := List.replicate 32 99
def kDA : (List UInt8) := [196, 32] ++ kA
def kDB : (List UInt8) := [196, 32] ++ kB
def kDC : (List UInt8) := [196, 32] ++ kC
def kS1 : (List UInt8) := [161, 103, 131, 161, 105, 7, 161, 112, 146] ++ kDB
def kS2 : (List UInt8) := kS1 ++ kDC
def kS3 : (List UInt8) := kS2 ++ [161, 118, 145]
def kSG : (List UInt8) := kS3 ++ kDA
def kP1 : (List UInt8) := [130, 161, 114] ++ kDA
def kPT : (List UInt8) := kP1 ++ [161, 119, 5]
def kW1 : (List UInt8) := [134, 161, 80, 145] ++ kDB
def kW2 : (List UInt8) := kW1 ++ [161, 83, 145]
def kW3 : (List UInt8) := kW2 ++ kDA
def kW4 : (List UInt8) := kW3 ++ [161, 99]
def kW5 : (List UInt8) := kW4 ++ kDC
def kW6 : (List UInt8) := kW5 ++ [161, 112, 146, 0, 1, 161, 114, 146, 129, 161, 113]
def kW7 : (List UInt8) := kW6 ++ kPT
def kW8 : (List UInt8) := kW7 ++ [131, 161, 112, 1, 161, 113]
def kW9 : (List UInt8) := kW8 ++ kPT
def kWN : (List UInt8) := kW9 ++ [161, 115, 129, 161, 108, 5, 161, 119, 6]
def kX1 : (List UInt8) := [131] ++ kSG
def kX2 : (List UInt8) := kX1 ++ [161, 108, 1, 161, 115, 1]
def kM1 : (List UInt8) := [134, 161, 102, 1, 161, 104] ++ kDA
def kM2 : (List UInt8) := kM1 ++ [161, 108, 2, 161, 110, 3, 161, 118]
def kM3 : (List UInt8) := kM2 ++ kDB
def kM4 : (List UInt8) := kM3 ++ [161, 119, 4]
def kH1 : (List UInt8) := [132, 161, 112] ++ kDA
def kH2 : (List UInt8) := kH1 ++ [161, 114, 9, 161, 115]
def kH3 : (List UInt8) := kH2 ++ kDC
def kH4 : (List UInt8) := kH3 ++ [161, 116]
def kH5 : (List UInt8) := kH4 ++ kDB
theorem rc_DA (w : World) : (Op.stringOp .add ⟨([196, 32] : (List UInt8)).toArray⟩ ⟨(kA : (List UInt8)).toArray⟩).run Tryz.prog w = .ok (.string ⟨kDA.toArray⟩) w := run_cat [196, 32] kA (by decide +kernel) w
theorem rc_DB (w : World) : (Op.stringOp .add ⟨([196, 32] : (List UInt8)).toArray⟩ ⟨(kB : (List UInt8)).toArray⟩).run Tryz.prog w = .ok (.string ⟨kDB.toArray⟩) w := run_cat [196, 32] kB (by decide +kernel) w
theorem rc_DC (w : World) : (Op.stringOp .add ⟨([196, 32] : (List UInt8)).toArray⟩ ⟨(kC : (List UInt8)).toArray⟩).run Tryz.prog w = .ok (.string ⟨kDC.toArray⟩) w := run_cat [196, 32] kC (by decide +kernel) w
theorem rc_S1 (w : World) : (Op.stringOp .add ⟨([161, 103, 131, 161, 105, 7, 161, 112, 146] : (List UInt8)).toArray⟩ ⟨(kDB : (List UInt8)).toArray⟩).run Tryz.prog w = .ok (.string ⟨kS1.toArray⟩) w := run_cat [161, 103, 131, 161, 105, 7, 161, 112, 146] kDB (by decide +kernel) w
theorem rc_S2 (w : World) : (Op.stringOp .add ⟨(kS1 : (List UInt8)).toArray⟩ ⟨(kDC : (List UInt8)).toArray⟩).run Tryz.prog w = .ok (.string ⟨kS2.toArray⟩) w := run_cat kS1 kDC (by decide +kernel) w
theorem rc_S3 (w : World) : (Op.stringOp .add ⟨(kS2 : (List UInt8)).toArray⟩ ⟨([161, 118, 145] : (List UInt8)).toArray⟩).run Tryz.prog w = .ok (.string ⟨kS3.toArray⟩) w := run_cat kS2 [161, 118, 145] (by decide +kernel) w
theorem rc_SG (w : World) : (Op.stringOp .add ⟨(kS3 : (List UInt8)).toArray⟩ ⟨(kDA : (List UInt8)).toArray⟩).run Tryz.prog w = .ok (.string ⟨kSG.toArray⟩) w := run_cat kS3 kDA (by decide +kernel) w
theorem rc_P1 (w : World) : (Op.stringOp .add ⟨([130, 161, 114] : (List UInt8)).toArray⟩ ⟨(kDA : (List UInt8)).toArray⟩).run Tryz.prog w = .ok (.string ⟨kP1.toArray⟩) w := run_cat [130, 161, 114] kDA (by decide +kernel) w
theorem rc_PT (w : World) : (Op.stringOp .add ⟨(kP1 : (List UInt8)).toArray⟩ ⟨([161, 119, 5] : (List UInt8)).toArray⟩).run Tryz.prog w = .ok (.string ⟨kPT.toArray⟩) w := run_cat kP1 [161, 119, 5] (by decide +kernel) w
theorem rc_W1 (w : World) : (Op.stringOp .add ⟨([134, 161, 80, 145] : (List UInt8)).toArray⟩ ⟨(kDB : (List UInt8)).toArray⟩).run Tryz.prog w = .ok (.string ⟨kW1.toArray⟩) w := run_cat [134, 161, 80, 145] kDB (by decide +kernel) w
theorem rc_W2 (w : World) : (Op.stringOp .add ⟨(kW1 : (List UInt8)).toArray⟩ ⟨([161, 83, 145] : (List UInt8)).toArray⟩).run Tryz.prog w = .ok (.string ⟨kW2.toArray⟩) w := run_cat kW1 [161, 83, 145] (by decide +kernel) w
theorem rc_W3 (w : World) : (Op.stringOp .add ⟨(kW2 : (List UInt8)).toArray⟩ ⟨(kDA : (List UInt8)).toArray⟩).run Tryz.prog w = .ok (.string ⟨kW3.toArray⟩) w := run_cat kW2 kDA (by decide +kernel) w
theorem rc_W4 (w : World) : (Op.stringOp .add ⟨(kW3 : (List UInt8)).toArray⟩ ⟨([161, 99] : (List UInt8)).toArray⟩).run Tryz.prog w = .ok (.string ⟨kW4.toArray⟩) w := run_cat kW3 [161, 99] (by decide +kernel) w
theorem rc_W5 (w : World) : (Op.stringOp .add ⟨(kW4 : (List UInt8)).toArray⟩ ⟨(kDC : (List UInt8)).toArray⟩).run Tryz.prog w = .ok (.string ⟨kW5.toArray⟩) w := run_cat kW4 kDC (by decide +kernel) w
theorem rc_W6 (w : World) : (Op.stringOp .add ⟨(kW5 : (List UInt8)).toArray⟩ ⟨([161, 112, 146, 0, 1, 161, 114, 146, 129, 161, 113] : (List UInt8)).toArray⟩).run Tryz.prog w = .ok (.string ⟨kW6.toArray⟩) w := run_cat kW5 [161, 112, 146, 0, 1, 161, 114, 146, 129, 161, 113] (by decide +kernel) w
theorem rc_W7 (w : World) : (Op.stringOp .add ⟨(kW6 : (List UInt8)).toArray⟩ ⟨(kPT : (List UInt8)).toArray⟩).run Tryz.prog w = .ok (.string ⟨kW7.toArray⟩) w := run_cat kW6 kPT (by decide +kernel) w
theorem rc_W8 (w : World) : (Op.stringOp .add ⟨(kW7 : (List UInt8)).toArray⟩ ⟨([131, 161, 112, 1, 161, 113] : (List UInt8)).toArray⟩).run Tryz.prog w = .ok (.string ⟨kW8.toArray⟩) w := run_cat kW7 [131, 161, 112, 1, 161, 113] (by decide +kernel) w
theorem rc_W9 (w : World) : (Op.stringOp .add ⟨(kW8 : (List UInt8)).toArray⟩ ⟨(kPT : (List UInt8)).toArray⟩).run Tryz.prog w = .ok (.string ⟨kW9.toArray⟩) w := run_cat kW8 kPT (by decide +kernel) w
theorem rc_WN (w : World) : (Op.stringOp .add ⟨(kW9 : (List UInt8)).toArray⟩ ⟨([161, 115, 129, 161, 108, 5, 161, 119, 6] : (List UInt8)).toArray⟩).run Tryz.prog w = .ok (.string ⟨kWN.toArray⟩) w := run_cat kW9 [161, 115, 129, 161, 108, 5, 161, 119, 6] (by decide +kernel) w
theorem rc_X1 (w : World) : (Op.stringOp .add ⟨([131] : (List UInt8)).toArray⟩ ⟨(kSG : (List UInt8)).toArray⟩).run Tryz.prog w = .ok (.string ⟨kX1.toArray⟩) w := run_cat [131] kSG (by decide +kernel) w
theorem rc_X2 (w : World) : (Op.stringOp .add ⟨(kX1 : (List UInt8)).toArray⟩ ⟨([161, 108, 1, 161, 115, 1] : (List UInt8)).toArray⟩).run Tryz.prog w = .ok (.string ⟨kX2.toArray⟩) w := run_cat kX1 [161, 108, 1, 161, 115, 1] (by decide +kernel) w
theorem rc_M1 (w : World) : (Op.stringOp .add ⟨([134, 161, 102, 1, 161, 104] : (List UInt8)).toArray⟩ ⟨(kDA : (List UInt8)).toArray⟩).run Tryz.prog w = .ok (.string ⟨kM1.toArray⟩) w := run_cat [134, 161, 102, 1, 161, 104] kDA (by decide +kernel) w
theorem rc_M2 (w : World) : (Op.stringOp .add ⟨(kM1 : (List UInt8)).toArray⟩ ⟨([161, 108, 2, 161, 110, 3, 161, 118] : (List UInt8)).toArray⟩).run Tryz.prog w = .ok (.string ⟨kM2.toArray⟩) w := run_cat kM1 [161, 108, 2, 161, 110, 3, 161, 118] (by decide +kernel) w
theorem rc_M3 (w : World) : (Op.stringOp .add ⟨(kM2 : (List UInt8)).toArray⟩ ⟨(kDB : (List UInt8)).toArray⟩).run Tryz.prog w = .ok (.string ⟨kM3.toArray⟩) w := run_cat kM2 kDB (by decide +kernel) w
theorem rc_M4 (w : World) : (Op.stringOp .add ⟨(kM3 : (List UInt8)).toArray⟩ ⟨([161, 119, 4] : (List UInt8)).toArray⟩).run Tryz.prog w = .ok (.string ⟨kM4.toArray⟩) w := run_cat kM3 [161, 119, 4] (by decide +kernel) w
theorem rc_H1 (w : World) : (Op.stringOp .add ⟨([132, 161, 112] : (List UInt8)).toArray⟩ ⟨(kDA : (List UInt8)).toArray⟩).run Tryz.prog w = .ok (.string ⟨kH1.toArray⟩) w := run_cat [132, 161, 112] kDA (by decide +kernel) w
theorem rc_H2 (w : World) : (Op.stringOp .add ⟨(kH1 : (List UInt8)).toArray⟩ ⟨([161, 114, 9, 161, 115] : (List UInt8)).toArray⟩).run Tryz.prog w = .ok (.string ⟨kH2.toArray⟩) w := run_cat kH1 [161, 114, 9, 161, 115] (by decide +kernel) w
theorem rc_H3 (w : World) : (Op.stringOp .add ⟨(kH2 : (List UInt8)).toArray⟩ ⟨(kDC : (List UInt8)).toArray⟩).run Tryz.prog w = .ok (.string ⟨kH3.toArray⟩) w := run_cat kH2 kDC (by decide +kernel) w
theorem rc_H4 (w : World) : (Op.stringOp .add ⟨(kH3 : (List UInt8)).toArray⟩ ⟨([161, 116] : (List UInt8)).toArray⟩).run Tryz.prog w = .ok (.string ⟨kH4.toArray⟩) w := run_cat kH3 [161, 116] (by decide +kernel) w
theorem rc_H5 (w : World) : (Op.stringOp .add ⟨(kH4 : (List UInt8)).toArray⟩ ⟨(kDB : (List UInt8)).toArray⟩).run Tryz.prog w = .ok (.string ⟨kH5.toArray⟩) w := run_cat kH4 kDB (by decide +kernel) w
def kS1s : SlotR := ⟨1, true, ⟨7, [kA], [kB, kC]⟩⟩
def kMs : MsgR := ⟨kA, kB, 3, 4, 1, 2⟩
def kHs : HdrR := ⟨9, kA, kB, kC⟩
def kR0 : RevR := ⟨0, zSlot, ⟨kA, 5, 0, 0, 0⟩⟩
def kR1 : RevR := ⟨1, ⟨5, false, ⟨0, [], []⟩⟩, ⟨kA, 5, 0, 0, 0⟩⟩
def kZr : RevR := ⟨0, zSlot, ⟨[], 0, 0, 0, 0⟩⟩
theorem ek_x : laySlotP kS1s = (kX2, 0) := by kernel_rfl
theorem ek_m : layMsgP kMs = (kM4, 0) := by kernel_rfl
theorem ek_h : layHdrP kHs = (kH5, 0) := by kernel_rfl
theorem ek_k : layCertP ⟨kC, 6, [kR0, kR1], [0, 1], [kA], [kB]⟩ = (kWN, 0) := by kernel_rfl
theorem ek_n : laySlotP ⟨0, false, ⟨0, List.replicate 68 kA, []⟩⟩ = ([], 2) := by kernel_rfl
theorem ek_o : laySlotP ⟨0, false, ⟨0, [], List.replicate 17 kA⟩⟩ = ([], 2) := by kernel_rfl
theorem ek_p : (laySlotP ⟨0, false, ⟨0, List.replicate 67 kA, List.replicate 16 kA⟩⟩).2 = 0 := by kernel_rfl
theorem ek_q : laySlotP ⟨0, false, ⟨0, [[120]], []⟩⟩ = ([], 2) := by kernel_rfl
theorem ek_r : layCertP ⟨kA, 0, [], List.replicate 641 0, [], []⟩ = ([], 2) := by kernel_rfl
theorem ek_s : (layCertP ⟨kA, 0, [], List.replicate 640 0, [], []⟩).2 = 0 := by kernel_rfl
theorem ek_t : layCertP ⟨kA, 0, [kZr], [], [], []⟩ = ([], 2) := by kernel_rfl
theorem ek_u : layHdrP ⟨0, kA, kB, []⟩ = ([], 2) := by kernel_rfl
theorem ek_f0 : wholeG slotC.get [129, 161, 120, 1] = .error (5, 0) := by kernel_rfl
theorem ek_f1 : wholeG slotC.get [130, 161, 108, 5, 161, 108, 5] = .error (5, 0) := by kernel_rfl
theorem ek_f2 : wholeG slotC.get [129, 161, 103, 128] = .error (5, 0) := by kernel_rfl
theorem ek_f3 : wholeG slotC.get [129, 161, 103, 129, 161, 112, 144] = .error (5, 0) := by kernel_rfl
theorem ek_f4 : wholeG slotC.get [129, 161, 103, 129, 161, 112, 145, 196, 1, 120] = .error (5, 0) := by kernel_rfl
theorem ek_f5 : wholeG slotC.get [129, 160, 1] = .error (5, 0) := by kernel_rfl
theorem ek_f6 : wholeG slotC.get [129, 162, 108, 108, 1] = .error (5, 0) := by kernel_rfl
theorem ek_long : wholeG slotC.get [129, 161, 103, 129, 161, 112, 220, 0, 17] = .error (3, 0) := by kernel_rfl
theorem ek_short : wholeG slotC.get [129, 161, 103, 129, 161, 112, 145, 196, 32] = .error (4, 7) := by kernel_rfl
theorem ek_other : wholeG slotC.get [129, 161, 108, 161, 120] = .error (5, 3) := by kernel_rfl
theorem ek_huge : wholeG certC.get [129, 161, 80, 220, 255, 255] = .error (3, 3) := by kernel_rfl
theorem k_strs {w : World} {b : Nat} {L : List (List UInt8)} {t : TypeId} (h : w.heap[b]? = some (.cells (L.map fun s => Value.string ⟨s.toArray⟩).toArray t (0, 0))) : Strs (some ⟨b, 0, none⟩) L w :=
  .inr ⟨b, 0, rfl, lit_lt h, fun i hi => by
    rw [Nat.zero_add]
    refine (lit_cell h i).trans ?_
    rw [List.getElem?_toArray, List.getElem?_map, List.getElem?_eq_getElem hi]; rfl⟩
theorem k_nums {w : World} {b : Nat} {L : List Nat} {t : TypeId} (h : w.heap[b]? = some (.cells (L.map fun n : Nat => Value.int .u64 (n : Int)).toArray t (0, 0))) : Nums (some ⟨b, 0, none⟩) L w :=
  .inr ⟨b, 0, rfl, lit_lt h, fun i hi => by
    rw [Nat.zero_add]
    refine (lit_cell h i).trans ?_
    rw [List.getElem?_toArray, List.getElem?_map, List.getElem?_eq_getElem hi]; rfl⟩
theorem k_revs2 {w : World} {b : Nat} {x y : RevE} {t : TypeId} (h : w.heap[b]? = some (.cells (revQ x ++ revQ y).toArray t (0, 0))) : Revs (some ⟨b, 0, none⟩) [x, y] w :=
  .inr ⟨b, 0, rfl, lit_lt h, fun i z hz j hj => by
    rw [Nat.zero_add]
    refine (lit_cell h (i * 11 + j)).trans ?_
    rw [List.getElem?_toArray]
    have hx : (revQ x).length = 11 := rfl
    match i, hz with
    | 0, hz => obtain rfl : x = z := by simpa using hz
               rw [List.getElem?_append_left (by omega)]; congr 1; omega
    | 1, hz => obtain rfl : y = z := by simpa using hz
               rw [List.getElem?_append_right (by omega)]; congr 1; omega
    | k + 2, hz => simp at hz⟩
theorem k_revs1 {w : World} {b : Nat} {x : RevE} {t : TypeId} (h : w.heap[b]? = some (.cells (revQ x).toArray t (0, 0))) : Revs (some ⟨b, 0, none⟩) [x] w :=
  .inr ⟨b, 0, rfl, lit_lt h, fun i z hz j hj => by
    rw [Nat.zero_add]
    refine (lit_cell h (i * 11 + j)).trans ?_
    rw [List.getElem?_toArray]
    match i, hz with
    | 0, hz => obtain rfl : x = z := by simpa using hz
               congr 1; omega
    | k + 1, hz => simp at hz⟩
theorem k_info : (Tryz.prog.info? 22).map (fun i => (i.zero, i.size, i.bytes)) = some (some (.int .u64 0), 1, 8) := by kernel_rfl
theorem k_made (n : Nat) : madeCells (Value.int .u64 0).cells n = ((List.replicate n (0 : Nat)).map fun n : Nat => Value.int .u64 (n : Int)).toArray := by
  apply Array.ext
  · simp [madeCells]
  · intro i h1 h2
    simp [madeCells, Value.cells, Nat.mod_one]
theorem k_make (n : Nat) (hn : n ≤ 100000) (w : World) : (Instr.makeSlice 58 (.int .i64 (n : Int)) (.int .i64 (n : Int))).run Tryz.prog w = .ok (.slice (some ⟨w.heap.size, 0, none⟩) n n) (w.alloc (.cells ((List.replicate n (0 : Nat)).map fun n : Nat => Value.int .u64 (n : Int)).toArray 22)) := by
  obtain ⟨i0, hi, hz0, hz1, hz2⟩ := info_parts k_info
  have h := run_make (P := Tryz.prog) w 58 22 i0 (.int .u64 0) Tryz.underlying58 hi hz0 .i64 .i64 (n : Int) (n : Int) (by omega) (by omega) (by rw [hz2]; omega) (by omega)
  rw [h, hz1, Int.toNat_natCast, Nat.mul_one, k_made]
/-- what a refusal answers -/
theorem kslot_err {S : (List UInt8)} {c b : Nat} (h : wholeG slotC.get S = .error (c, b)) (w : World) (hG : GlobW w) (hS : S.length ≤ 1000000) (hgl : 4 ≤ w.heap.size) :
    Calls Tryz.prog 21 #[.string ⟨S.toArray⟩] w fun e w' => (∃ v, e = .returned (.tuple #[.agg #[.int .u64 0, .bool false, .int .u64 0, .slice none 0 0, .slice none 0 0], v]) ∧ ErrV w.heap.size c b v w') ∧ Below w.heap.size w w' := by
  refine (wreadSlot_any S w hG hS hgl).mono fun e w' hA => ?_
  rw [AnsSlot, h] at hA
  exact hA.2
theorem kcert_err {S : (List UInt8)} {c b : Nat} (h : wholeG certC.get S = .error (c, b)) (w : World) (hG : GlobW w) (hS : S.length ≤ 1000000) (hgl : 4 ≤ w.heap.size) :
    Calls Tryz.prog 27 #[.string ⟨S.toArray⟩] w fun e w' => (∃ v, e = .returned (.tuple #[.agg #[.string ⟨#[]⟩, .int .u64 0, .slice none 0 0, .slice none 0 0, .slice none 0 0, .slice none 0 0], v]) ∧ ErrV w.heap.size c b v w') ∧ Below w.heap.size w w' := by
  refine (wreadCert_any S w hG hS hgl).mono fun e w' hA => ?_
  rw [AnsCert, h] at hA
  exact hA.2
theorem k_three (w : World) (a b c : Obj) : ((((w.alloc a).alloc b).alloc c).heap[w.heap.size]? = some a) ∧ ((((w.alloc a).alloc b).alloc c).heap[w.heap.size + 1]? = some b) ∧ ((((w.alloc a).alloc b).alloc c).heap[w.heap.size + 1 + 1]? = some c) ∧ Below w.heap.size w (((w.alloc a).alloc b).alloc c) := by
  have z1 : (w.alloc a).heap.size = w.heap.size + 1 := by simp
  have z2 : ((w.alloc a).alloc b).heap.size = w.heap.size + 1 + 1 := by simp
  refine ⟨lit_old _ (lit_old _ (heap_alloc_new w a)), lit_old _ ?_, ?_, ((by0 w a).alloc (by omega) _).alloc (by omega) _⟩
  · rw [← z1]; exact heap_alloc_new _ _
  · rw [← z2]; exact heap_alloc_new _ _
theorem k_slot (w4 : World) (N M : Nat) (hG : GlobW w4) (hA : w4.heap[N]? = some (.cells #[.string ⟨kA.toArray⟩] 9 (0, 0))) (hB : w4.heap[M]? = some (.cells #[.string ⟨kB.toArray⟩, .string ⟨kC.toArray⟩] 9 (0, 0))) :
    Calls Tryz.prog 19 #[.agg #[.int .u64 1, .bool true, .int .u64 7, .slice (some ⟨N, 0, none⟩) 1 1, .slice (some ⟨M, 0, none⟩) 2 2]] w4 fun e w' => e = .returned (.tuple #[.string ⟨kX2.toArray⟩, .int .i64 0]) ∧ Below w4.heap.size w4 w' := by
  have k := wslot_any ⟨kS1s, some ⟨N, 0, none⟩, 1, some ⟨M, 0, none⟩, 2⟩ w4 hG ⟨of_decide_eq_true rfl, ⟨of_decide_eq_true rfl, of_decide_eq_true rfl, of_decide_eq_true rfl⟩⟩ ⟨k_strs (L := [kA]) hA, k_strs (L := [kB, kC]) hB⟩
  have e : laySlotP (SlotE.r ⟨kS1s, some ⟨N, 0, none⟩, 1, some ⟨M, 0, none⟩, 2⟩) = (kX2, 0) := ek_x
  rw [e] at k
  exact k
theorem k_msg (w : World) (hG : GlobW w) : Calls Tryz.prog 30 #[.agg #[.string ⟨kA.toArray⟩, .string ⟨kB.toArray⟩, .int .u64 3, .int .u64 4, .int .u64 1, .int .u64 2]] w fun e w' => e = .returned (.tuple #[.string ⟨kM4.toArray⟩, .int .i64 0]) ∧ Below w.heap.size w w' := by
  have k := wmsg_any kMs w hG ⟨of_decide_eq_true rfl, of_decide_eq_true rfl, of_decide_eq_true rfl, of_decide_eq_true rfl⟩
  rw [ek_m] at k
  exact k
theorem k_hdr (w : World) (hG : GlobW w) : Calls Tryz.prog 32 #[.agg #[.int .u64 9, .string ⟨kA.toArray⟩, .string ⟨kB.toArray⟩, .string ⟨kC.toArray⟩]] w fun e w' => e = .returned (.tuple #[.string ⟨kH5.toArray⟩, .int .i64 0]) ∧ Below w.heap.size w w' := by
  have k := whdr_any kHs w hG (of_decide_eq_true rfl)
  rw [ek_h] at k
  exact k
theorem k_hdr0 (w : World) (hG : GlobW w) : Calls Tryz.prog 32 #[.agg #[.int .u64 0, .string ⟨kA.toArray⟩, .string ⟨kB.toArray⟩, .string ⟨#[]⟩]] w fun e w' => e = .returned (.tuple #[.string ⟨#[]⟩, .int .i64 2]) ∧ Below w.heap.size w w' := by
  have k := whdr_any ⟨0, kA, kB, []⟩ w hG (of_decide_eq_true rfl)
  rw [ek_u] at k
  exact k
def kE0 : RevE := ⟨kR0, none, 0, none, 0⟩
def kE1 : RevE := ⟨kR1, none, 0, none, 0⟩
def kEz : RevE := ⟨kZr, none, 0, none, 0⟩
theorem k_cert (w : World) (hG : GlobW w) :
    Calls Tryz.prog 25 #[.agg #[.string ⟨kC.toArray⟩, .int .u64 6, .slice (some ⟨w.heap.size + 1 + 1 + 1, 0, none⟩) 2 2, .slice (some ⟨w.heap.size, 0, none⟩) 2 2, .slice (some ⟨w.heap.size + 1, 0, none⟩) 1 1, .slice (some ⟨w.heap.size + 1 + 1, 0, none⟩) 1 1]]
      ((((w.alloc (.cells #[.int .u64 0, .int .u64 1] 22)).alloc (.cells #[.string ⟨kA.toArray⟩] 9)).alloc (.cells #[.string ⟨kB.toArray⟩] 9)).alloc (.cells #[.int .u64 0, .int .u64 0, .bool false, .int .u64 0, .slice none 0 0, .slice none 0 0, .string ⟨kA.toArray⟩, .int .u64 5, .int .u64 0, .int .u64 0, .int .u64 0, .int .u64 1, .int .u64 5, .bool false, .int .u64 0, .slice none 0 0, .slice none 0 0, .string ⟨kA.toArray⟩, .int .u64 5, .int .u64 0, .int .u64 0, .int .u64 0] 93))
      fun e w' => e = .returned (.tuple #[.string ⟨kWN.toArray⟩, .int .i64 0]) ∧ Below w.heap.size w w' := by
  have h1 := heap_alloc_new w (.cells #[.int .u64 0, .int .u64 1] 22)
  have b1 := by0 w (.cells #[.int .u64 0, .int .u64 1] 22)
  have z1 : (w.alloc (.cells #[.int .u64 0, .int .u64 1] 22)).heap.size = w.heap.size + 1 := by simp
  generalize w.alloc (.cells #[.int .u64 0, .int .u64 1] 22) = w1 at *
  have h2 := heap_alloc_new w1 (.cells #[.string ⟨kA.toArray⟩] 9)
  have h1 := lit_old (.cells #[.string ⟨kA.toArray⟩] 9) h1
  have b2 := b1.alloc (by omega) (.cells #[.string ⟨kA.toArray⟩] 9)
  have z2 : (w1.alloc (.cells #[.string ⟨kA.toArray⟩] 9)).heap.size = w.heap.size + 1 + 1 := by simp [z1]
  generalize w1.alloc (.cells #[.string ⟨kA.toArray⟩] 9) = w2 at *
  have h3 := heap_alloc_new w2 (.cells #[.string ⟨kB.toArray⟩] 9)
  have h1 := lit_old (.cells #[.string ⟨kB.toArray⟩] 9) h1
  have h2 := lit_old (.cells #[.string ⟨kB.toArray⟩] 9) h2
  have b3 := b2.alloc (by omega) (.cells #[.string ⟨kB.toArray⟩] 9)
  have z3 : (w2.alloc (.cells #[.string ⟨kB.toArray⟩] 9)).heap.size = w.heap.size + 1 + 1 + 1 := by simp [z2]
  generalize w2.alloc (.cells #[.string ⟨kB.toArray⟩] 9) = w3 at *
  rw [z1] at h2
  rw [z2] at h3
  have h4 := heap_alloc_new w3 (.cells (revQ kE0 ++ revQ kE1).toArray 93)
  have h1 := lit_old (.cells (revQ kE0 ++ revQ kE1).toArray 93) h1
  have h2 := lit_old (.cells (revQ kE0 ++ revQ kE1).toArray 93) h2
  have h3 := lit_old (.cells (revQ kE0 ++ revQ kE1).toArray 93) h3
  have b4 := b3.alloc (by omega) (.cells (revQ kE0 ++ revQ kE1).toArray 93)
  rw [z3] at h4
  show Calls _ _ _ (w3.alloc (.cells (revQ kE0 ++ revQ kE1).toArray 93)) _
  generalize w3.alloc (.cells (revQ kE0 ++ revQ kE1).toArray 93) = w4 at *
  have k := wcert_any ⟨kC, 6, [kE0, kE1], [0, 1], [kA], [kB], some ⟨w.heap.size + 1 + 1 + 1, 0, none⟩, 2, some ⟨w.heap.size, 0, none⟩, 2, some ⟨w.heap.size + 1, 0, none⟩, 1, some ⟨w.heap.size + 1 + 1, 0, none⟩, 1⟩ w4 (hG.next b4)
    ⟨of_decide_eq_true rfl, ⟨of_decide_eq_true rfl, fun x hx => by
      simp only [List.mem_cons, List.not_mem_nil, or_false] at hx
      rcases hx with rfl | rfl <;> exact ⟨of_decide_eq_true rfl, ⟨of_decide_eq_true rfl, ⟨of_decide_eq_true rfl, of_decide_eq_true rfl, of_decide_eq_true rfl⟩⟩, ⟨of_decide_eq_true rfl, of_decide_eq_true rfl, of_decide_eq_true rfl, of_decide_eq_true rfl⟩⟩⟩, ⟨of_decide_eq_true rfl, fun x hx => by
      simp only [List.mem_cons, List.not_mem_nil, or_false] at hx
      rcases hx with rfl | rfl <;> exact of_decide_eq_true rfl⟩, of_decide_eq_true rfl, of_decide_eq_true rfl⟩
    ⟨k_revs2 h4, fun x hx => by
      simp only [List.mem_cons, List.not_mem_nil, or_false] at hx
      rcases hx with rfl | rfl <;> exact ⟨.inl rfl, .inl rfl⟩, k_nums (L := [0, 1]) h1, k_strs (L := [kA]) h2, k_strs (L := [kB]) h3⟩
  have e : layCertP (CertE.r ⟨kC, 6, [kE0, kE1], [0, 1], [kA], [kB], some ⟨w.heap.size + 1 + 1 + 1, 0, none⟩, 2, some ⟨w.heap.size, 0, none⟩, 2, some ⟨w.heap.size + 1, 0, none⟩, 1, some ⟨w.heap.size + 1 + 1, 0, none⟩, 1⟩) = (kWN, 0) := ek_k
  rw [e] at k
  exact k.mono fun e w' h => ⟨h.1, b4.trans (h.2.mono b4.size)⟩
theorem k_slotx (w : World) (hG : GlobW w) : Calls Tryz.prog 19 #[.agg #[.int .u64 0, .bool false, .int .u64 0, .slice (some ⟨w.heap.size, 0, none⟩) 1 1, .slice none 0 0]] (w.alloc (.cells #[.string ⟨#[120]⟩] 9)) fun e w' => e = .returned (.tuple #[.string ⟨#[]⟩, .int .i64 2]) ∧ Below w.heap.size w w' := by
  have h1 := heap_alloc_new w (.cells #[.string ⟨#[120]⟩] 9)
  have b1 := by0 w (.cells #[.string ⟨#[120]⟩] 9)
  generalize w.alloc (.cells #[.string ⟨#[120]⟩] 9) = w1 at *
  have k := wslot_any ⟨⟨0, false, ⟨0, [[120]], []⟩⟩, some ⟨w.heap.size, 0, none⟩, 1, none, 0⟩ w1 (hG.next b1) ⟨of_decide_eq_true rfl, ⟨of_decide_eq_true rfl, of_decide_eq_true rfl, of_decide_eq_true rfl⟩⟩ ⟨k_strs (L := [[120]]) h1, .inl rfl⟩
  rw [ek_q] at k
  exact k.mono fun e w' h => ⟨h.1, b1.trans (h.2.mono b1.size)⟩
def kZ (n : Nat) : Array Value := ((List.replicate n (0 : Nat)).map fun n : Nat => Value.int .u64 (n : Int)).toArray
theorem k_coins (n c : Nat) (hn : n ≤ 1000) (w : World) (hG : GlobW w) (h : (layCertP ⟨kA, 0, [], List.replicate n 0, [], []⟩).2 = c) :
    Calls Tryz.prog 25 #[.agg #[.string ⟨kA.toArray⟩, .int .u64 0, .slice none 0 0, .slice (some ⟨w.heap.size, 0, none⟩) n n, .slice none 0 0, .slice none 0 0]] (w.alloc (.cells (kZ n) 22)) fun e w' => (∃ x, e = .returned (.tuple #[.string x, .int .i64 (c : Int)])) ∧ Below w.heap.size w w' := by
  have h1 := heap_alloc_new w (.cells (kZ n) 22)
  have b1 := by0 w (.cells (kZ n) 22)
  generalize w.alloc (.cells (kZ n) 22) = w1 at *
  have hl : (List.replicate n 0).length = n := List.length_replicate
  have k := wcert_any ⟨kA, 0, [], List.replicate n 0, [], [], none, 0, some ⟨w.heap.size, 0, none⟩, n, none, 0, none, 0⟩ w1 (hG.next b1)
    ⟨of_decide_eq_true rfl, ⟨of_decide_eq_true rfl, fun x hx => by cases hx⟩, ⟨by show (List.replicate n 0).length ≤ _; omega, fun x hx => by rw [List.eq_of_mem_replicate hx]; exact of_decide_eq_true rfl⟩, of_decide_eq_true rfl, of_decide_eq_true rfl⟩
    ⟨.inl rfl, (fun x hx => by cases hx), k_nums h1, .inl rfl, .inl rfl⟩
  have e : (layCertP (CertE.r ⟨kA, 0, [], List.replicate n 0, [], [], none, 0, some ⟨w.heap.size, 0, none⟩, n, none, 0, none, 0⟩)).2 = c := h
  rw [e] at k
  simp only [certV] at k
  rw [hl] at k
  exact k.mono fun e w' h => ⟨⟨_, h.1⟩, b1.trans (h.2.mono b1.size)⟩
theorem k_certz (w : World) (hG : GlobW w) : Calls Tryz.prog 25 #[.agg #[.string ⟨kA.toArray⟩, .int .u64 0, .slice (some ⟨w.heap.size, 0, none⟩) 1 1, .slice none 0 0, .slice none 0 0, .slice none 0 0]] (w.alloc (.cells #[.int .u64 0, .int .u64 0, .bool false, .int .u64 0, .slice none 0 0, .slice none 0 0, .string ⟨#[]⟩, .int .u64 0, .int .u64 0, .int .u64 0, .int .u64 0] 93)) fun e w' => e = .returned (.tuple #[.string ⟨#[]⟩, .int .i64 2]) ∧ Below w.heap.size w w' := by
  have h1 := heap_alloc_new w (.cells (revQ kEz).toArray 93)
  have b1 := by0 w (.cells (revQ kEz).toArray 93)
  show Calls _ _ _ (w.alloc (.cells (revQ kEz).toArray 93)) _
  generalize w.alloc (.cells (revQ kEz).toArray 93) = w1 at *
  have k := wcert_any ⟨kA, 0, [kEz], [], [], [], some ⟨w.heap.size, 0, none⟩, 1, none, 0, none, 0, none, 0⟩ w1 (hG.next b1)
    ⟨of_decide_eq_true rfl, ⟨of_decide_eq_true rfl, fun x hx => by
      simp only [List.mem_cons, List.not_mem_nil, or_false] at hx
      subst hx; exact ⟨of_decide_eq_true rfl, ⟨of_decide_eq_true rfl, ⟨of_decide_eq_true rfl, of_decide_eq_true rfl, of_decide_eq_true rfl⟩⟩, ⟨of_decide_eq_true rfl, of_decide_eq_true rfl, of_decide_eq_true rfl, of_decide_eq_true rfl⟩⟩⟩, ⟨of_decide_eq_true rfl, fun x hx => by cases hx⟩, of_decide_eq_true rfl, of_decide_eq_true rfl⟩
    ⟨k_revs1 h1, fun x hx => by
      simp only [List.mem_cons, List.not_mem_nil, or_false] at hx
      subst hx; exact ⟨.inl rfl, .inl rfl⟩, .inl rfl, .inl rfl, .inl rfl⟩
  have e : layCertP (CertE.r ⟨kA, 0, [kEz], [], [], [], some ⟨w.heap.size, 0, none⟩, 1, none, 0, none, 0, none, 0⟩) = ([], 2) := ek_t
  rw [e] at k
  exact k.mono fun e w' h => ⟨h.1, b1.trans (h.2.mono b1.size)⟩
/-- slots of the two lists of equal texts -/
theorem k_lists (n m c : Nat) (hn : n ≤ 1000) (hm : m ≤ 1000) (ao bo : Option Addr) (cp dp : Nat) (w : World) (hG : GlobW w) (ha : Strs ao (List.replicate n kA) w) (hb : Strs bo (List.replicate m kA) w) (h : (laySlotP ⟨0, false, ⟨0, List.replicate n kA, List.replicate m kA⟩⟩).2 = c) :
    Calls Tryz.prog 19 #[.agg #[.int .u64 0, .bool false, .int .u64 0, .slice ao n cp, .slice bo m dp]] w fun e w' => (∃ x, e = .returned (.tuple #[.string x, .int .i64 (c : Int)])) ∧ Below w.heap.size w w' := by
  have hl : (List.replicate n kA).length = n := List.length_replicate
  have hl2 : (List.replicate m kA).length = m := List.length_replicate
  have k := wslot_any ⟨⟨0, false, ⟨0, List.replicate n kA, List.replicate m kA⟩⟩, ao, cp, bo, dp⟩ w hG ⟨of_decide_eq_true rfl, ⟨of_decide_eq_true rfl, by show (List.replicate n kA).length ≤ _; omega, by show (List.replicate m kA).length ≤ _; omega⟩⟩ ⟨ha, hb⟩
  have e : (laySlotP (SlotE.r ⟨⟨0, false, ⟨0, List.replicate n kA, List.replicate m kA⟩⟩, ao, cp, bo, dp⟩)).2 = c := h
  rw [e] at k
  simp only [slotV] at k
  rw [hl, hl2] at k
  exact k.mono fun e w' h => ⟨⟨_, h.1⟩, h.2⟩
theorem rep_snoc (n : Nat) : txtCells (List.replicate n kA) ++ [.string ⟨kA.toArray⟩] = txtCells (List.replicate (n + 1) kA) := by
  rw [List.replicate_succ', txtCells, txtCells, List.map_append]
  rfl
theorem own_else {base m : Nat} {v u : Value} {xs : List Value} {w w' : World} (h : w.ownsRow base 9 1 v m xs) (g : w.grownBy w' u.ownBlock) (hne : ∀ b, u.ownBlock = some b → v.ownBlock ≠ some b) : w'.ownsRow base 9 1 v m xs := by
  refine ⟨h.1, ?_⟩
  rcases h.2 with h | ⟨b, cap, cur, h0, h1, h2, h3⟩
  · exact .inl h
  · exact .inr ⟨b, cap, cur, h0, h1, (g.block b (Array.getElem?_eq_some_iff.1 h2).1 fun e => hne b e.symm (by rw [h0]; rfl)).trans h2, h3⟩
/-- the two lists of equal texts that grow -/
structure Lp (w8 : World) (n m : Nat) (u v : Value) (wr : World) : Prop where
  o : Below w8.heap.size w8 wr
  ov : wr.ownsRow w8.heap.size 9 1 v n (txtCells (List.replicate n kA))
  ou : wr.ownsRow w8.heap.size 9 1 u m (txtCells (List.replicate m kA))
  d : ∀ b, v.ownBlock = some b → u.ownBlock ≠ some b
theorem Lp.addv {w8 wr w1 : World} {n m g cp : Nat} {u v : Value} {ob : Obj} (X : Lp w8 n m u v wr) (h1 : w1.ownsRow w8.heap.size 9 1 (.slice (some ⟨g, 0, none⟩) (n + 1) cp) (n + 1) (txtCells (List.replicate n kA) ++ [.string ⟨kA.toArray⟩]))
    (hg : (wr.alloc ob).grownBy w1 v.ownBlock) (ha : v.ownBlock = some g ∨ g = wr.heap.size + 1) : Lp w8 (n + 1) m u (.slice (some ⟨g, 0, none⟩) (n + 1) cp) w1 := by
  have hz := X.o.size
  refine ⟨(X.o.alloc hz _).grown hg (by simp; omega) (fun k' e => (X.ov.lt k' e).1), rep_snoc n ▸ h1, own_else (X.ou.alloc _) hg X.d, fun b hb hu => ?_⟩
  obtain rfl : g = b := by simpa [Value.ownBlock] using hb
  rcases ha with h | h
  · exact X.d _ h hu
  · have := (X.ou.lt _ hu).2
    omega
theorem Lp.addu {w8 wr w1 : World} {n m g cp : Nat} {u v : Value} {ob : Obj} (X : Lp w8 n m u v wr) (h1 : w1.ownsRow w8.heap.size 9 1 (.slice (some ⟨g, 0, none⟩) (m + 1) cp) (m + 1) (txtCells (List.replicate m kA) ++ [.string ⟨kA.toArray⟩]))
    (hg : (wr.alloc ob).grownBy w1 u.ownBlock) (ha : u.ownBlock = some g ∨ g = wr.heap.size + 1) : Lp w8 n (m + 1) (.slice (some ⟨g, 0, none⟩) (m + 1) cp) v w1 := by
  have hz := X.o.size
  refine ⟨(X.o.alloc hz _).grown hg (by simp; omega) (fun k' e => (X.ou.lt k' e).1), own_else (X.ov.alloc _) hg (fun b h1 h2 => X.d b h2 h1), rep_snoc m ▸ h1, fun b hb hu => ?_⟩
  obtain rfl : g = b := by simpa [Value.ownBlock] using hu
  rcases ha with h | h
  · exact X.d _ hb h
  · have := (X.ov.lt _ hb).2
    omega
theorem Lp.lists {w8 wr : World} {n m : Nat} {u v : Value} (X : Lp w8 n m u v wr) (hn : 0 < n) (hm : 0 < m) : ∃ a b c d, v = .slice (some ⟨a, 0, none⟩) n c ∧ u = .slice (some ⟨b, 0, none⟩) m d ∧ n ≤ c ∧ m ≤ d ∧ Strs (some ⟨a, 0, none⟩) (List.replicate n kA) wr ∧ Strs (some ⟨b, 0, none⟩) (List.replicate m kA) wr := by
  have hl : ∀ n : Nat, (List.replicate n kA).length = n := fun n => List.length_replicate
  have one : ∀ {n : Nat} {v : Value}, wr.ownsRow w8.heap.size 9 1 v n (txtCells (List.replicate n kA)) → 0 < n → ∃ a c, v = .slice (some ⟨a, 0, none⟩) n c ∧ n ≤ c ∧ Strs (some ⟨a, 0, none⟩) (List.replicate n kA) wr := fun {n v} h hn => by
    obtain ⟨ao, cp, rfl, hf⟩ := txt_of_owns h (hl n)
    rcases h.2 with h | ⟨g, cap, cur, e, _, _, hc, _⟩
    · omega
    · obtain ⟨rfl, _, rfl⟩ : ao = some ⟨g, 0, none⟩ ∧ n = n ∧ cp = cap := by simpa using e
      exact ⟨g, cp, rfl, hc, hf.strs⟩
  obtain ⟨a, c, h1, h2, h3⟩ := one X.ov hn
  obtain ⟨b, d, h4, h5, h6⟩ := one X.ou hm
  exact ⟨a, b, c, d, h1, h4, h2, h5, h3, h6⟩
theorem Lp.start (w8 : World) : Lp w8 0 0 (.slice none 0 0) (.slice none 0 0) w8 := ⟨Below.refl _ _, World.ownsRow_nil _ _ _ _, World.ownsRow_nil _ _ _ _, fun b hb => by cases hb⟩
theorem strs_take {a : Nat} {L : List (List UInt8)} {w : World} (h : Strs (some ⟨a, 0, none⟩) L w) (k : Nat) : Strs (some ⟨a, 0, none⟩) (L.take k) w := by
  rcases h with h | ⟨b, off, h1, h2, h3⟩
  · exact .inl (by rw [h]; simp)
  · refine .inr ⟨b, off, h1, h2, fun i hi => ?_⟩
    rw [List.length_take] at hi
    rw [h3 i (by omega), List.getElem_take]
end Go.Proofs.YtbkiijndhjmkdaaGreatDoor
