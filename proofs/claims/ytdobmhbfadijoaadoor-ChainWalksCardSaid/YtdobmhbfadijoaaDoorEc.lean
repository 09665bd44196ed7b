/- The law's same and works. -/
import Derived.Test.YtdobmhbfadijoaaDoorEc0
namespace Go.Proofs.YtdobmhbfadijoaaDoor
open Go.RowKit

set_option maxRecDepth 100000 in
set_option maxHeartbeats 1000000 in
theorem same12_any (L : List Nat) (ao bo : Option Addr) (ca cb : Nat) (w : World) (ha : Ints ao L w) (hb : Ints bo L w) (hl : L.length ≤ 1000) :
    Calls Tryd.prog 9 #[.slice ao L.length ca, .slice bo L.length cb] w fun e w' => e = .returned (.bool true) ∧ Below w.heap.size w w' := by
  have HA := Lib.hid (fun wz (h : Below w.heap.size w wz) => ha.next h)
  have HB := Lib.hid (fun wz (h : Below w.heap.size w wz) => hb.next h)
  have HL := Lib.hid hl
  clear ha hb hl
  go_enter Tryd.func9, Tryd.ntmps9
  go_wp2
  go_loopw [5] (fun v5 wr => ∃ k : Nat, k ≤ L.length ∧ v5 = .int .i64 (k : Int) ∧ Hid (Below w.heap.size w wr)) (fun v5 _ => L.length - (intOf v5).toNat)
  case atStart => exact ⟨0, Nat.zero_le _, rfl, Lib.hid (Below.refl _ _)⟩
  case round =>
    obtain ⟨k, hk, rfl, K⟩ := hrel
    by_cases hlt : k < L.length
    · have k0 : (0 : Int) ≤ (k : Int) := by omega
      have k1 : (k : Int) < (L.length : Int) := by omega
      have k2 : (k : Int) ≤ 1000 := by have := HL.out; omega
      obtain ⟨b1, o1, rfl, c1⟩ := (HA.out _ K.out).at hlt
      obtain ⟨b2, o2, rfl, c2⟩ := (HB.out _ K.out).at hlt
      generalize L[k] = X at *
      go_wp2
      go_quiet (fail)
      have K := Lib.hid (below_next K.out (by0q _ nq))
      go_wp2
      go_roundw
      case rel => exact ⟨k + 1, by omega, by go_num, K⟩
      case measure => simp [intOf]; omega
    · have k1 : ¬ (k : Int) < (L.length : Int) := by omega
      go_wp2
      go_ret
      exact ⟨rfl, K.out⟩
def zero32 : (List UInt8) := List.replicate 32 0
theorem zero32_dig : (digC zero32)[0]? = some 0 ∧ (digC zero32)[64]? = some 3 ∧ (digC zero32)[65]? = some 12 ∧ (digC zero32)[66]? = some 0 ∧ (digC zero32).length = 67 := by decide
def bytesC (L : (List UInt8)) : List Value := L.map fun b : UInt8 => Value.int .u8 (b.toNat : Int)
theorem info_byte : (Tryd.prog.info? 5).map (fun i => (i.zero, i.size, i.bytes)) = some (some (.int .u8 0), 1, 1) := by kernel_rfl
theorem made_bytes (n : Nat) : madeCells (Value.int .u8 0).cells n = (bytesC (List.replicate n 0)).toArray := by
  refine Array.ext (by simp [madeCells, bytesC, Value.cells]) ?_
  intro i h1 h2
  simp [madeCells, bytesC, Value.cells, Nat.mod_one]
theorem make_bytes (n : Nat) (hn : n ≤ 100000) (w : World) : (Instr.makeSlice 31 (.int .i64 (n : Int)) (.int .i64 (n : Int))).run Tryd.prog w = .ok (.slice (some ⟨w.heap.size, 0, none⟩) n n) (w.alloc (.cells (bytesC (List.replicate n 0)).toArray 5)) := by
  obtain ⟨i0, hi, hz0, hz1, hz2⟩ := info_parts info_byte
  have h := run_make (P := Tryd.prog) w 31 5 i0 (.int .u8 0) Tryd.underlying31 hi hz0 .i64 .i64 (n : Int) (n : Int) (by omega) (by omega) (by rw [hz2]; omega) (by omega)
  rw [h, hz1, Int.toNat_natCast, Nat.mul_one, made_bytes]
/-- what is in a block of bytes, as a text -/
theorem conv_bytes (L : (List UInt8)) (b cap : Nat) (w : World) (h : ∀ j (hj : j < L.length), w.cell? ⟨b, j, none⟩ = some (.int .u8 (L[j].toNat : Int))) : (convert 31 9 (.slice (some ⟨b, 0, none⟩) L.length cap)).run Tryd.prog w = .ok (.string ⟨L.toArray⟩) w :=
  run_convert_bytes_back (P := Tryd.prog) w 31 9 5 ⟨b, 0, none⟩ cap L Tryd.underlying31 Tryd.underlying5 Tryd.underlying9 (fun j hj => by rw [Addr.add_mid, Nat.zero_add]; exact h j hj)
theorem bytes_cell {L : (List UInt8)} {b : Nat} {t : TypeId} {w : World} (h : w.heap[b]? = some (.cells (bytesC L).toArray t (0, 0))) (j : Nat) (hj : j < L.length) : w.cell? ⟨b, j, none⟩ = some (.int .u8 (L[j].toNat : Int)) := by
  rw [lit_cell h]
  simp [bytesC, hj]
set_option maxRecDepth 100000 in
set_option maxHeartbeats 1000000 in
theorem works12_any (C : ChainC) (w : World) (hg : Glob w) : Calls Tryd.prog 12 #[] w fun e w' => e = .returned (.bool true) ∧ Below w.heap.size w w' := by
  have hm := make_bytes 32 (by decide) w
  have hz : zero32.length = 32 := rfl
  have hn := heap_alloc_new w (.cells (bytesC zero32).toArray 5)
  have hcv := conv_bytes zero32 w.heap.size 32 (w.alloc (.cells (bytesC zero32).toArray 5)) (fun j hj => bytes_cell hn j hj)
  rw [show ((32 : Nat) : Int) = 32 from rfl, show List.replicate 32 (0 : UInt8) = zero32 from rfl] at hm
  rw [hz] at hcv
  obtain ⟨z0, z64, z65, z66, zl⟩ := zero32_dig
  have HD := Lib.hid (fun wz (h : Wl w wz) => C.d zero32 wz h.g (by rw [hz]; decide))
  rw [zl] at HD
  have HS := Lib.hid (fun wz (h : Wl w wz) => C.k 5 3 4 [120] wz h.g (by decide))
  have HQ := Lib.hid (fun wz (h : Wl w wz) => C.k 5 3 3 [120] wz h.g (by decide))
  rw [show walkV 5 3 4 [120] = hashL chainT [[5], [3], [120]] from rfl] at HS
  rw [show walkV 5 3 3 [120] = [120] from rfl] at HQ
  have HH := Lib.hid (fun wz (h : Wl w wz) => hash3_any chainT [5] [3] [120] wz h.g (by decide) (by decide) (by decide) (by decide))
  have HG := Lib.hid (show Wl w (w.alloc (.cells (bytesC zero32).toArray 5)) from ⟨hg.below hg.size (by0 w _), by0 w _⟩)
  clear hg hz hn
  generalize hashL chainT [[5], [3], [120]] = Z at *
  generalize (bytesC zero32).toArray = BC at *
  generalize zero32 = ZZ at *
  go_enter Tryd.func12, Tryd.ntmps12
  go_upto_region 2 with (go_at_call 10; refine (HD.out _ HG.out).mono ?_; rintro e w1 ⟨ao, cp, rfl, hi, hb⟩; have HG := Lib.hid (HG.out.next hb))
  obtain ⟨b, off, rfl, hc⟩ := hi.get (by rw [zl]; decide)
  have c0 := hc 0 _ z0
  have c64 := hc 64 _ z64
  have c65 := hc 65 _ z65
  have c66 := hc 66 _ z66
  rw [Nat.add_zero] at c0
  clear hc hb hcv z0 z64 z65 z66 zl hi hm HD
  go_wp2_with (first
    | (go_at_call 13; with_reducible refine (HS.out _ HG.out).mono ?_; rintro e wn ⟨rfl, bn⟩; have HG := Lib.hid (HG.out.next bn); clear bn)
    | (go_at_call 13; with_reducible refine (HQ.out _ HG.out).mono ?_; rintro e wn ⟨rfl, bn⟩; have HG := Lib.hid (HG.out.next bn); clear bn)
    | (go_at_call 15; refine (HH.out _ HG.out).mono ?_; rintro e wn ⟨rfl, bn⟩; have HG := Lib.hid (HG.out.next bn); clear bn))
  go_ret
  exact ⟨rfl, HG.out.o⟩
end Go.Proofs.YtdobmhbfadijoaaDoor
