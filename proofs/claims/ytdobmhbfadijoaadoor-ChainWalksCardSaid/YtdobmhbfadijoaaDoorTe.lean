/- The digest of eight words is their 32 bytes, the highest first. -/
import Derived.Test.YtdobmhbfadijoaaDoorTd
namespace Go.Proofs.YtdobmhbfadijoaaDoor
open Go.RowKit

/-- a word's four bytes, the highest first -/
def word4 (x : BitVec 32) : List UInt8 := [UInt8.ofNat (x >>> 24).toNat, UInt8.ofNat (x >>> 16).toNat, UInt8.ofNat (x >>> 8).toNat, UInt8.ofNat x.toNat]
def digestTo (v : Nat → BitVec 32) (k : Nat) : List UInt8 := (List.range k).flatMap fun i => word4 (v i)
theorem digestTo_succ (v : Nat → BitVec 32) (k : Nat) : digestTo v (k + 1) = digestTo v k ++ word4 (v k) := by
  simp [digestTo, List.range_succ]
theorem digestTo_length (v : Nat → BitVec 32) : ∀ k, (digestTo v k).length = 4 * k
  | 0 => rfl
  | k + 1 => by rw [digestTo_succ, List.length_append, digestTo_length v k]; rfl

theorem run_index42 (R : Array Value) (k : Nat) (v : Value) (hk : k < 8) (h : R[k]? = some v) (w : World) : (Instr.index 70 (.agg R) (.int .i64 (k : Int))).run Tryd.prog w = .ok v w := by
  have h1 : (0 : Int) ≤ (k : Int) ∧ (k : Int) < ((8 : Nat) : Int) := by omega
  have h2 : (sizeOf 64).run Tryd.prog w = .ok 1 w := by kernel_rfl
  simp [Instr.index, asIntOf, run_underlying Tryd.underlying70, h1, part, h2, h]
  intro h4
  omega

theorem tn_u8 (x : BitVec 32) : tn x % (256 : Int) = ((UInt8.ofNat x.toNat).toNat : Int) := by
  rw [UInt8.toNat_ofNat', tn]
  omega

theorem word4_cells (x : BitVec 32) : [Value.int .u8 (tn x / (16777216 : Int) % (256 : Int)), .int .u8 (tn x / (65536 : Int) % (256 : Int)), .int .u8 (tn x / (256 : Int) % (256 : Int)), .int .u8 (tn x % (256 : Int))] = cellsOf (word4 x) := by
  have e24 : tn x / (16777216 : Int) = tn (x >>> 24) := shr_u32 x 24
  have e16 : tn x / (65536 : Int) = tn (x >>> 16) := shr_u32 x 16
  have e8 : tn x / (256 : Int) = tn (x >>> 8) := shr_u32 x 8
  rw [e24, e16, e8, tn_u8, tn_u8, tn_u8, tn_u8]
  rfl

theorem news_new (w : World) (l : List Value) (t : TypeId) : ∀ j u, l[j]? = some u → (w.alloc (.cells l.toArray t)).cell? ((⟨w.heap.size, 0, none⟩ : Addr).add j) = some u := by
  intro j u h
  rw [Addr.add_mid, Nat.zero_add, World.cell?_alloc_at (hn := rfl)]
  simpa using h

theorem made_dig (w : World) (b : Nat) (hb : b ≤ w.heap.size) (C : Array Value) (hC : C.size = 32) : (w.alloc (.cells C 5)).ownsRow b 5 1 (.slice (some ⟨w.heap.size, 0, none⟩) 0 32) 0 [] :=
  ⟨rfl, .inr ⟨_, _, _, rfl, hb, heap_alloc_new w _, by omega, by unfold maxLen; omega, by rw [hC], by simp⟩⟩

set_option maxRecDepth 100000 in
set_option maxHeartbeats 1000000 in
theorem digest_any (V : Array Value) (v : Nat → BitVec 32) (w : World) (hV : V.size = 8) (hv : ∀ i < 8, V[i]? = some (.int .u32 (tn (v i)))) :
    Calls Tryd.prog 44 #[.agg V] w fun e w' => e = .returned (.string ⟨(digestTo v 8).toArray⟩) ∧ Below w.heap.size w w' := by
  obtain ⟨i0, hi, hz0, hz1, hz2⟩ := info_parts Tryd.info5
  obtain ⟨C, hC⟩ : ∃ C, C = madeCells #[.int .u8 0] 32 := ⟨_, rfl⟩
  have hmk : ∀ w, (Instr.makeSlice 31 (.int .i64 0) (.int .i64 32)).run Tryd.prog w = .ok (.slice (some ⟨w.heap.size, 0, none⟩) 0 32) (w.alloc (.cells C 5)) := by
    intro w
    have h := run_make (P := Tryd.prog) w 31 5 i0 (.int .u8 0) Tryd.underlying31 hi hz0 .i64 .i64 0 32 (by omega) (by omega) (by rw [hz2]; omega) (by omega)
    rw [show (0:Int).toNat = 0 by omega, show (32:Int).toNat = 32 by omega, hz1, Nat.mul_one] at h
    rw [hC]
    exact h
  have hCs := Lib.hid (show C.size = 32 by rw [hC]; exact size_madeCells _ _)
  have HV := Lib.hid hv
  have hi42 := Lib.hid (show (Tryd.prog.info? 70).map (·.size) = some V.size by rw [hV]; kernel_rfl)
  clear hC hv hV
  go_enter Tryd.func44, Tryd.ntmps44
  go_wp2_with (refine wpList_load_row rfl 70 _ rfl _ rfl 70 V (0, 0) _ (heap_alloc2_old w _ _) Tryd.underlying70 rfl hi42.out ?_)
  go_loopw [3, 5, 8] (fun v' _ i wr => ∃ k : Nat, k ≤ 8 ∧ i = .int .i64 (k : Int) ∧ v' = .slice (some ⟨w.heap.size + 1, 0, none⟩) (4 * k) 32 ∧
      wr.ownsRow (w.heap.size + 1) 5 1 (.slice (some ⟨w.heap.size + 1, 0, none⟩) (4 * k) 32) (4 * k) (cellsOf (digestTo v k)) ∧ w.heap.size + 1 < wr.heap.size ∧ Below w.heap.size w wr)
    (fun _ _ i _ => 8 - (intOf i).toNat)
  case atStart =>
    exact ⟨0, by omega, rfl, rfl, by have := made_dig (w.alloc (.cells V 70)) (w.heap.size + 1) (by simp) C hCs.out; rwa [World.size_alloc] at this, by simp, ((Below.refl _ _).alloc (Nat.le_refl _) _).alloc (by simp) _⟩
  case round =>
    obtain ⟨k, hk, rfl, rfl, hown, hz, hbe⟩ := hrel
    by_cases hlt : k < 8
    · have hx := run_index42 V k _ hlt (HV.out k hlt)
      have HO := Lib.hid (show cellsOf (digestTo v k) ++ [Value.int .u8 (tn (v k) / (16777216 : Int) % (256 : Int)), .int .u8 (tn (v k) / (65536 : Int) % (256 : Int)), .int .u8 (tn (v k) / (256 : Int) % (256 : Int)), .int .u8 (tn (v k) % (256 : Int))] = cellsOf (digestTo v (k + 1)) by rw [word4_cells, digestTo_succ, cellsOf_append])
      go_wp2_with (at_builtin; refine wpList_append_fits _ rfl (.tmp 11) (.tmp 23) 31 rfl (w.heap.size + 1) 5 i0 1 Tryd.underlying31 hi hz1 (w.heap.size + 1) (4 * k) 32 _ rfl (hown.alloc _) ⟨wr.heap.size, 0, none⟩ 4 4 [Value.int .u8 (tn (v k) / (16777216 : Int) % (256 : Int)), .int .u8 (tn (v k) / (65536 : Int) % (256 : Int)), .int .u8 (tn (v k) / (256 : Int) % (256 : Int)), .int .u8 (tn (v k) % (256 : Int))] rfl rfl (news_new _ _ _) (by simp [Value.oneCell']) (by omega) ?_)
      intro w1 hown1 hgrow
      rw [HO.out] at hown1
      clear hown
      go_wp2
      go_roundw
      case rel => exact ⟨k + 1, by omega, by go_num, rfl, hown1, by have := hgrow.size; simp at this; omega, (hbe.alloc (by omega) _).grown hgrow (by simp; omega) (fun k' e => by cases e; omega)⟩
      case measure => simp [intOf]; omega
    · have ek : k = 8 := by omega
      subst ek
      have hconv := run_convert_bytes_back wr 31 9 5 ⟨w.heap.size + 1, 0, none⟩ 32 (digestTo v 8) Tryd.underlying31 Tryd.underlying5 Tryd.underlying9 (owned_bytes hown rfl)
      rw [digestTo_length] at hconv
      go_wp2
      go_ret
      exact ⟨rfl, hbe⟩
end Go.Proofs.YtdobmhbfadijoaaDoor
