/- The law's works, by the reader's calls. -/
import Derived.Test.YtefhjncoakgbkaaDoorUf
import Derived.Deep.RegionHeld3
namespace Go.Proofs.YtefhjncoakgbkaaDoor
open Go.RowKit

def worksS : List UInt8 := [129, 161, 97, 205, 1, 0]
/-- a reader in a walk: what is kept -/
structure Rk (R : Nat → List UInt8 → Nat → Nat → World → Prop) (G : World → Prop) (w0 : World) (b : Nat) (S : List UInt8) (a m : Nat) (wz : World) : Prop where
  r : R b S a m wz
  g : G wz
  g0 : G w0
  lo : w0.heap.size ≤ b
  o : Below w0.heap.size w0 wz
theorem Rk.only {G : World → Prop} {R : Nat → List UInt8 → Nat → Nat → World → Prop} (C : ReaderC G R) {w0 wz wa : World} {b : Nat} {S : List UInt8} {a m a' : Nat} (h : Rk R G w0 b S a m wz) (ho : Only b wz wa) (hr : R b S a' m wa) : Rk R G w0 b S a' m wa :=
  have o := h.o.trans (ho.below h.lo h.o.size)
  ⟨hr, C.gb h.g0 o, h.g0, h.lo, o⟩
theorem Rk.other {G : World → Prop} {R : Nat → List UInt8 → Nat → Nat → World → Prop} (C : ReaderC G R) {w0 wz wa : World} {b c : Nat} {S : List UInt8} {a m : Nat} (h : Rk R G w0 b S a m wz) (ho : Only c wz wa) (hc : w0.heap.size ≤ c) (hne : c ≠ b) : Rk R G w0 b S a m wa :=
  have o := h.o.trans (ho.below hc h.o.size)
  ⟨C.keep h.r ho hne, C.gb h.g0 o, h.g0, h.lo, o⟩
theorem Rk.next {G : World → Prop} {R : Nat → List UInt8 → Nat → Nat → World → Prop} (C : ReaderC G R) {w0 wz wa : World} {b : Nat} {S : List UInt8} {a m : Nat} (h : Rk R G w0 b S a m wz) (hb : Below wz.heap.size wz wa) : Rk R G w0 b S a m wa :=
  ⟨C.keep h.r (Only.of_below (b := wz.heap.size) hb) (by have := C.lt h.r; omega), C.gb h.g hb, h.g0, h.lo, h.o.trans (hb.mono h.o.size)⟩

set_option maxRecDepth 100000 in
set_option maxHeartbeats 4000000 in
theorem works_u {G : World → Prop} {R : Nat → List UInt8 → Nat → Nat → World → Prop} (C : ReaderC G R) (w : World) (hG : G w) :
    Calls Tryd.prog 13 #[] w fun e w' => e = .returned (.bool true) ∧ Below w.heap.size w w' := by
  have hs : (⟨#[129, 161, 97, 205, 1, 0]⟩ : ByteArray) = ⟨worksS.toArray⟩ := rfl
  have HN := Lib.hid (C.new worksS 9 w hG (by decide) (by decide) (by decide))
  rw [show (max (9 : Int) 0).toNat = 9 from rfl] at HN
  have t1 := Lib.hid (show takeP (worksS.drop 0) 9 4 = ⟨1, [], 0, 1⟩ by kernel_rfl)
  have t2 := Lib.hid (show takeP (worksS.drop (0 + 1)) 9 2 = ⟨1, [97], 0, 2⟩ by kernel_rfl)
  have t3 := Lib.hid (show takeP (worksS.drop (0 + 1 + 2)) 9 0 = ⟨256, [], 0, 3⟩ by kernel_rfl)
  have t4 := Lib.hid (show takeP (worksS.drop (0 + 1 + 2 + 3)) 9 0 = ⟨0, [], 4, 0⟩ by kernel_rfl)
  have hl : worksS.length = 6 := rfl
  have HL := Lib.hid hl
  clear hl
  go_enter Tryd.func13, Tryd.ntmps13
  go_wp2_with fail
  refine HN.out.mono ?_
  rintro e w1 ⟨b, hlo, rfl, hr, hb⟩
  have K := Lib.hid (Rk.mk hr (C.gb hG hb) hG hlo hb : Rk R G w b worksS 0 9 w1)
  clear hr hb hlo
  go_wp2_with fail
  refine (C.map b worksS 0 9 w1 K.out.r K.out.g (by decide) (by decide)).mono ?_
  rw [t1.out]
  rintro e w2 ⟨v1, rfl, hv, hr, ho⟩
  have K := Lib.hid (K.out.only C ho hr)
  obtain rfl : v1 = .nilIface := hv
  clear hr ho
  go_wp2_with fail
  refine (C.str b worksS _ 9 w2 K.out.r K.out.g (by decide) (by decide)).mono ?_
  rw [t2.out]
  rintro e w3 ⟨v2, rfl, hv, hr, ho⟩
  have K := Lib.hid (K.out.only C ho hr)
  obtain rfl : v2 = .nilIface := hv
  clear hr ho
  go_wp2_with fail
  refine (C.num b worksS _ 9 w3 K.out.r K.out.g (by decide) (by decide)).mono ?_
  rw [t3.out]
  rintro e w4 ⟨v3, rfl, hv, hr, ho⟩
  have K := Lib.hid (K.out.only C ho hr)
  obtain rfl : v3 = .nilIface := hv
  clear hr ho
  go_wp2_with fail
  refine (C.num b worksS _ 9 w4 K.out.r K.out.g (by decide) (by decide)).mono ?_
  rw [t4.out]
  rintro e w5 ⟨v4, rfl, hv, hr, ho⟩
  have K := Lib.hid (K.out.only C ho hr)
  have HV := Lib.hid hv
  clear hr ho hv
  go_wp2_with fail
  refine (fault_any _ 4 6 v4 w5 (C.ge K.out.g) HV.out).mono ?_
  rintro e w6 ⟨rfl, hb⟩
  have K := Lib.hid (K.out.next C hb)
  clear hb
  go_wp2_with fail
  refine (C.fin b worksS _ 9 w6 K.out.r K.out.g (by decide) (by decide)).mono ?_
  rintro e w7 ⟨v5, rfl, hv, hb⟩
  have K := Lib.hid (K.out.next C hb)
  obtain rfl : v5 = .nilIface := hv
  clear hb
  go_wp2
  go_ret
  exact ⟨rfl, K.out.o⟩
end Go.Proofs.YtefhjncoakgbkaaDoor
