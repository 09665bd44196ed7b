/- UnpackKnown: its walk, given what a reader does, and one that is none. -/
import Derived.Test.YtefhjncoakgbkaaDoorUg
import Derived.Test.YtefhjncoakgbkaaDoorQg
namespace Go.Proofs.YtefhjncoakgbkaaDoor
open Go.RowKit

def badL : List (List UInt8) := [[204, 127], [205, 0, 255], [206, 0, 0, 255, 255], [207, 0, 0, 0, 0, 255, 255, 255, 255], [192], [224], [255], [208, 1], [128], [160]]
def badV : Array Value := #[.string ⟨#[204, 127]⟩, .string ⟨#[205, 0, 255]⟩, .string ⟨#[206, 0, 0, 255, 255]⟩, .string ⟨#[207, 0, 0, 0, 0, 255, 255, 255, 255]⟩, .string ⟨#[192]⟩, .string ⟨#[224]⟩, .string ⟨#[255]⟩, .string ⟨#[208, 1]⟩, .string ⟨#[128]⟩, .string ⟨#[160]⟩]
theorem bad_at (i : Nat) (hi : i < 10) : ∃ S : List UInt8, badV[i]? = some (.string ⟨S.toArray⟩) ∧ S.length ≤ 9 ∧ takeP (S.drop 0) 9 0 = ⟨0, [], 5, 0⟩ := by
  have h : i = 0 ∨ i = 1 ∨ i = 2 ∨ i = 3 ∨ i = 4 ∨ i = 5 ∨ i = 6 ∨ i = 7 ∨ i = 8 ∨ i = 9 := by omega
  rcases h with rfl | rfl | rfl | rfl | rfl | rfl | rfl | rfl | rfl | rfl
  · exact ⟨[204, 127], rfl, by decide, by kernel_rfl⟩
  · exact ⟨[205, 0, 255], rfl, by decide, by kernel_rfl⟩
  · exact ⟨[206, 0, 0, 255, 255], rfl, by decide, by kernel_rfl⟩
  · exact ⟨[207, 0, 0, 0, 0, 255, 255, 255, 255], rfl, by decide, by kernel_rfl⟩
  · exact ⟨[192], rfl, by decide, by kernel_rfl⟩
  · exact ⟨[224], rfl, by decide, by kernel_rfl⟩
  · exact ⟨[255], rfl, by decide, by kernel_rfl⟩
  · exact ⟨[208, 1], rfl, by decide, by kernel_rfl⟩
  · exact ⟨[128], rfl, by decide, by kernel_rfl⟩
  · exact ⟨[160], rfl, by decide, by kernel_rfl⟩

/-- what is kept: the tables, all of memory from before, errors that were answered -/
structure Er (G : World → Prop) (w0 : World) (l : List (Int × Value)) (w : World) : Prop where
  g : G w
  b : Below w0.heap.size w0 w
  e : ∀ p ∈ l, ErrV 0 p.1 0 p.2 w
theorem ErrV.low {lo : Nat} {c a : Int} {v : Value} {w : World} (h : ErrV lo c a v w) : ErrV 0 c a v w := by
  unfold ErrV at *
  by_cases hc : c = 0
  · rw [if_pos hc] at *; exact h
  · rw [if_neg hc] at *
    obtain ⟨f, _, h1⟩ := h
    exact ⟨f, Nat.zero_le _, h1⟩
theorem Er.next {G : World → Prop} {R : Nat → List UInt8 → Nat → Nat → World → Prop} (C : ReaderC G R) {w0 : World} {l : List (Int × Value)} {w w' : World} (h : Er G w0 l w) (hb : Below w.heap.size w w') : Er G w0 l w' :=
  ⟨C.gb h.g hb, h.b.trans (hb.mono h.b.size), fun p hp => (h.e p hp).next hb⟩
theorem Er.push {G : World → Prop} {w0 : World} {l : List (Int × Value)} {w : World} {lo : Nat} {c : Int} {v : Value} (h : Er G w0 l w) (hv : ErrV lo c 0 v w) : Er G w0 (l ++ [(c, v)]) w :=
  ⟨h.g, h.b, fun p hp => by
    rcases List.mem_append.1 hp with hp | hp
    · exact h.e p hp
    · obtain rfl := List.mem_singleton.1 hp
      exact hv.low⟩
/-- a reader just made, and what was behind it then -/
structure New1 (R : Nat → List UInt8 → Nat → Nat → World → Prop) (w1 : World) (b : Nat) (S : List UInt8) (a m : Nat) (w : World) : Prop where
  r : R b S a m w
  l : w1.heap.size ≤ b
  b : Below w1.heap.size w1 w
theorem New1.only {R : Nat → List UInt8 → Nat → Nat → World → Prop} {w1 w w' : World} {b : Nat} {S : List UInt8} {a a' m : Nat} (h : New1 R w1 b S a m w) (hr : R b S a' m w') (ho : Only b w w') : New1 R w1 b S a' m w' :=
  ⟨hr, h.l, h.b.trans (ho.below h.l h.b.size)⟩

theorem ErrV.iface {lo : Nat} {c a : Int} {v : Value} {w : World} (h : ErrV lo c a v w) (hc : c ≠ 0) : ∃ f, v = .iface 61 (.pointer (some ⟨f, 0, none⟩)) := by
  unfold ErrV at h
  rw [if_neg hc] at h
  obtain ⟨f, _, h1, _⟩ := h
  exact ⟨f, h1⟩
theorem fault0 {G : World → Prop} {R : Nat → List UInt8 → Nat → Nat → World → Prop} (C : ReaderC G R) (c : Int) (v : Value) (w : World) (hg : G w) (hv : ErrV 0 c 0 v w) :
    Calls Tryd.prog 11 #[v] w fun e w' => e = .returned (.tuple #[.int .i64 c, .int .i64 0, .bool true]) ∧ Below w.heap.size w w' :=
  (fault_any 0 c 0 v w (C.ge hg) hv).mono fun e w' h => ⟨by rw [h.1, ite_self], h.2⟩
theorem map_at {α : Type} (l : List α) (f : α → Value) (k : Nat) (hk : k < l.length) : ((l.map f).toArray)[k]? = some (f l[k]) := by
  simp [List.getElem?_eq_getElem hk]

set_option maxRecDepth 100000 in
set_option maxHeartbeats 4000000 in
theorem uknown_any {G : World → Prop} {R : Nat → List UInt8 → Nat → Nat → World → Prop} (C : ReaderC G R) (N : NilU) (w : World) (hG : G w) :
    Calls Tryd.prog 6 #[] w fun e w' => e = .returned (.bool true) ∧ Below w.heap.size w w' := by
  have hbs := heap_alloc_new w (.cells badV 9)
  have HE0 : Er G w [] (w.alloc (.cells badV 9)) := ⟨C.gb hG (by0 w _), by0 w _, fun p hp => by cases hp⟩
  have HBS := Lib.hid hbs
  have HE := Lib.hid HE0
  clear hbs HE0 hG
  go_enter Tryd.func6, Tryd.ntmps6
  go_upto_region 2 with fail
  rw [show (#[Value.string ⟨#[204, 127]⟩, .string ⟨#[205, 0, 255]⟩, .string ⟨#[206, 0, 0, 255, 255]⟩, .string ⟨#[207, 0, 0, 0, 0, 255, 255, 255, 255]⟩, .string ⟨#[192]⟩, .string ⟨#[224]⟩, .string ⟨#[255]⟩, .string ⟨#[208, 1]⟩, .string ⟨#[128]⟩, .string ⟨#[160]⟩] : Array Value) = badV from rfl]
  generalize w.alloc (.cells badV 9) = wb at *
  go_wp2_with fail
  go_loopw [2] (fun i wr => ∃ k : Nat, k ≤ 10 ∧ i = .int .i64 (k : Int) ∧ Hid (Er G w [] wr) ∧ Hid (wr.heap[w.heap.size]? = some (.cells badV 9 (0, 0))))
    (fun i _ => 10 - (intOf i).toNat)
  case atStart => exact ⟨0, Nat.zero_le _, rfl, HE, HBS⟩
  case round =>
    clear HE HBS
    obtain ⟨k, hk, rfl, HE, HB⟩ := hrel
    by_cases hlt : k < 10
    · obtain ⟨S, hS, hl, ht⟩ := bad_at k hlt
      have c0 := (lit_cell HB.out k).trans hS
      have k1 : (k : Int) < 10 := by omega
      have k0 : (0 : Int) ≤ (k : Int) := by omega
      have HN := Lib.hid (C.new S 9 wr HE.out.g (by omega) (by decide) (by decide))
      rw [show (max (9 : Int) 0).toNat = 9 from rfl] at HN
      have HT := Lib.hid ht
      have HL := Lib.hid hl
      have HLT := Lib.hid hlt
      clear ht hS hl hlt hk
      go_wp2_with fail
      refine HN.out.mono ?_
      rintro e w1 ⟨b, hlo, rfl, hr, hb⟩
      have K := Lib.hid (New1.mk hr hlo hb : New1 R wr b S 0 9 w1)
      clear hr hlo hb HN
      have HM := C.num b S 0 9 w1 K.out.r (C.gb HE.out.g K.out.b) (by have := HL.out; omega) (Nat.zero_le _)
      rw [HT.out] at HM
      have HM := Lib.hid HM
      go_wp2_with fail
      refine HM.out.mono ?_
      rintro e w2 ⟨v, rfl, hv, hr, ho⟩
      have K2 := Lib.hid (K.out.only hr ho)
      have HV := Lib.hid hv
      clear hr ho hv HM K
      go_wp2_with fail
      refine (fault_any _ 5 0 v w2 (C.ge (C.gb HE.out.g K2.out.b)) HV.out).mono ?_
      rintro e w3 ⟨rfl, hb⟩
      have hb3 := K2.out.b.trans (hb.mono K2.out.b.size)
      have HE3 := Lib.hid (HE.out.next C hb3)
      have HB3 := Lib.hid ((hb3.block _ (lit_lt HB.out)).trans HB.out)
      clear hb hb3 K2 HV
      go_wp2
      go_roundw
      case rel => exact ⟨k + 1, by have := HLT.out; omega, by go_num, HE3, HB3⟩
      case measure => have := HLT.out; simp [intOf] <;> omega
    · have k1 : ¬ (k : Int) < 10 := by omega
      clear hlt hk HB
      have HN := Lib.hid (C.new [147, 1, 2, 3] 3 wr HE.out.g (by decide) (by decide) (by decide))
      go_wp2_with fail
      refine HN.out.mono ?_
      rintro e w1 ⟨b, hlo, rfl, hr, hb⟩
      have K := Lib.hid (New1.mk hr hlo hb : New1 R wr b [147, 1, 2, 3] 0 3 w1)
      clear hr hlo hb HN
      go_wp2_with fail
      refine (C.list b [147, 1, 2, 3] 0 3 w1 K.out.r (C.gb HE.out.g K.out.b) (by decide) (by decide)).mono ?_
      rw [show takeP (([147, 1, 2, 3] : List UInt8).drop 0) 3 3 = ⟨3, [], 0, 1⟩ by kernel_rfl]
      rintro e w2 ⟨v, rfl, hv, hr, ho⟩
      obtain rfl : v = .nilIface := hv
      have K := Lib.hid (K.out.only hr ho)
      clear hr ho
      go_wp2_with fail
      refine (C.num b [147, 1, 2, 3] _ 3 w2 K.out.r (C.gb HE.out.g K.out.b) (by decide) (by decide)).mono ?_
      rw [show takeP (([147, 1, 2, 3] : List UInt8).drop (0 + 1)) 3 0 = ⟨1, [], 0, 1⟩ by kernel_rfl]
      rintro e w3 ⟨v, rfl, hv, hr, ho⟩
      obtain rfl : v = .nilIface := hv
      have K := Lib.hid (K.out.only hr ho)
      clear hr ho
      go_wp2_with fail
      refine (C.num b [147, 1, 2, 3] _ 3 w3 K.out.r (C.gb HE.out.g K.out.b) (by decide) (by decide)).mono ?_
      rw [show takeP (([147, 1, 2, 3] : List UInt8).drop (0 + 1 + 1)) 3 0 = ⟨2, [], 0, 1⟩ by kernel_rfl]
      rintro e w4 ⟨v, rfl, hv, hr, ho⟩
      obtain rfl : v = .nilIface := hv
      have K := Lib.hid (K.out.only hr ho)
      clear hr ho
      go_wp2_with fail
      refine (C.num b [147, 1, 2, 3] _ 3 w4 K.out.r (C.gb HE.out.g K.out.b) (by decide) (by decide)).mono ?_
      rw [show takeP (([147, 1, 2, 3] : List UInt8).drop (0 + 1 + 1 + 1)) 3 0 = ⟨3, [], 0, 1⟩ by kernel_rfl]
      rintro e w5 ⟨v, rfl, hv, hr, ho⟩
      obtain rfl : v = .nilIface := hv
      have K := Lib.hid (K.out.only hr ho)
      clear hr ho
      go_wp2_with fail
      refine (C.fin b [147, 1, 2, 3] _ 3 w5 K.out.r (C.gb HE.out.g K.out.b) (by decide) (by decide)).mono ?_
      rintro e w6 ⟨v, rfl, hv, hb⟩
      obtain rfl : v = .nilIface := hv
      have HE := Lib.hid (HE.out.next C (K.out.b.trans (hb.mono K.out.b.size)))
      clear hb K
      go_wp2_with fail
      refine (works_u C w6 HE.out.g).mono ?_
      rintro e w7 ⟨rfl, hb⟩
      have HE := Lib.hid (HE.out.next C hb)
      clear hb
      go_wp2_with fail
      refine (C.new [196, 3, 97, 98, 99] 2 w7 HE.out.g (by decide) (by decide) (by decide)).mono ?_
      rintro e w8 ⟨b1, hlo1, rfl, hr1, hb1⟩
      go_wp2_with fail
      refine (C.new [162, 97] 9 w8 (C.gb HE.out.g hb1) (by decide) (by decide) (by decide)).mono ?_
      rintro e w9 ⟨b2, hlo2, rfl, hr2, hb2⟩
      have hl1 := C.lt hr1
      have hl2 := C.lt hr2
      have hr1 := C.keep hr1 (Only.of_below (b := w8.heap.size) hb2) (by omega)
      have hb9 := hb1.trans (hb2.mono hb1.size)
      have hg9 := C.gb HE.out.g hb9
      have X := Lib.hid (And.intro hr1 (And.intro hr2 (And.intro hb9 (And.intro hg9 (And.intro hl2 (And.intro hlo1 (And.intro (show w7.heap.size ≤ b2 by have := hb1.size; omega) (show b1 ≠ b2 by omega))))))))
      clear hr1 hr2 hb9 hg9 hl1 hl2 hlo1 hlo2 hb1 hb2
      go_wp2_with fail
      refine (C.bin b1 [196, 3, 97, 98, 99] 0 _ w9 X.out.1 X.out.2.2.2.1 (by decide) (by decide)).mono ?_
      rw [show takeP (([196, 3, 97, 98, 99] : List UInt8).drop 0) (max (2 : Int) 0).toNat 1 = ⟨0, [], 3, 0⟩ by kernel_rfl]
      rintro e w10 ⟨f, rfl, hf, _, ho1⟩
      obtain ⟨f, rfl⟩ := hf.iface (by decide)
      have hb10 := X.out.2.2.1.trans (ho1.below X.out.2.2.2.2.2.1 X.out.2.2.1.size)
      have hr2 := C.keep X.out.2.1 ho1 X.out.2.2.2.2.2.2.2
      have Y := Lib.hid (And.intro hr2 (And.intro hb10 (And.intro (C.gb HE.out.g hb10) hf)))
      clear hf ho1 hb10 hr2
      go_wp2_with fail
      refine (C.str b2 [162, 97] 0 _ w10 Y.out.1 Y.out.2.2.1 (by decide) (by decide)).mono ?_
      rw [show takeP (([162, 97] : List UInt8).drop 0) (max (9 : Int) 0).toNat 2 = ⟨0, [], 4, 0⟩ by kernel_rfl]
      rintro e w11 ⟨g, rfl, hg, _, ho2⟩
      obtain ⟨g, rfl⟩ := hg.iface (by decide)
      have hb11 := Y.out.2.1.trans (ho2.below X.out.2.2.2.2.2.2.1 Y.out.2.1.size)
      have hf := Y.out.2.2.2.only ho2 X.out.2.2.2.2.1
      have HE := Lib.hid (((HE.out.next C hb11).push hf).push hg)
      clear hf hg hb11 ho2 X Y
      go_wp2_with fail
      refine (C.new [217, 31, 49, 50, 51, 52, 53, 54, 55, 56, 57, 48, 49, 50, 51, 52, 53, 54, 55, 56, 57, 48, 49, 50, 51, 52, 53, 54, 55, 56, 57, 48, 49] 99 _ HE.out.g (by decide) (by decide) (by decide)).mono ?_
      rintro e wx ⟨b, hlo, rfl, hr, hb⟩
      have K := Lib.hid (New1.mk hr hlo hb)
      clear hr hlo hb
      go_wp2_with fail
      refine (C.str b [217, 31, 49, 50, 51, 52, 53, 54, 55, 56, 57, 48, 49, 50, 51, 52, 53, 54, 55, 56, 57, 48, 49, 50, 51, 52, 53, 54, 55, 56, 57, 48, 49] 0 _ wx K.out.r (C.gb HE.out.g K.out.b) (by decide) (by decide)).mono ?_
      rw [show takeP (([217, 31, 49, 50, 51, 52, 53, 54, 55, 56, 57, 48, 49, 50, 51, 52, 53, 54, 55, 56, 57, 48, 49, 50, 51, 52, 53, 54, 55, 56, 57, 48, 49] : List UInt8).drop 0) (max (99 : Int) 0).toNat 2 = ⟨0, [], 5, 0⟩ by kernel_rfl]
      rintro e wy ⟨h, rfl, hv, hr, ho⟩
      obtain ⟨h, rfl⟩ := hv.iface (by decide)
      have HE := Lib.hid ((HE.out.next C (K.out.only hr ho).b).push hv)
      clear hr ho hv K
      go_wp2_with fail
      refine (C.new [220, 0, 15] 99 _ HE.out.g (by decide) (by decide) (by decide)).mono ?_
      rintro e wx ⟨b, hlo, rfl, hr, hb⟩
      have K := Lib.hid (New1.mk hr hlo hb)
      clear hr hlo hb
      go_wp2_with fail
      refine (C.list b [220, 0, 15] 0 _ wx K.out.r (C.gb HE.out.g K.out.b) (by decide) (by decide)).mono ?_
      rw [show takeP (([220, 0, 15] : List UInt8).drop 0) (max (99 : Int) 0).toNat 3 = ⟨0, [], 5, 0⟩ by kernel_rfl]
      rintro e wy ⟨i, rfl, hv, hr, ho⟩
      obtain ⟨i, rfl⟩ := hv.iface (by decide)
      have HE := Lib.hid ((HE.out.next C (K.out.only hr ho).b).push hv)
      clear hr ho hv K
      go_wp2_with fail
      refine (C.new [222, 0] 99 _ HE.out.g (by decide) (by decide) (by decide)).mono ?_
      rintro e wx ⟨b, hlo, rfl, hr, hb⟩
      have K := Lib.hid (New1.mk hr hlo hb)
      clear hr hlo hb
      go_wp2_with fail
      refine (C.map b [222, 0] 0 _ wx K.out.r (C.gb HE.out.g K.out.b) (by decide) (by decide)).mono ?_
      rw [show takeP (([222, 0] : List UInt8).drop 0) (max (99 : Int) 0).toNat 4 = ⟨0, [], 4, 0⟩ by kernel_rfl]
      rintro e wy ⟨j, rfl, hv, hr, ho⟩
      obtain ⟨j, rfl⟩ := hv.iface (by decide)
      have HE := Lib.hid ((HE.out.next C (K.out.only hr ho).b).push hv)
      clear hr ho hv K
      go_wp2_with fail
      refine (N.num _).mono ?_
      rintro e wx ⟨kk, rfl, hv, hb⟩
      obtain ⟨kk, rfl⟩ := hv.iface (by decide)
      have HE := Lib.hid ((HE.out.next C hb).push hv)
      clear hv hb
      go_wp2_with fail
      refine (N.str _).mono ?_
      rintro e wy ⟨m, rfl, hv, hb⟩
      obtain ⟨m, rfl⟩ := hv.iface (by decide)
      have HE := Lib.hid ((HE.out.next C hb).push hv)
      clear hv hb
      go_upto_region 27 with fail
      have HE := Lib.hid (HE.out.next C (by0 wy (.cells #[.int .i64 3, .int .i64 4, .int .i64 5, .int .i64 5, .int .i64 4, .int .i64 1, .int .i64 1, .int .i64 1] 34)))
      have HW := Lib.hid (heap_alloc_new wy (.cells #[.int .i64 3, .int .i64 4, .int .i64 5, .int .i64 5, .int .i64 4, .int .i64 1, .int .i64 1, .int .i64 1] 34))
      generalize wy.alloc (.cells #[.int .i64 3, .int .i64 4, .int .i64 5, .int .i64 5, .int .i64 4, .int .i64 1, .int .i64 1, .int .i64 1] 34) = wz at *
      generalize wy.heap.size = wb at *
      go_wp2_with fail
      refine (N.fin _).mono ?_
      rintro e wf ⟨z, rfl, hv, hb⟩
      obtain ⟨z, rfl⟩ := hv.iface (by decide)
      have HE := Lib.hid ((HE.out.next C hb).push hv)
      have HW := Lib.hid ((hb.block _ (lit_lt HW.out)).trans HW.out)
      clear hv hb
      go_wp2_with fail
      obtain ⟨l, hl⟩ : ∃ l : List (Int × Value), l = [(3, .iface 61 (.pointer (some ⟨f, 0, none⟩))), (4, .iface 61 (.pointer (some ⟨g, 0, none⟩))), (5, .iface 61 (.pointer (some ⟨h, 0, none⟩))), (5, .iface 61 (.pointer (some ⟨i, 0, none⟩))), (4, .iface 61 (.pointer (some ⟨j, 0, none⟩))), (1, .iface 61 (.pointer (some ⟨kk, 0, none⟩))), (1, .iface 61 (.pointer (some ⟨m, 0, none⟩))), (1, .iface 61 (.pointer (some ⟨z, 0, none⟩)))] := ⟨_, rfl⟩
      have HE : Hid (Er G w l wf) := Lib.hid (hl ▸ HE.out)
      have HW : Hid (wf.heap[wb]? = some (.cells (l.map fun p => Value.int .i64 p.1).toArray 34 (0, 0))) := Lib.hid (by rw [hl]; exact HW.out)
      have HL8 := Lib.hid (show l.length = 8 by rw [hl]; rfl)
      have hcs : (#[.iface 61 (.pointer (some ⟨f, 0, none⟩)), .iface 61 (.pointer (some ⟨g, 0, none⟩)), .iface 61 (.pointer (some ⟨h, 0, none⟩)), .iface 61 (.pointer (some ⟨i, 0, none⟩)), .iface 61 (.pointer (some ⟨j, 0, none⟩)), .iface 61 (.pointer (some ⟨kk, 0, none⟩)), .iface 61 (.pointer (some ⟨m, 0, none⟩)), .iface 61 (.pointer (some ⟨z, 0, none⟩))] : Array Value) = (l.map (·.2)).toArray := by rw [hl]; rfl
      rw [hcs]
      have HV := Lib.hid (heap_alloc_new wf (.cells (l.map (·.2)).toArray 31))
      have HE := Lib.hid (HE.out.next C (by0 wf (.cells (l.map (·.2)).toArray 31)))
      have HW := Lib.hid (lit_old (.cells (l.map (·.2)).toArray 31) HW.out)
      clear hcs hl
      generalize wf.alloc (.cells (l.map (·.2)).toArray 31) = wg at *
      generalize wf.heap.size = eb at *
      go_loopw [179] (fun i wr => ∃ k : Nat, k ≤ 8 ∧ i = .int .i64 (k : Int) ∧ Hid (Er G w l wr) ∧ Hid (wr.heap[wb]? = some (.cells (l.map fun p => Value.int .i64 p.1).toArray 34 (0, 0))) ∧ Hid (wr.heap[eb]? = some (.cells (l.map (·.2)).toArray 31 (0, 0))))
        (fun i _ => 8 - (intOf i).toNat)
      case atStart => exact ⟨0, Nat.zero_le _, rfl, HE, HW, HV⟩
      case round =>
        clear HE HW HV
        obtain ⟨k2, hk2, rfl, HE, HW, HV⟩ := hrel
        by_cases hlt : k2 < 8
        · have hkl : k2 < l.length := by rw [HL8.out]; exact hlt
          have c0 := (lit_cell HW.out k2).trans (map_at l _ k2 hkl)
          have c1 := (lit_cell HV.out k2).trans (map_at l _ k2 hkl)
          have hev := HE.out.e l[k2] (List.getElem_mem hkl)
          generalize l[k2] = p at *
          obtain ⟨c, v⟩ := p
          simp only at c0 c1 hev
          have HF := Lib.hid (fault0 C c v wr HE.out.g hev)
          have j1 : (k2 : Int) < 8 := by omega
          have j0 : (0 : Int) ≤ (k2 : Int) := by omega
          have HLT := Lib.hid hlt
          clear hev hkl hlt hk2
          go_wp2_with fail
          refine HF.out.mono ?_
          rintro e wh ⟨rfl, hb⟩
          have HE3 := Lib.hid (HE.out.next C hb)
          have HW3 := Lib.hid ((hb.block _ (lit_lt HW.out)).trans HW.out)
          have HV3 := Lib.hid ((hb.block _ (lit_lt HV.out)).trans HV.out)
          have c2 := (hb.cell (p := ⟨wb, k2, none⟩) (lit_lt HW.out)).trans c0
          clear hb c0 c1 HE HW HV HF
          go_wp2
          go_roundw
          case rel => exact ⟨k2 + 1, by have := HLT.out; omega, by go_num, HE3, HW3, HV3⟩
          case measure => have := HLT.out; simp [intOf] <;> omega
        · have j1 : ¬ (k2 : Int) < 8 := by omega
          clear hlt hk2 HW HV
          go_wp2_with fail
          refine (C.new [207, 255, 255, 255, 255, 255, 255, 255, 255] (-5) _ HE.out.g (by decide) (by decide) (by decide)).mono ?_
          rintro e wx ⟨b, hlo, rfl, hr, hb⟩
          have K := Lib.hid (New1.mk hr hlo hb)
          clear hr hlo hb
          go_wp2_with fail
          refine (C.num b [207, 255, 255, 255, 255, 255, 255, 255, 255] 0 _ wx K.out.r (C.gb HE.out.g K.out.b) (by decide) (by decide)).mono ?_
          rw [show takeP (([207, 255, 255, 255, 255, 255, 255, 255, 255] : List UInt8).drop 0) (max (-5 : Int) 0).toNat 0 = ⟨18446744073709551615, [], 0, 9⟩ by kernel_rfl]
          rintro e wy ⟨v, rfl, hv, hr, ho⟩
          obtain rfl : v = .nilIface := hv
          have HE := Lib.hid (HE.out.next C (K.out.only hr ho).b)
          clear hr ho K
          go_wp2_with fail
          refine (C.new [196, 0] (-5) _ HE.out.g (by decide) (by decide) (by decide)).mono ?_
          rintro e wx ⟨b, hlo, rfl, hr, hb⟩
          have K := Lib.hid (New1.mk hr hlo hb)
          clear hr hlo hb
          go_wp2_with fail
          refine (C.bin b [196, 0] 0 _ wx K.out.r (C.gb HE.out.g K.out.b) (by decide) (by decide)).mono ?_
          rw [show takeP (([196, 0] : List UInt8).drop 0) (max (-5 : Int) 0).toNat 1 = ⟨0, [], 0, 2⟩ by kernel_rfl]
          rintro e wy ⟨v, rfl, hv, hr, ho⟩
          obtain rfl : v = .nilIface := hv
          have HE := Lib.hid (HE.out.next C (K.out.only hr ho).b)
          clear hr ho K
          have hbe := HE.out.b
          go_wp2
          go_ret
          exact ⟨rfl, hbe⟩
end Go.Proofs.YtefhjncoakgbkaaDoor
