/- The law's is; its examples. -/
import Derived.Test.YtgdlfbphfogphaaDoorPm
import Derived.Deep.RegionHeld3
import Derived.Deep.Cut
import Derived.Deep.RegionWith
namespace Go.Proofs.YtgdlfbphfogphaaDoor
open Go.RowKit

set_option maxRecDepth 100000 in
set_option maxHeartbeats 2000000 in
theorem pis_true0 {G : World → Prop} {Wr : Nat → Nat → List UInt8 → World → Prop} (C : PackC G Wr) (s : Int) (n : Nat) (S W : List UInt8) (w : World) (hn : n < 18446744073709551616) (hS : S.length ≤ 9223372036854775807) (h : laidP s n (textP S 0) = (W, 0)) (hG : G w) :
    Calls Tryd.prog 25 #[.int .i64 s, .int .u64 (n : Int), .string ⟨S.toArray⟩, .string ⟨W.toArray⟩] w fun e w' => e = .returned (.bool true) ∧ Below w.heap.size w w' := by
  have HL := Lib.hid (fun w (hG : G w) => plaid_any C s n S 0 w hn hS (by decide) hG)
  rw [h] at HL
  clear h hn hS
  go_enter Tryd.func25, Tryd.ntmps25
  go_wp2_with fail
  refine (HL.out _ hG).mono ?_
  rintro e w1 ⟨rfl, hb⟩
  go_wp2
  go_ret
  exact ⟨rfl, hb⟩

theorem pis_true {G : World → Prop} {Wr : Nat → Nat → List UInt8 → World → Prop} (C : PackC G Wr) (s : Int) (n : Nat) (S W : List UInt8) (w : World) (i : Int) (a1 a2 : ByteArray) (hi : i = (n : Int)) (h1 : a1 = ⟨S.toArray⟩) (h2 : a2 = ⟨W.toArray⟩) (hn : n < 18446744073709551616) (hS : S.length ≤ 9223372036854775807) (h : laidP s n (textP S 0) = (W, 0)) (hG : G w) :
    Calls Tryd.prog 25 #[.int .i64 s, .int .u64 i, .string a1, .string a2] w fun e w' => e = .returned (.bool true) ∧ Below w.heap.size w w' := by
  subst hi h1 h2
  exact pis_true0 C s n S W w hn hS h hG
/-- so many noughts, made and read as a text -/
theorem make_zeros (n : Nat) (hn : n ≤ 100000000) : ∃ M : Array Value, (∀ w : World, (Instr.makeSlice 48 (.int .i64 (n : Int)) (.int .i64 (n : Int))).run Tryd.prog w = .ok (.slice (some ⟨w.heap.size, 0, none⟩) n n) (w.alloc (.cells M 5))) ∧
    ∀ (w : World) (g : Nat), w.heap[g]? = some (.cells M 5 (0, 0)) → (convert 48 9 (.slice (some ⟨g, 0, none⟩) n n)).run Tryd.prog w = .ok (.string ⟨(List.replicate n (0 : UInt8)).toArray⟩) w := by
  obtain ⟨i0, hi, hz0, hz1, hz2⟩ := info_parts Tryd.info5
  refine ⟨madeCells #[.int .u8 0] n, fun w => ?_, fun w g hg => ?_⟩
  · have hr := run_make (P := Tryd.prog) w 48 5 i0 (.int .u8 0) Tryd.underlying48 hi hz0 .i64 .i64 n n (by omega) (Int.le_refl _) (by rw [hz2]; omega) (by omega)
    simp only [Int.toNat_natCast, hz1, Nat.mul_one] at hr
    exact hr
  · have k := run_convert_bytes_back (P := Tryd.prog) w 48 9 5 ⟨g, 0, none⟩ n (List.replicate n 0) Tryd.underlying48 Tryd.underlying5 Tryd.underlying9 (fun j hj => by
      rw [List.length_replicate] at hj
      rw [Addr.add_mid, Nat.zero_add, cell_of_row _ _ _ _ 5 _ hg, ← Array.getElem?_toList, toList_madeCells_one, List.getElem?_replicate, if_pos hj, List.getElem_replicate]
      rfl)
    rw [List.length_replicate] at k
    exact k
structure Wx (Wr : Nat → Nat → List UInt8 → World → Prop) (w0 : World) (B b : Nat) (L : List UInt8) (wz : World) : Prop where
  hW : Wr B b L wz
  hb : Below w0.heap.size w0 wz
theorem Wx.next {G : World → Prop} {Wr : Nat → Nat → List UInt8 → World → Prop} (C : PackC G Wr) {w0 wz wa : World} {B b : Nat} {L : List UInt8} (h : Wx Wr w0 B b L wz) (hb : Below wz.heap.size wz wa) : Wx Wr w0 B b L wa := ⟨C.next h.hW hb, h.hb.trans (hb.mono h.hb.size)⟩
theorem Wx.drew {G : World → Prop} {Wr : Nat → Nat → List UInt8 → World → Prop} (C : PackC G Wr) {w0 wz : World} {B b : Nat} {L : List UInt8} (h : Wx Wr w0 B b L wz) : Wx Wr w0 B b L wz.drew := h.next C (Below.refl _ _).drew
def RepeatC : Prop := ∀ (c : UInt8) (k : Nat) w, k ≤ 1000 → Calls Tryd.prog 24 #[.string ⟨#[c]⟩, .int .i64 (k : Int)] w fun e w' => e = .returned (.string ⟨(List.replicate k c).toArray⟩) ∧ Below w.heap.size w w'

set_option maxRecDepth 100000 in
set_option maxHeartbeats 4000000 in
theorem works_c {G : World → Prop} {Wr : Nat → Nat → List UInt8 → World → Prop} (C : PackC G Wr) (HR : RepeatC) : WorksC G := by
  intro w hG
  have HRP := Lib.hid (fun w => HR 97 32 w (by decide))
  clear HR
  go_enter Tryd.func14, Tryd.ntmps14
  try simp only [List.append_eq, List.cons_append, List.nil_append]
  go_wp2_with fail
  refine (HRP.out _).mono ?_
  rintro e w1 ⟨rfl, b1⟩
  generalize hA : List.replicate 32 (97 : UInt8) = A
  have HA := Lib.hid hA
  clear hA HRP
  go_wp2_with fail
  refine (C.new _ (C.gb hG b1)).mono ?_
  rintro e w2 ⟨b, rfl, hW, b2⟩
  have z1 := b1.size
  have b3 := b1.trans (b2.mono b1.size)
  have HW := Lib.hid hW
  generalize w1.heap.size = B at *
  clear hW b1 b2
  go_upto_region 5 with (fail)
  have HL := Lib.hid (show ∀ wz, Wr B b [] wz → Calls Tryd.prog 20 #[.pointer (some ⟨b, 0, none⟩), .int .i64 (-1)] wz (fun e w' => e = .returned (.int .i64 2) ∧ Below wz.heap.size wz w') from fun wz h => (C.list B b [] (-1) wz h (by decide) (by decide) (by decide)).mono fun e w' ⟨h1, _, _, h4⟩ => ⟨h1, h4 (by decide)⟩)
  have HM := Lib.hid (show ∀ wz, Wr B b [] wz → Calls Tryd.prog 21 #[.pointer (some ⟨b, 0, none⟩), .int .i64 65536] wz (fun e w' => e = .returned (.int .i64 3) ∧ Below wz.heap.size wz w') from fun wz h => (C.map B b [] 65536 wz h (by decide) (by decide) (by decide)).mono fun e w' ⟨h1, _, _, h4⟩ => ⟨h1, h4 (by decide)⟩)
  obtain ⟨M, hmk0, hcvr0⟩ := make_zeros 65536 (by decide)
  obtain ⟨Z, hZ⟩ : ∃ Z, List.replicate 65536 (0 : UInt8) = Z := ⟨_, rfl⟩
  rw [hZ] at hcvr0
  have hcv0 := fun w : World => hcvr0 (w.alloc (.cells M 5)) w.heap.size (heap_alloc_new w _)
  have hZl : Z.length = 65536 := by rw [← hZ, List.length_replicate]
  have hZ3 : laidP 2 0 Z = ([], 3) := by rw [laidP, if_neg (by decide), if_pos (.inr rfl), if_pos (by omega)]
  have hmk : ∀ w : World, (Instr.makeSlice 48 (.int .i64 65536) (.int .i64 65536)).run Tryd.prog w = .ok (.slice (some ⟨w.heap.size, 0, none⟩) 65536 65536) (w.alloc (.cells M 5)) := hmk0
  have hcv : ∀ w : World, (convert 48 9 (.slice (some ⟨w.heap.size, 0, none⟩) 65536 65536)).run Tryd.prog (w.alloc (.cells M 5)) = .ok (.string ⟨Z.toArray⟩) (w.alloc (.cells M 5)) := hcv0
  have hcvd : ∀ w : World, (convert 48 9 (.slice (some ⟨w.heap.size, 0, none⟩) 65536 65536)).run Tryd.prog (w.drew.alloc (.cells M 5)) = .ok (.string ⟨Z.toArray⟩) (w.drew.alloc (.cells M 5)) := fun w => hcv0 w.drew
  have hcve : ∀ w : World, (convert 48 9 (.slice (some ⟨w.heap.size, 0, none⟩) 65536 65536)).run Tryd.prog (w.alloc (.cells M 5)).drew = .ok (.string ⟨Z.toArray⟩) (w.alloc (.cells M 5)).drew := fun w => hcv0 w.drew
  have hcvn : ∀ w0 wz : World, Below (w0.alloc (.cells M 5)).heap.size (w0.alloc (.cells M 5)) wz → (convert 48 9 (.slice (some ⟨w0.heap.size, 0, none⟩) 65536 65536)).run Tryd.prog wz = .ok (.string ⟨Z.toArray⟩) wz := fun w0 wz h => hcvr0 _ _ (prow_below (heap_alloc_new w0 _) h (prow_lt (heap_alloc_new w0 _)))
  have hcvm : ∀ w0 wz : World, Below (w0.drew.alloc (.cells M 5)).heap.size (w0.drew.alloc (.cells M 5)) wz → (convert 48 9 (.slice (some ⟨w0.heap.size, 0, none⟩) 65536 65536)).run Tryd.prog wz = .ok (.string ⟨Z.toArray⟩) wz := fun w0 wz h => hcvn w0.drew wz h
  have hcvk : ∀ w0 wz : World, Below (w0.alloc (.cells M 5)).drew.heap.size (w0.alloc (.cells M 5)).drew wz → (convert 48 9 (.slice (some ⟨w0.heap.size, 0, none⟩) 65536 65536)).run Tryd.prog wz = .ok (.string ⟨Z.toArray⟩) wz := fun w0 wz h => hcvn w0.drew wz h
  have HS := Lib.hid (show ∀ wz, Wr B b [] wz → Calls Tryd.prog 23 #[.pointer (some ⟨b, 0, none⟩), .string ⟨Z.toArray⟩] wz (fun e w' => e = .returned (.int .i64 3) ∧ Below wz.heap.size wz w') from fun wz h => by
    have k := C.str B b [] Z wz h (by decide) (by omega)
    rw [hZ3] at k
    exact k.mono fun e w' ⟨h1, _, _, h4⟩ => ⟨h1, h4 (by decide)⟩)
  clear hmk0 hcv0 hcvr0 hZ hZl hZ3
  have X0 := Lib.hid (Wx.mk HW.out b3 : Wx Wr w B b [] w2)
  have zB : w.heap.size ≤ B := z1
  go_cut [3, 4, 5] from 10 (fun s3 s4 s5 wx => s3 = .int .i64 2 ∧ s4 = .int .i64 3 ∧ s5 = .int .i64 3 ∧ Wx Wr w B b [] wx)
  case first =>
    go_region_with (first
      | (go_at_call 20; with_reducible refine (HL.out _ (Wx.hW (by first | (with_reducible assumption) | (with_reducible exact X0.out) | (with_reducible exact X0.out.drew C) | (with_reducible exact X0.out.next C (by0 _ _)) | (with_reducible exact (X0.out.drew C).next C (by0 _ _)) | (with_reducible exact (X0.out.next C (by0 _ _)).drew C)))).mono ?_; rintro e wa ⟨rfl, hb1⟩; have hSa := Wx.next C (by first | (with_reducible assumption) | (with_reducible exact X0.out) | (with_reducible exact X0.out.drew C) | (with_reducible exact X0.out.next C (by0 _ _)) | (with_reducible exact (X0.out.drew C).next C (by0 _ _)) | (with_reducible exact (X0.out.next C (by0 _ _)).drew C)) hb1; (try (have hv1 := hcvn _ _ hb1)); (try (have hv2 := hcvm _ _ hb1)); (try (have hv6 := hcvk _ _ hb1)))
      | (go_at_call 21; with_reducible refine (HM.out _ (Wx.hW (by first | (with_reducible exact hSa) | (with_reducible exact hSa.next C (by0 _ _))))).mono ?_; rintro e wb ⟨rfl, hb2⟩; have hSb := Wx.next C (by first | (with_reducible exact hSa) | (with_reducible exact hSa.next C (by0 _ _))) hb2; (try (have hv3 := hcvn _ _ hb2)); (try (have hv4 := hcvn _ _ (Below.trans hb1 (Below.mono hb2 hb1.size)))); (try (have hv5 := hcvm _ _ (Below.trans hb1 (Below.mono hb2 hb1.size)))); (try (have hv7 := hcvk _ _ (Below.trans hb1 (Below.mono hb2 hb1.size)))))
      | (go_at_call 23; with_reducible refine (HS.out _ (Wx.hW (by first | (with_reducible exact hSb) | (with_reducible exact hSb.next C (by0 _ _))))).mono ?_; rintro e wc ⟨rfl, hb3⟩; have hSc := Wx.next C (by first | (with_reducible exact hSb) | (with_reducible exact hSb.next C (by0 _ _))) hb3))
    all_goals
      go_wp2_with fail
      go_meet
      case rel => exact ⟨rfl, rfl, rfl, hSc⟩
  case rest =>
  obtain ⟨rfl, rfl, rfl, hX⟩ := hcut
  have HX := Lib.hid hX
  clear hX hmk hcv hcvd hcve hcvn hcvm hcvk HL HM HS X0 HW b3
  have HAl := Lib.hid (show A.length ≤ 9223372036854775807 by rw [← HA.out]; decide)
  have HAW := Lib.hid (show laidP 2 0 (textP A 0) = (217 :: 32 :: A, 0) by rw [← HA.out]; decide +kernel)
  have hcat := run_cat [217, 32] A (by rw [← HA.out]; decide)
  go_wp2_with fail
  refine (pis_true C 0 127 [] [127] _ _ _ _ rfl rfl rfl (by decide) (by decide) (by decide +kernel) (C.gb hG HX.out.hb)).mono ?_
  rintro e wx ⟨rfl, hb⟩
  have HX := Lib.hid (HX.out.next C hb)
  clear hb
  go_wp2_with fail
  refine (pis_true C 0 128 [] [204, 128] _ _ _ _ rfl rfl rfl (by decide) (by decide) (by decide +kernel) (C.gb hG HX.out.hb)).mono ?_
  rintro e wx ⟨rfl, hb⟩
  have HX := Lib.hid (HX.out.next C hb)
  clear hb
  go_wp2_with fail
  refine (pis_true C 0 256 [] [205, 1, 0] _ _ _ _ rfl rfl rfl (by decide) (by decide) (by decide +kernel) (C.gb hG HX.out.hb)).mono ?_
  rintro e wx ⟨rfl, hb⟩
  have HX := Lib.hid (HX.out.next C hb)
  clear hb
  go_wp2_with fail
  refine (pis_true C 0 65536 [] [206, 0, 1, 0, 0] _ _ _ _ rfl rfl rfl (by decide) (by decide) (by decide +kernel) (C.gb hG HX.out.hb)).mono ?_
  rintro e wx ⟨rfl, hb⟩
  have HX := Lib.hid (HX.out.next C hb)
  clear hb
  go_wp2_with fail
  refine (pis_true C 0 4294967296 [] [207, 0, 0, 0, 1, 0, 0, 0, 0] _ _ _ _ rfl rfl rfl (by decide) (by decide) (by decide +kernel) (C.gb hG HX.out.hb)).mono ?_
  rintro e wx ⟨rfl, hb⟩
  have HX := Lib.hid (HX.out.next C hb)
  clear hb
  go_wp2_with fail
  refine (pis_true C 1 0 [97, 98, 99] [196, 3, 97, 98, 99] _ _ _ _ rfl rfl rfl (by decide) (by decide) (by decide +kernel) (C.gb hG HX.out.hb)).mono ?_
  rintro e wx ⟨rfl, hb⟩
  have HX := Lib.hid (HX.out.next C hb)
  clear hb
  go_wp2_with fail
  refine (pis_true C 2 0 [97, 98] [162, 97, 98] _ _ _ _ rfl rfl rfl (by decide) (by decide) (by decide +kernel) (C.gb hG HX.out.hb)).mono ?_
  rintro e wx ⟨rfl, hb⟩
  have HX := Lib.hid (HX.out.next C hb)
  clear hb
  go_wp2_with fail
  refine (pis_true C 2 0 A (217 :: 32 :: A) _ _ _ _ rfl rfl rfl (by decide) HAl.out HAW.out (C.gb hG HX.out.hb)).mono ?_
  rintro e wx ⟨rfl, hb⟩
  have HX := Lib.hid (HX.out.next C hb)
  clear hb
  go_wp2_with fail
  refine (pis_true C 3 3 [] [147] _ _ _ _ rfl rfl rfl (by decide) (by decide) (by decide +kernel) (C.gb hG HX.out.hb)).mono ?_
  rintro e wx ⟨rfl, hb⟩
  have HX := Lib.hid (HX.out.next C hb)
  clear hb
  go_wp2_with fail
  refine (pis_true C 3 16 [] [220, 0, 16] _ _ _ _ rfl rfl rfl (by decide) (by decide) (by decide +kernel) (C.gb hG HX.out.hb)).mono ?_
  rintro e wx ⟨rfl, hb⟩
  have HX := Lib.hid (HX.out.next C hb)
  clear hb
  go_wp2_with fail
  refine (pis_true C 4 15 [] [143] _ _ _ _ rfl rfl rfl (by decide) (by decide) (by decide +kernel) (C.gb hG HX.out.hb)).mono ?_
  rintro e wx ⟨rfl, hb⟩
  have HX := Lib.hid (HX.out.next C hb)
  clear hb
  go_wp2_with fail
  refine (pis_true C 4 16 [] [222, 0, 16] _ _ _ _ rfl rfl rfl (by decide) (by decide) (by decide +kernel) (C.gb hG HX.out.hb)).mono ?_
  rintro e wx ⟨rfl, hb⟩
  have HX := Lib.hid (HX.out.next C hb)
  clear hb
  go_wp2_with fail
  refine (C.len B b [] _ HX.out.hW (by decide)).mono ?_
  rintro e wx ⟨rfl, hb⟩
  have HX := Lib.hid (HX.out.next C hb)
  clear hb
  go_wp2_with fail
  refine (C.text B b [] _ HX.out.hW (by decide)).mono ?_
  rintro e wx ⟨rfl, hb⟩
  have HX := Lib.hid (HX.out.next C hb)
  clear hb
  go_wp2_with fail
  go_ret
  exact ⟨rfl, HX.out.hb⟩
end Go.Proofs.YtgdlfbphfogphaaDoor
