/- PackRises: its walk, given what the writer does and that the examples hold. -/
import Derived.Test.YtgdlfbphfogphaaDoorPl
namespace Go.Proofs.YtgdlfbphfogphaaDoor
open Go.RowKit

def WorksC (G : World → Prop) : Prop := ∀ w, G w → Calls Tryd.prog 14 #[] w fun e w' => e = .returned (.bool true) ∧ Below w.heap.size w w'
theorem num_laid {G : World → Prop} {Wr : Nat → Nat → List UInt8 → World → Prop} (C : PackC G Wr) (a : Nat) (ha : a < 18446744073709551616) (w : World) (hG : G w) :
    Calls Tryd.prog 17 #[.agg #[.int .i64 0, .int .u64 (a : Int), .string ⟨#[]⟩, .int .u32 0]] w fun e w' => e = .returned (.tuple #[.string ⟨(numP a).toArray⟩, .bool true]) ∧ Below w.heap.size w w' :=
  plaid_any C 0 a [] 0 w ha (by decide) (by decide) hG
theorem numP_inj {a b : Nat} (ha : a < 18446744073709551616) (hb : b < 18446744073709551616) (h : numP a = numP b) : a = b := by
  have k := laidP_apart 0 0 a b [] [] (.inl rfl) (.inl rfl) (by unfold okP; rw [if_pos rfl]; trivial) (by unfold okP; rw [if_pos rfl]; trivial) ha hb (by rw [laidP_num, laidP_num]; show numP a <+: numP b; rw [h]; exact List.prefix_refl _)
  have k2 := k.2
  rwa [if_neg (by decide)] at k2
theorem numP_eq (a b : Nat) (ha : a < 18446744073709551616) (hb : b < 18446744073709551616) : (numP a == numP b) = ((a : Int) == (b : Int)) := by
  rw [Bool.eq_iff_iff, beq_iff_eq, beq_iff_eq]
  exact ⟨fun h => by rw [numP_inj ha hb h], fun h => by rw [show a = b by omega]⟩
theorem numP_size (a : Nat) : (numP a).length = if a < 128 then 1 else if a < 256 then 2 else if a < 65536 then 3 else if a < 4294967296 then 5 else 9 := by
  unfold numP
  repeat' split
  all_goals simp [be_length]

set_option maxRecDepth 100000 in
set_option maxHeartbeats 4000000 in
theorem rises_any {G : World → Prop} {Wr : Nat → Nat → List UInt8 → World → Prop} (C : PackC G Wr) (HW : WorksC G) (a b : Nat) (w : World) (ha : a < 18446744073709551616) (hb : b < 18446744073709551616) (hG : G w) :
    Calls Tryd.prog 6 #[.int .u64 (a : Int), .int .u64 (b : Int)] w fun e w' => e = .returned (.bool true) ∧ Below w.heap.size w w' := by
  have HA := Lib.hid (num_laid C a ha)
  have HB := Lib.hid (num_laid C b hb)
  have hlt : Op.bytesLess (numP a) (numP b) = decide ((a : Int) < (b : Int)) := by rw [numP_less a b ha hb]; exact decide_eq_decide.2 (by omega)
  have heq := numP_eq a b ha hb
  have hsz := numP_size a
  generalize numP a = A at *
  generalize numP b = D at *
  have HWK := Lib.hid HW
  have HSZ := Lib.hid hsz
  clear ha hb HW hsz
  go_enter Tryd.func6, Tryd.ntmps6
  go_wp2_with fail
  refine (HWK.out _ hG).mono ?_
  rintro e w1 ⟨rfl, b1⟩
  go_wp2_with fail
  refine (HA.out _ (C.gb hG b1)).mono ?_
  rintro e w2 ⟨rfl, b2⟩
  go_wp2_with fail
  refine (HB.out _ (C.gb hG (b1.trans (b2.mono b1.size)))).mono ?_
  rintro e w3 ⟨rfl, b3⟩
  have b4 := b1.trans ((b2.mono b1.size).trans (b3.mono (Nat.le_trans b1.size b2.size)))
  clear b1 b2 b3
  by_cases h0 : a < 128
  · have i0 : (a : Int) < 128 := by omega
    have hl : A.length = 1 := by rw [HSZ.out, if_pos h0]
    clear h0
    go_wp2
    go_ret
    exact ⟨rfl, b4⟩
  · have i0 : ¬ (a : Int) < 128 := by omega
    by_cases h1 : a < 256
    · have i1 : (a : Int) < 256 := by omega
      have hl : A.length = 2 := by rw [HSZ.out, if_neg h0, if_pos h1]
      clear h0 h1
      go_wp2
      go_ret
      exact ⟨rfl, b4⟩
    · have i1 : ¬ (a : Int) < 256 := by omega
      by_cases h2 : a < 65536
      · have i2 : (a : Int) < 65536 := by omega
        have hl : A.length = 3 := by rw [HSZ.out, if_neg h0, if_neg h1, if_pos h2]
        have d0 : decide ((a : Int) < 128) = false := decide_eq_false (by omega)
        have d1 : decide ((a : Int) < 256) = false := decide_eq_false (by omega)
        have d2 : decide ((a : Int) < 65536) = true := decide_eq_true (by omega)
        clear h0 h1 h2 i0 i1 i2
        go_wp2
        go_ret
        exact ⟨rfl, b4⟩
      · have i2 : ¬ (a : Int) < 65536 := by omega
        by_cases h3 : a < 4294967296
        · have i3 : (a : Int) < 4294967296 := by omega
          have hl : A.length = 5 := by rw [HSZ.out, if_neg h0, if_neg h1, if_neg h2, if_pos h3]
          have d0 : decide ((a : Int) < 128) = false := decide_eq_false (by omega)
          have d1 : decide ((a : Int) < 256) = false := decide_eq_false (by omega)
          have d2 : decide ((a : Int) < 65536) = false := decide_eq_false (by omega)
          have d3 : decide ((a : Int) < 4294967296) = true := decide_eq_true (by omega)
          clear h0 h1 h2 h3 i0 i1 i2 i3
          go_wp2
          go_ret
          exact ⟨rfl, b4⟩
        · have i3 : ¬ (a : Int) < 4294967296 := by omega
          have hl : A.length = 9 := by rw [HSZ.out, if_neg h0, if_neg h1, if_neg h2, if_neg h3]
          have d0 : decide ((a : Int) < 128) = false := decide_eq_false (by omega)
          have d1 : decide ((a : Int) < 256) = false := decide_eq_false (by omega)
          have d2 : decide ((a : Int) < 65536) = false := decide_eq_false (by omega)
          have d3 : decide ((a : Int) < 4294967296) = false := decide_eq_false (by omega)
          clear h0 h1 h2 h3 i0 i1 i2 i3
          go_wp2
          go_ret
          exact ⟨rfl, b4⟩

set_option maxRecDepth 100000 in
set_option maxHeartbeats 4000000 in
theorem nums_any {G : World → Prop} {Wr : Nat → Nat → List UInt8 → World → Prop} (C : PackC G Wr) (HW : WorksC G) (n : Nat) (w : World) (hn : n < 18446744073709551616) (hG : G w) :
    Calls Tryd.prog 4 #[.int .u64 (n : Int)] w fun e w' => e = .returned (.bool true) ∧ Below w.heap.size w w' := by
  have HL := Lib.hid (fun w => pLaid_any 0 n [] w hn (by decide))
  have HN := Lib.hid (fun (B b : Nat) (w : World) (h : Wr B b [] w) => C.num B b [] n w h (by decide) hn)
  have hlen := numP_len n
  rw [laidP_num] at HL
  generalize numP n = A at *
  simp only [List.nil_append] at HN
  have HWK := Lib.hid HW
  clear hn HW
  go_enter Tryd.func4, Tryd.ntmps4
  go_wp2_with fail
  refine (C.new _ hG).mono ?_
  rintro e w1 ⟨b, rfl, hW, b1⟩
  have z1 := b1.size
  go_wp2_with fail
  refine (HN.out _ b w1 hW).mono ?_
  rintro e w2 ⟨rfl, hW2, b2⟩
  have b2 := b1.trans b2
  go_wp2_with fail
  refine (HL.out _).mono ?_
  rintro e w3 ⟨rfl, b3⟩
  have hW3 := Lib.hid (C.next hW2 b3)
  have b3 := b2.trans (b3.mono b2.size)
  clear hW hW2 b1 b2
  go_wp2_with fail
  refine (C.text _ b A w3 hW3.out (by omega)).mono ?_
  rintro e w4 ⟨rfl, b4⟩
  have b4 := b3.trans (b4.mono b3.size)
  clear b3 hW3
  go_wp2_with fail
  refine (HWK.out _ (C.gb hG b4)).mono ?_
  rintro e w5 ⟨rfl, b5⟩
  have b5 := b4.trans (b5.mono b4.size)
  go_wp2_with fail
  go_ret
  exact ⟨rfl, b5⟩
end Go.Proofs.YtgdlfbphfogphaaDoor
