/- PackLays: its walk, given what the writer does and that the examples hold. -/
import Derived.Test.YtgdlfbphfogphaaDoorPn
import Derived.Test.YtgdlfbphfogphaaDoorPh
namespace Go.Proofs.YtgdlfbphfogphaaDoor
open Go.RowKit

set_option maxRecDepth 100000 in
set_option maxHeartbeats 4000000 in
theorem lays_any {G : World → Prop} {Wr : Nat → Nat → List UInt8 → World → Prop} (C : PackC G Wr) (HW : WorksC G) (ao : Option Addr) (cap : Nat) (l : List T4) (w : World) (hl : l.length ≤ maxLen) (hi : ∀ i (h : i < l.length), ThIn l[i].1 l[i].2.1 l[i].2.2.1 l[i].2.2.2) (ht : Ths ao l w) (hG : G w) :
    Calls Tryd.prog 3 #[.slice ao l.length cap] w fun e w' => e = .returned (.bool true) ∧ Below w.heap.size w w' := by
  unfold maxLen at hl
  have HI := Lib.hid hi
  have HT := Lib.hid ht
  have HWK := Lib.hid HW
  clear hi ht HW
  go_enter Tryd.func3, Tryd.ntmps3
  go_wp2_with fail
  refine (C.new _ hG).mono ?_
  rintro e w1 ⟨b, rfl, hW, b1⟩
  have HWr := Lib.hid hW
  clear hW
  go_wp2
  go_loopw [4, 5] (fun s i wr => ∃ k : Nat, ∃ L : List UInt8, k ≤ l.length ∧ k ≤ 12 ∧ i = .int .i64 (k : Int) ∧ s = .string ⟨L.toArray⟩ ∧ L.length ≤ k * 80000 ∧ Hid (Wr w.heap.size b L wr) ∧ Below w.heap.size w wr)
    (fun _ i _ => 12 - (intOf i).toNat)
  case atStart => exact ⟨0, [], by omega, by omega, rfl, rfl, by simp, HWr, b1⟩
  case round =>
    clear HWr b1
    obtain ⟨k, L, hk, hk12, rfl, rfl, hL, HWr, hbe⟩ := hrel
    by_cases hgo : k < l.length ∧ k < 12
    · obtain ⟨g1, g2⟩ := hgo
      have i1 : (k : Int) < (l.length : Int) := by omega
      have i2 : (k : Int) < 12 := by omega
      obtain ⟨bb, off, rfl, hbb, hc0⟩ := HT.out.resolve_left (fun c => by rw [c] at g1; simp at g1)
      have hc : ∀ i (h : i < l.length) j, j < 4 → wr.cell? ⟨bb, off + (i * 4 + j), none⟩ = (thL l[i].1 l[i].2.1 l[i].2.2.1 l[i].2.2.2)[j]? := fun i h j hj => (hbe.cell (p := ⟨bb, off + (i * 4 + j), none⟩) hbb).trans (hc0 i h j hj)
      have hin := HI.out k g1
      have hck := hc k g1
      obtain ⟨t, ht⟩ : ∃ t, l[k] = t := ⟨_, rfl⟩
      rw [ht] at hin hck
      obtain ⟨s, n, S, z⟩ := t
      simp only at hin hck
      have hck2 : ∀ j, j < 4 → wr.cell? ⟨bb, off + k * 4 + j, none⟩ = (thL s n S z)[j]? := fun j hj => by rw [Nat.add_assoc]; exact hck j hj
      have c0 : wr.cell? ⟨bb, off + k * 4, none⟩ = some (.int .i64 s) := hck2 0 (by omega)
      have c1 : wr.cell? ⟨bb, off + k * 4 + 1, none⟩ = some (.int .u64 (n : Int)) := hck2 1 (by omega)
      have c2 : wr.cell? ⟨bb, off + k * 4 + 2, none⟩ = some (.string ⟨S.toArray⟩) := hck2 2 (by omega)
      have c3 : wr.cell? ⟨bb, off + k * 4 + 3, none⟩ = some (.int .u32 (z : Int)) := hck2 3 (by omega)
      have k0 : (0 : Int) ≤ (k : Int) := by omega
      have q1 := hin.S1
      unfold maxLen at q1
      have HP := Lib.hid (play_any C w.heap.size b L s n S z wr HWr.out (by omega) hin.n1 (by omega) hin.z1)
      have HX := Lib.hid (fun w => ptext_any s n S z w (by omega) hin.z1)
      have ht := textP_len S z
      have hlq := laidP_len s n (textP S z)
      have HLD := Lib.hid (fun w => pLaid_any s n (textP S z) w hin.n1 (by omega))
      generalize laidP s n (textP S z) = Q at *
      obtain ⟨A, er⟩ := Q
      simp only at HP HLD hlq
      generalize textP S z = T at *
      have hcat := run_cat L A (by omega)
      obtain ⟨L2, hL2⟩ : ∃ L2, L ++ A = L2 := ⟨_, rfl⟩
      have hll : L2.length ≤ (k + 1) * 80000 := by rw [← hL2, List.length_append]; omega
      rw [hL2] at HP hcat
      clear hc hc0 hck hck2 hin hL2 ht hlq q1
      go_wp2_with fail
      refine HP.out.mono ?_
      rintro e w2 ⟨rfl, hW2, hb2⟩
      have HK := Lib.hid (show w2.cell? ⟨bb, off + k * 4, none⟩ = some (.int .i64 s) ∧ w2.cell? ⟨bb, off + k * 4 + 1, none⟩ = some (.int .u64 (n : Int)) ∧ w2.cell? ⟨bb, off + k * 4 + 2, none⟩ = some (.string ⟨S.toArray⟩) ∧ w2.cell? ⟨bb, off + k * 4 + 3, none⟩ = some (.int .u32 (z : Int)) ∧ Below w.heap.size w w2 ∧ Wr w.heap.size b L2 w2 ∧ bb < w.heap.size from ⟨(hb2.cell (p := ⟨bb, off + k * 4, none⟩) hbb).trans c0, (hb2.cell (p := ⟨bb, off + k * 4 + 1, none⟩) hbb).trans c1, (hb2.cell (p := ⟨bb, off + k * 4 + 2, none⟩) hbb).trans c2, (hb2.cell (p := ⟨bb, off + k * 4 + 3, none⟩) hbb).trans c3, hbe.trans hb2, hW2, hbb⟩)
      have HN := Lib.hid (show ∀ v1 v2 : World, (v1.cell? ⟨bb, off + k * 4, none⟩ = some (.int .i64 s) ∧ v1.cell? ⟨bb, off + k * 4 + 1, none⟩ = some (.int .u64 (n : Int)) ∧ v1.cell? ⟨bb, off + k * 4 + 2, none⟩ = some (.string ⟨S.toArray⟩) ∧ v1.cell? ⟨bb, off + k * 4 + 3, none⟩ = some (.int .u32 (z : Int)) ∧ Below w.heap.size w v1 ∧ Wr w.heap.size b L2 v1 ∧ bb < w.heap.size) → Below v1.heap.size v1 v2 → (v2.cell? ⟨bb, off + k * 4, none⟩ = some (.int .i64 s) ∧ v2.cell? ⟨bb, off + k * 4 + 1, none⟩ = some (.int .u64 (n : Int)) ∧ v2.cell? ⟨bb, off + k * 4 + 2, none⟩ = some (.string ⟨S.toArray⟩) ∧ v2.cell? ⟨bb, off + k * 4 + 3, none⟩ = some (.int .u32 (z : Int)) ∧ Below w.heap.size w v2 ∧ Wr w.heap.size b L2 v2 ∧ bb < w.heap.size) from fun v1 v2 h hb => by
        obtain ⟨d0, d1, d2, d3, h1, h2, h3⟩ := h
        have l0 : bb < v1.heap.size := Nat.lt_of_lt_of_le h3 h1.size
        exact ⟨(hb.cell (p := ⟨bb, off + k * 4, none⟩) l0).trans d0, (hb.cell (p := ⟨bb, off + k * 4 + 1, none⟩) l0).trans d1, (hb.cell (p := ⟨bb, off + k * 4 + 2, none⟩) l0).trans d2, (hb.cell (p := ⟨bb, off + k * 4 + 3, none⟩) l0).trans d3, h1.trans (hb.mono h1.size), C.next h2 hb, h3⟩)
      have HKD := Lib.hid (HN.out _ _ HK.out (Below.refl _ _).drew)
      clear c0 c1 c2 c3 hW2 hb2 hbe HWr HP
      go_upto_region 9 with (fail)
      go_region_held3 (fun w' => w'.cell? ⟨bb, off + k * 4, none⟩ = some (.int .i64 s) ∧ w'.cell? ⟨bb, off + k * 4 + 1, none⟩ = some (.int .u64 (n : Int)) ∧ w'.cell? ⟨bb, off + k * 4 + 2, none⟩ = some (.string ⟨S.toArray⟩) ∧ w'.cell? ⟨bb, off + k * 4 + 3, none⟩ = some (.int .u32 (z : Int)) ∧ Below w.heap.size w w' ∧ Wr w.heap.size b L2 w' ∧ bb < w.heap.size)
        (first | (with_reducible assumption) | (with_reducible exact HK.out) | (with_reducible exact HKD.out))
        (first
          | (go_at_call 11; with_reducible refine (HX.out _).mono ?_; rintro e wa ⟨rfl, hb3⟩; have hSa := HN.out _ _ (by first | (with_reducible assumption) | (with_reducible exact HK.out) | (with_reducible exact HKD.out)) hb3)
          | (go_at_call 10; with_reducible refine (HLD.out _).mono ?_; rintro e wb ⟨rfl, hb4⟩; have hSb := HN.out _ _ (by first | (with_reducible assumption) | (with_reducible exact HK.out) | (with_reducible exact HKD.out)) hb4))
      all_goals
        have hW3 := Lib.hid hSb.2.2.2.2.2.1
        have hb6 := hSb.2.2.2.2.1
        clear HK HKD HN HX HLD hSa hSb
        go_wp2_with fail
        refine (C.len _ b L2 _ hW3.out (by omega)).mono ?_
        rintro e w5 ⟨rfl, hb5⟩
        have hW5 := Lib.hid (C.next hW3.out hb5)
        have hb7 := hb6.trans (hb5.mono hb6.size)
        clear hb5 hb6 hW3
        go_wp2
        go_roundw
        case rel => exact ⟨k + 1, L2, by omega, by omega, by go_num, rfl, hll, hW5, hb7⟩
        case measure => simp [intOf] <;> omega
    · have fin : (¬ (k : Int) < (l.length : Int)) ∨ ((k : Int) < (l.length : Int) ∧ ¬ (k : Int) < 12) := by omega
      have hL9 : L.length < 10000000 := by omega
      clear hgo
      rcases fin with i1 | ⟨i1, i2⟩
      all_goals
        go_wp2_with fail
        refine (C.text _ b L wr HWr.out hL9).mono ?_
        rintro e w3 ⟨rfl, hb3⟩
        have hb4 := hbe.trans (hb3.mono hbe.size)
        clear hb3 hbe HWr
        go_wp2_with fail
        refine (HWK.out _ (C.gb hG hb4)).mono ?_
        rintro e w4 ⟨rfl, hb5⟩
        have hb6 := hb4.trans (hb5.mono hb4.size)
        go_wp2_with fail
        go_ret
        exact ⟨rfl, hb6⟩
end Go.Proofs.YtgdlfbphfogphaaDoor
