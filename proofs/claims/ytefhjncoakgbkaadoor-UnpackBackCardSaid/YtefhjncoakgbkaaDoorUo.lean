/- UnpackBack: its walk, given what a reader does. -/
import Derived.Test.YtefhjncoakgbkaaDoorUm
import Derived.Test.YtefhjncoakgbkaaDoorUn
import Derived.Deep.CutRange
namespace Go.Proofs.YtefhjncoakgbkaaDoor
open Go.RowKit

/-- the cells of the k-th thing -/
theorem ut_cells {w0 wr : World} {ao : Option Addr} {l : List T3} (h : Uts ao l w0) (hb : Below w0.heap.size w0 wr) (k : Nat) (hk : k < l.length) : ∃ b off, ao = some ⟨b, off, none⟩ ∧ b < w0.heap.size ∧
    wr.cell? ⟨b, off + k * 3, none⟩ = some (.int .u8 (l[k].1 : Int)) ∧ wr.cell? ⟨b, off + k * 3 + 1, none⟩ = some (.int .u64 (l[k].2.1 : Int)) ∧ wr.cell? ⟨b, off + k * 3 + 2, none⟩ = some (.string ⟨l[k].2.2.toArray⟩) := by
  rcases h with h | ⟨b, off, h1, h2, h3⟩
  · subst h; simp at hk
  · have hc : ∀ j, j < 3 → wr.cell? ⟨b, off + k * 3 + j, none⟩ = (utL l[k].1 l[k].2.1 l[k].2.2)[j]? := fun j hj => by rw [Nat.add_assoc]; exact (hb.cell (p := ⟨b, off + (k * 3 + j), none⟩) h2).trans (h3 k hk j hj)
    exact ⟨b, off, h1, h2, hc 0 (by omega), hc 1 (by omega), hc 2 (by omega)⟩

/-- the first k, from the j-th on -/
theorem utS_part (l : List T3) (k j : Nat) (hk : k ≤ l.length) (h : j < k) : ∃ R, utS l k = utS l j ++ (utB (l[j]'(by omega)) ++ R) := by
  refine ⟨((l.take k).drop (j + 1)).flatMap utB, ?_⟩
  have hj : j < (l.take k).length := by rw [List.length_take]; omega
  have e : l.take k = l.take j ++ l[j]'(by omega) :: (l.take k).drop (j + 1) := by
    have e1 := (List.take_append_drop j (l.take k)).symm
    rw [List.take_take, Nat.min_eq_left (by omega), List.drop_eq_getElem_cons hj, List.getElem_take] at e1
    exact e1
  rw [utS, utS]
  conv => lhs; rw [e]
  rw [List.flatMap_append, List.flatMap_cons]
theorem utS_take (l : List T3) (k j : Nat) (hk : k ≤ l.length) (h : j < k) (hn : (l[j]'(by omega)).2.1 < 18446744073709551616) : takeP ((utS l k).drop (utS l j).length) 65535 ((l[j]'(by omega)).1 % 5) = ⟨utN (l[j]'(by omega)), utX (l[j]'(by omega)), 0, (utB (l[j]'(by omega))).length⟩ ∧ (utS l (j + 1)).length = (utS l j).length + (utB (l[j]'(by omega))).length ∧ (utS l (j + 1)).length ≤ (utS l k).length := by
  obtain ⟨R, hR⟩ := utS_part l k j hk h
  have h1 := utS_succ l j (by omega)
  refine ⟨?_, by rw [h1, List.length_append], by rw [h1, hR, ← List.append_assoc, List.length_append (bs := R)]; omega⟩
  rw [hR, List.drop_left]
  exact utB_back _ R hn

/-- what the law lays of a thing, sort by sort -/
structure UtLaid (t : T3) (s : Nat) (T B : List UInt8) (w : World) : Prop where
  l0 : s = 0 → Calls Tryd.prog 14 #[.int .i64 0, .int .u64 (t.2.1 : Int), .string ⟨#[]⟩] w fun e w' => e = .returned (.string ⟨B.toArray⟩) ∧ Below w.heap.size w w'
  l12 : s = 1 ∨ s = 2 → Calls Tryd.prog 14 #[.int .i64 (s : Int), .int .u64 (T.length : Int), .string ⟨T.toArray⟩] w fun e w' => e = .returned (.string ⟨B.toArray⟩) ∧ Below w.heap.size w w'
  l34 : s = 3 ∨ s = 4 → Calls Tryd.prog 14 #[.int .i64 (s : Int), .int .u64 ((t.2.1 % 65536 : Nat) : Int), .string ⟨#[]⟩] w fun e w' => e = .returned (.string ⟨B.toArray⟩) ∧ Below w.heap.size w w'
theorem ut_laid (t : T3) (w : World) (hn : t.2.1 < 18446744073709551616) : UtLaid t (t.1 % 5) (utT t) (utB t) w := by
  have h1 := utT_len t
  refine ⟨fun h => ?_, fun h => ?_, fun h => ?_⟩
  · have e : utB t = laidQ 0 t.2.1 [] := by rw [utB, utN, utX, h]; rfl
    rw [e]; exact laid0 _ [] w hn
  · have e : utB t = laidQ (t.1 % 5) (utT t).length (utT t) := by rw [utB, utN, utX]; rcases h with h | h <;> rw [h] <;> rfl
    rw [e]; exact laidQ_any _ _ _ w (by omega) (by omega) (fun _ => by omega) (by omega)
  · have e : utB t = laidQ (t.1 % 5) (t.2.1 % 65536) [] := by rw [utB, utN, utX]; rcases h with h | h <;> rw [h] <;> rfl
    rw [e]; exact laidQ_any _ _ [] w (by omega) (by omega) (fun _ => by omega) (by simp)

set_option maxRecDepth 100000 in
set_option maxHeartbeats 4000000 in
theorem back_any {G : World → Prop} {R : Nat → List UInt8 → Nat → Nat → World → Prop} (C : ReaderC G R) (ao : Option Addr) (cap : Nat) (l : List T3) (w : World) (hG : G w) (hl : l.length ≤ maxLen) (hcp : l.length ≤ cap) (hi : ∀ i (h : i < l.length), UtIn l[i].1 l[i].2.1 l[i].2.2) (ht : Uts ao l w) :
    Calls Tryd.prog 4 #[.slice ao l.length cap] w fun e w' => e = .returned (.bool true) ∧ Below w.heap.size w w' := by
  have HW := Lib.hid (works_u C w hG)
  have HG := Lib.hid hG
  have HI := Lib.hid hi
  have HT := Lib.hid ht
  have hc2 : (l.length : Int) ≤ (cap : Int) := by omega
  have hl2 : (l.length : Int) ≤ 9223372036854775807 := by unfold maxLen at hl; omega
  clear hG hi ht hl hcp
  go_enter Tryd.func4, Tryd.ntmps4
  go_wp2_with fail
  refine HW.out.mono ?_
  rintro e w1 ⟨rfl, hb1⟩
  have HB1 := Lib.hid hb1
  clear hb1 HW
  go_upto_region 3 with fail
  go_cut [0] from 16 (fun s0 wx => (∃ N : Nat, N ≤ l.length ∧ N ≤ 40 ∧ s0 = .slice ao N cap) ∧ wx = w1)
  case first =>
    by_cases hle : l.length ≤ 40
    · by_cases he : l.length = 40
      · have k1 : (l.length : Int) = 40 := by omega
        have k3 : (40 : Int) ≤ (cap : Int) := by omega
        go_wp2
        go_meet
        case rel => exact ⟨⟨40, by omega, by omega, rfl⟩, rfl⟩
      · have k1 : (l.length : Int) < 40 := by omega
        have k2 : ¬ (40 : Int) < (l.length : Int) := by omega
        go_wp2
        go_meet
        case rel => exact ⟨⟨l.length, by omega, by omega, rfl⟩, rfl⟩
    · have k1 : ¬ (l.length : Int) < 40 := by omega
      have k2 : (40 : Int) < (l.length : Int) := by omega
      have k3 : (40 : Int) ≤ (cap : Int) := by omega
      go_wp2
      go_meet
      case rel => exact ⟨⟨40, by omega, by omega, rfl⟩, rfl⟩
  case rest =>
    obtain ⟨⟨N, hN, hN40, rfl⟩, rfl⟩ := hcut
    clear hl2
    go_wp2
    have HB := Lib.hid HB1.out
    clear HB1
    go_loopw [3, 4] (fun s i wr => ∃ k : Nat, k ≤ N ∧ i = .int .i64 (k : Int) ∧ s = .string ⟨(utS l k).toArray⟩ ∧ Below w.heap.size w wr)
      (fun _ i _ => N - (intOf i).toNat)
    case atStart => exact ⟨0, Nat.zero_le _, rfl, rfl, HB.out⟩
    case round =>
      obtain ⟨k, hk, rfl, rfl, hbe⟩ := hrel
      by_cases hlt : k < N
      · have hkl : k < l.length := by omega
        obtain ⟨bb, off, rfl, hbb, c0, c1, c2⟩ := ut_cells HT.out hbe k hkl
        have hin := HI.out k hkl
        have hsu := utS_succ l k hkl
        have hsl := utS_len l k
        have hbl := utB_len l[k]
        have htl := utT_len l[k]
        obtain ⟨t, hte⟩ : ∃ t, l[k] = t := ⟨_, rfl⟩
        rw [hte] at c0 c1 c2 hin hsu hbl htl
        clear hte
        obtain ⟨q, n, S⟩ := t
        simp only at c0 c1 c2 hin
        have hcat := run_cat (utS l k) (utB (q, n, S)) (by omega)
        rw [← hsu] at hcat
        clear hsu
        have k1 : (k : Int) < (N : Int) := by omega
        have k0 : (0 : Int) ≤ (k : Int) := by omega
        have hq4 : q % 5 ≤ 4 := by omega
        obtain ⟨q1, q2⟩ := mod5 q hin.q1
        have hT : (⟨S.toArray⟩ : ByteArray).extract 0 700 = ⟨(utT (q, n, S)).toArray⟩ := by rw [extract_list, List.drop_zero]; rfl
        have hT2 : S.length ≤ 700 → (⟨S.toArray⟩ : ByteArray).extract 0 S.length = ⟨(utT (q, n, S)).toArray⟩ := fun h => by show _ = (⟨(S.take 700).toArray⟩ : ByteArray); rw [extract_list, List.drop_zero, List.take_length, List.take_of_length_le h]
        have HL := Lib.hid (fun w => ut_laid (q, n, S) w hin.n1)
        simp only at HL
        have HT1 := Lib.hid hT
        have HT2 := Lib.hid hT2
        clear hT hT2
        have hn1 := hin.n1
        have hS9 : (S.length : Int) ≤ 9223372036854775807 := by have := hin.S1; unfold maxLen at this; omega
        clear hin
        generalize utT (q, n, S) = T at *
        generalize utB (q, n, S) = Bk at *
        generalize q % 5 = s at *
        go_upto_region 9 with fail
        go_cut [6] from 34 to 78 (fun s6 wx => s6 = .string ⟨T.toArray⟩ ∧ ∃ nq, wx = wr.drewN nq)
        case first =>
          by_cases hle : S.length ≤ 700
          · have e1 := HT2.out hle
            by_cases he : S.length = 700
            · rw [he] at e1
              have j1 : (S.length : Int) = 700 := by omega
              go_quiet (fail)
              go_wp2
              go_meet
              case rel => exact ⟨rfl, _, rfl⟩
            · have j1 : (S.length : Int) < 700 := by omega
              have j2 : ¬ (700 : Int) < (S.length : Int) := by omega
              go_quiet (fail)
              go_wp2
              go_meet
              case rel => exact ⟨rfl, _, rfl⟩
          · have e1 := HT1.out
            have j1 : ¬ (S.length : Int) < 700 := by omega
            have j2 : (700 : Int) < (S.length : Int) := by omega
            go_quiet (fail)
            go_wp2
            go_meet
            case rel => exact ⟨rfl, _, rfl⟩
        case rest =>
          obtain ⟨rfl, nq, rfl⟩ := hcut
          have hbw := Below_drewN' hbe nq
          have c1w : (wr.drewN nq).cell? ⟨bb, off + k * 3 + 1, none⟩ = some (.int .u64 (n : Int)) := ((by0q wr nq).cell (p := ⟨bb, off + k * 3 + 1, none⟩) (World.block_lt_of_cell? wr _ c1)).trans c1
          clear hbe c0 c1 c2 HT1 HT2 hS9 q1 q2
          generalize wr.drewN nq = ws at *
          by_cases hs0 : s = 0
          · subst hs0
            go_wp2_with (go_at_call 14; refine ((HL.out _).l0 rfl).mono ?_; rintro e w3 ⟨rfl, hb3⟩; have hbe3 := hbw.trans (hb3.mono hbw.size))
            go_roundw
            case rel => exact ⟨k + 1, by omega, by go_num, rfl, hbe3⟩
            case measure => simp [intOf] <;> omega
          by_cases hs12 : s = 1 ∨ s = 2
          · have hl12 := Lib.hid (fun w => (HL.out w).l12 hs12)
            clear hs0 HL
            rcases hs12 with rfl | rfl
            all_goals
              go_wp2_with (go_at_call 14; refine (hl12.out _).mono ?_; rintro e w3 ⟨rfl, hb3⟩; have hbe3 := hbw.trans (hb3.mono hbw.size))
              go_roundw
              case rel => exact ⟨k + 1, by omega, by go_num, rfl, hbe3⟩
              case measure => simp [intOf] <;> omega
          · have hs34 : s = 3 ∨ s = 4 := by omega
            have hl34 := Lib.hid (fun w => (HL.out w).l34 hs34)
            have hmod : (n : Int) % 65536 = ((n % 65536 : Nat) : Int) := by omega
            generalize n % 65536 = n2 at *
            clear hs0 hs12 HL
            rcases hs34 with rfl | rfl
            all_goals
              go_wp2_with (go_at_call 14; refine (hl34.out _).mono ?_; rintro e w3 ⟨rfl, hb3⟩; have hbe3 := hbw.trans (hb3.mono hbw.size))
              go_roundw
              case rel => exact ⟨k + 1, by omega, by go_num, rfl, hbe3⟩
              case measure => simp [intOf] <;> omega
      · have k1 : ¬ (k : Int) < (N : Int) := by omega
        obtain rfl : k = N := by omega
        clear hlt k1
        have HUL := Lib.hid (show (utS l k).length ≤ 28400 by have := utS_len l k; omega)
        have HWS := Lib.hid (fun j (hj : j < k) => utS_take l k j hN hj (HI.out j (by omega)).n1)
        have HNW := Lib.hid (C.new (utS l k) 65535 wr (C.gb HG.out hbe) (by have := HUL.out; omega) (by decide) (by decide))
        rw [show (max (65535 : Int) 0).toNat = 65535 from rfl] at HNW
        have HBE := Lib.hid hbe
        obtain ⟨S, hSe⟩ : ∃ S, utS l k = S := ⟨_, rfl⟩
        rw [hSe] at HUL HWS HNW
        have HSE := Lib.hid hSe
        rw [hSe]
        clear hbe hSe HB
        go_wp2_with fail
        refine HNW.out.mono ?_
        rintro e w1 ⟨b, hlo, rfl, hr, hb⟩
        have K := Lib.hid (Rk.mk hr (C.gb (C.gb HG.out HBE.out) hb) HG.out (Nat.le_trans HBE.out.size hlo) (HBE.out.trans (hb.mono HBE.out.size)) : Rk R G w b S 0 65535 w1)
        clear hr hb hlo HNW
        go_wp2_with fail
        go_loopw [8] (fun i wr => ∃ j : Nat, j ≤ k ∧ i = .int .i64 (j : Int) ∧ Hid (Rk R G w b S (utS l j).length 65535 wr))
          (fun i _ => k - (intOf i).toNat)
        case atStart => exact ⟨0, Nat.zero_le _, rfl, K⟩
        case round =>
          obtain ⟨j, hj, rfl, K⟩ := hrel
          by_cases hlt : j < k
          · have hkl : j < l.length := by omega
            obtain ⟨bb, off, rfl, hbb, c0, c1, c2⟩ := ut_cells HT.out K.out.o j hkl
            have hin := HI.out j hkl
            obtain ⟨hta, hlen, hle⟩ := HWS.out j hlt
            have htl := utT_len l[j]
            obtain ⟨t, hte⟩ : ∃ t, l[j] = t := ⟨_, rfl⟩
            rw [hte] at c0 c1 c2 hin htl hta hlen
            clear hte
            obtain ⟨q, n, Z⟩ := t
            simp only at c0 c1 c2 hin
            have k1 : (j : Int) < (k : Int) := by omega
            have k0 : (0 : Int) ≤ (j : Int) := by omega
            have hq4 : q % 5 ≤ 4 := by omega
            obtain ⟨q1, q2⟩ := mod5 q hin.q1
            have HT1 := Lib.hid (show (⟨Z.toArray⟩ : ByteArray).extract 0 700 = ⟨(utT (q, n, Z)).toArray⟩ by rw [extract_list, List.drop_zero]; rfl)
            have HT2 := Lib.hid (show Z.length ≤ 700 → (⟨Z.toArray⟩ : ByteArray).extract 0 Z.length = ⟨(utT (q, n, Z)).toArray⟩ from fun h => by show _ = (⟨(Z.take 700).toArray⟩ : ByteArray); rw [extract_list, List.drop_zero, List.take_length, List.take_of_length_le h])
            have hn1 := hin.n1
            have hS9 : (Z.length : Int) ≤ 9223372036854775807 := by have := hin.S1; unfold maxLen at this; omega
            have HNX := Lib.hid (show (q % 5 = 0 → utN (q, n, Z) = n) ∧ ((q % 5 = 1 ∨ q % 5 = 2) → utX (q, n, Z) = utT (q, n, Z)) ∧ ((q % 5 = 3 ∨ q % 5 = 4) → utN (q, n, Z) = n % 65536) from
              ⟨fun h => if_pos h, fun h => if_pos h, fun h => by
                show (if q % 5 = 0 then n else if q % 5 = 1 ∨ q % 5 = 2 then (utT (q, n, Z)).length else n % 65536) = _
                rw [if_neg (by omega), if_neg (by omega)]⟩)
            clear hin
            simp only at hta
            generalize utT (q, n, Z) = T at *
            generalize utB (q, n, Z) = Bk at *
            generalize utN (q, n, Z) = uN at *
            generalize utX (q, n, Z) = uX at *
            generalize q % 5 = s at *
            have HTA := Lib.hid hta
            have HLE := Lib.hid (And.intro hlen hle)
            clear hta hlen hle
            go_upto_region 24 with fail
            go_cut [10] from 96 to 141 (fun s10 wx => s10 = .string ⟨T.toArray⟩ ∧ ∃ nq, wx = wr.drewN nq)
            case first =>
              by_cases hle : Z.length ≤ 700
              · have e1 := HT2.out hle
                by_cases he : Z.length = 700
                · rw [he] at e1
                  have j1 : (Z.length : Int) = 700 := by omega
                  go_quiet (fail)
                  go_wp2
                  go_meet
                  case rel => exact ⟨rfl, _, rfl⟩
                · have j1 : (Z.length : Int) < 700 := by omega
                  have j2 : ¬ (700 : Int) < (Z.length : Int) := by omega
                  go_quiet (fail)
                  go_wp2
                  go_meet
                  case rel => exact ⟨rfl, _, rfl⟩
              · have e1 := HT1.out
                have j1 : ¬ (Z.length : Int) < 700 := by omega
                have j2 : (700 : Int) < (Z.length : Int) := by omega
                go_quiet (fail)
                go_wp2
                go_meet
                case rel => exact ⟨rfl, _, rfl⟩
            case rest =>
              obtain ⟨rfl, nq, rfl⟩ := hcut
              have KW := Lib.hid (K.out.next C (by0q wr nq))
              have c1w : (wr.drewN nq).cell? ⟨bb, off + j * 3 + 1, none⟩ = some (.int .u64 (n : Int)) := ((by0q wr nq).cell (p := ⟨bb, off + j * 3 + 1, none⟩) (World.block_lt_of_cell? wr _ c1)).trans c1
              clear c0 c1 c2 HT1 HT2 hS9 q1 q2 K
              generalize wr.drewN nq = ws at *
              have HL := ltake_any C b S (utS l j).length 65535 s ws KW.out.r KW.out.g (by have := HUL.out; omega) (by have := HLE.out; omega) hq4
              rw [HTA.out] at HL
              have HL := Lib.hid HL
              go_wp2_with fail
              refine HL.out.mono ?_
              rintro e w3 ⟨⟨v, rfl, hv⟩, hr, ho⟩
              obtain rfl : v = .nilIface := hv
              have K3 := KW.out.only C ho hr
              simp only at K3
              rw [← HLE.out.1] at K3
              have K3 := Lib.hid K3
              have c1 := (World.cell?_of_block (a := ⟨bb, off + j * 3 + 1, none⟩) (ho.block bb (Nat.lt_of_lt_of_le hbb KW.out.o.size) (by have := KW.out.lo; omega))).trans c1w
              clear hr ho c1w HL HTA KW
              by_cases hs0 : s = 0
              · obtain rfl := HNX.out.1 hs0
                subst hs0
                clear HNX
                go_wp2
                go_roundw
                case rel => exact ⟨j + 1, by omega, by go_num, K3⟩
                case measure => simp [intOf] <;> omega
              by_cases hs12 : s = 1 ∨ s = 2
              · obtain rfl := HNX.out.2.1 hs12
                clear hs0 HNX
                rcases hs12 with rfl | rfl
                all_goals
                  go_wp2
                  go_roundw
                  case rel => exact ⟨j + 1, by omega, by go_num, K3⟩
                  case measure => simp [intOf] <;> omega
              · have hs34 : s = 3 ∨ s = 4 := by omega
                have hmod : (n : Int) % 65536 = (uN : Int) := by rw [HNX.out.2.2 hs34]; omega
                clear hs0 hs12 HNX
                rcases hs34 with rfl | rfl
                all_goals
                  go_wp2
                  go_roundw
                  case rel => exact ⟨j + 1, by omega, by go_num, K3⟩
                  case measure => simp [intOf] <;> omega
          · have k1 : ¬ (j : Int) < (k : Int) := by omega
            obtain rfl : j = k := by omega
            clear hlt
            have hsl : (utS l j).length = S.length := by rw [HSE.out]
            rw [hsl] at K
            have HF := Lib.hid (C.fin b S S.length 65535 wr K.out.r K.out.g (by have := HUL.out; omega) (Nat.le_refl _))
            go_wp2_with fail
            refine HF.out.mono ?_
            rintro e w5 ⟨v5, rfl, hv, hb⟩
            rw [if_neg (Nat.lt_irrefl _)] at hv
            obtain rfl : v5 = .nilIface := hv
            have hbe := K.out.o.trans (hb.mono K.out.o.size)
            go_wp2
            go_ret
            exact ⟨rfl, hbe⟩
end Go.Proofs.YtefhjncoakgbkaaDoor
