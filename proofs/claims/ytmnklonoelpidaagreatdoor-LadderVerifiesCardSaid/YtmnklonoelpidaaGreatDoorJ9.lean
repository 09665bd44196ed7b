/- The reference's padded text is the text and what stands behind it, for texts below ten to the twelfth. -/
import Derived.Test.YtmnklonoelpidaaGreatDoorJ7
import Derived.Test.YtmnklonoelpidaaGreatDoorJ6
import Derived.Deep.RegionHeld3
import Derived.Deep.AppendLies
namespace Go.Proofs.YtmnklonoelpidaaGreatDoor
open Go.RowKit

theorem str_add' (A B : List UInt8) : (⟨A.toArray⟩ : ByteArray) ++ ⟨B.toArray⟩ = ⟨(A ++ B).toArray⟩ := by
  apply ByteArray.ext
  simp

theorem byte_eq2 (n k : Nat) : ((8 : Int) * (n : Int) / (2 : Int) ^ (56 - 8 * k) % (256 : Int)) = ((UInt8.ofNat (8 * n / 2 ^ (56 - 8 * k))).toNat : Int) := by
  rw [Int.mul_comm]; exact byte_eq n k
theorem padTo_snoc (n m k : Nat) : padTo n m k ++ [UInt8.ofNat (8 * n / 2 ^ (56 - 8 * k))] = padTo n m (k + 1) := by
  rw [padTo, padTo, be64To_succ, List.append_assoc]
theorem padTo_length (n m k : Nat) : (padTo n m k).length = 1 + m + k := by
  simp [padTo, be64To]; omega
theorem noughts_at (n m k : Nat) (hm : noughts n = m) (hk : k ≤ m) : (n + 1 + k) % 64 = 56 ↔ k = m := by
  unfold noughts at hm
  omega
def padA (S : List UInt8) (k : Nat) : List UInt8 := S ++ (128 :: List.replicate k 0)
theorem padA_succ (S : List UInt8) (k : Nat) : padA S k ++ [0] = padA S (k + 1) := by
  rw [padA, padA, List.append_assoc, List.cons_append, ← List.replicate_succ']
theorem padA_length (S : List UInt8) (k : Nat) : (padA S k).length = S.length + 1 + k := by
  simp [padA]; omega
theorem padA_zero (S : List UInt8) : S ++ [128] = padA S 0 := rfl
theorem padA_end (S : List UInt8) (n m : Nat) : padA S m = S ++ padTo n m 0 := by
  rw [padA, padTo]; simp [be64To]

theorem one_byte (w : World) (y : Int) (x : UInt8) (hy : y = (x.toNat : Int)) : ∀ j (hj : j < [x].length), (w.alloc (.cells #[.int .u8 y] 5)).cell? ((⟨w.heap.size, 0, none⟩ : Addr).add j) = some (.int .u8 ([x][j].toNat : Int)) := by
  intro j hj
  obtain rfl : j = 0 := by simpa using hj
  rw [Addr.add_mid, World.cell?_alloc_at (hn := rfl), hy]
  rfl
theorem padL_eq (n m j : Nat) (hm : noughts n = m) (hj : j = 8) : padL n = padTo n m j := by
  rw [hj, ← hm]; rfl

set_option maxRecDepth 100000 in
set_option maxHeartbeats 1000000 in
theorem padded_any (S : List UInt8) (w : World) (hS : S.length < 100000000000) :
    Calls Tryz.prog 135 #[.string ⟨S.toArray⟩] w fun e w' => e = .returned (.string ⟨(S ++ padL S.length).toArray⟩) ∧ Below w.heap.size w w' := by
  obtain ⟨m, hm⟩ : ∃ m, noughts S.length = m := ⟨_, rfl⟩
  have hm64 : m < 64 := by unfold noughts at hm; omega
  have Hm := Lib.hid hm
  clear hm
  go_enter Tryz.func135, Tryz.ntmps135
  go_wp2
  go_loop [0] (fun s => ∃ k : Nat, k ≤ m ∧ s = .string ⟨(padA S k).toArray⟩) (fun s => S.length + 1 + m - strLen s)
  case atStart => exact ⟨0, by omega, congrArg Value.string ((str_add' S [128]).trans (by rw [padA_zero]))⟩
  case round =>
    obtain ⟨k, hk, rfl⟩ := hrel
    have hpl := padA_length S k
    have hat := noughts_at S.length m k Hm.out hk
    by_cases hlt : k < m
    · have hne2 : (((S.length : Int) + 1 + (k : Int)) % 64 != 56) = true := by rw [bne_iff_ne]; omega
      have HA := Lib.hid ((str_add' (padA S k) [0]).trans (by rw [padA_succ]))
      clear hat
      go_wp2
      go_round
      case rel => exact ⟨k + 1, by omega, congrArg Value.string HA.out⟩
      case measure =>
        show S.length + 1 + m - ((⟨(padA S k).toArray⟩ : ByteArray) ++ ⟨#[0]⟩).size < S.length + 1 + m - (padA S k).length
        rw [HA.out]
        show S.length + 1 + m - (padA S (k + 1)).length < S.length + 1 + m - (padA S k).length
        rw [padA_length, padA_length]
        omega
    · have ek : k = m := by omega
      subst ek
      have hne2 : (((S.length : Int) + 1 + (k : Int)) % 64 != 56) = false := by rw [bne_eq_false_iff_eq]; omega
      have HE := Lib.hid (padA_end S S.length k)
      clear hat
      go_wp2
      go_loopw [0, 4] (fun s i wr => ∃ j : Nat, j ≤ 8 ∧ i = .int .i64 (56 - 8 * (j : Int)) ∧ s = .string ⟨(S ++ padTo S.length k j).toArray⟩ ∧ Below w.heap.size w wr) (fun _ i _ => (8 + intOf i).toNat)
      case atStart => exact ⟨0, by omega, by go_num, by rw [HE.out], Below.refl _ _⟩
      case round =>
        obtain ⟨j, hj, rfl, rfl, hbe⟩ := hrel
        by_cases hjl : j < 8
        · have hz := hbe.size
          obtain ⟨x, hx⟩ : ∃ x, UInt8.ofNat (8 * S.length / 2 ^ (56 - 8 * j)) = x := ⟨_, rfl⟩
          have hX : (8 : Int) * (S.length : Int) / (2 : Int) ^ (56 - 8 * j) % (256 : Int) = (x.toNat : Int) := by rw [byte_eq2, hx]
          have HP := Lib.hid ((str_add' (S ++ padTo S.length k j) [x]).trans (by rw [List.append_assoc, ← hx, padTo_snoc]))
          have hconv := run_convert_bytes_back (P := Tryz.prog) (wr.alloc (.cells #[.int .u8 ((8 : Int) * (S.length : Int) / (2 : Int) ^ (56 - 8 * j) % (256 : Int))] 5)) 64 9 5 ⟨wr.heap.size, 0, none⟩ 1 [x] Tryz.underlying64 Tryz.underlying5 Tryz.underlying9 (one_byte wr _ x hX)
          simp only [List.length_cons, List.length_nil, Nat.zero_add] at hconv
          have hpj : (padTo S.length k j).length < 1000 := by rw [padTo_length]; omega
          clear hx hX
          go_wp2
          go_roundw
          case rel => exact ⟨j + 1, by omega, by go_num, congrArg Value.string HP.out, hbe.alloc hz _⟩
          case measure => simp [intOf]; omega
        · have ej : Hid (j = 8) := Lib.hid (by omega)
          go_wp2
          go_ret
          refine ⟨?_, hbe⟩
          rw [padL_eq S.length k j Hm.out ej.out]
          rfl
end Go.Proofs.YtmnklonoelpidaaGreatDoor
/- The reference's Sum is the sum of the text, for texts below ten to the eleventh. -/
namespace Go.Proofs.YtmnklonoelpidaaGreatDoor
open Go.RowKit

theorem block_any (s : St) (B : List UInt8) (hB : B.length = 64) (w : World) :
    Calls Tryz.prog 136 #[.agg (w8 s).toArray, .string ⟨B.toArray⟩] w fun e w' => e = .returned (.agg (w8 (comp s B)).toArray) ∧ Below w.heap.size w w' :=
  block_fn (w8 s).toArray s.at B w hB (w8_at s)

theorem pad_mod (S : List UInt8) : (S ++ padL S.length).length % 64 = 0 := by
  have h : (padL S.length).length = 1 + noughts S.length + 8 := by simp [padL, be64To]; omega
  rw [List.length_append, h]
  unfold noughts
  omega
theorem drop_take64 (P : List UInt8) (j : Nat) : (P.take (64 * j + 64)).drop (64 * j) = (P.drop (64 * j)).take 64 := by
  rw [List.drop_take]; congr 1; omega
/-- the eight words, stored over the eight words -/
theorem words_over {w : World} {b : Nat} {s s' : St} (h : w.heap[b]? = some (.cells (w8 s).toArray 179 (0, 0))) : (w.setCells b 0 (w8 s')).heap[b]? = some (.cells (w8 s').toArray 179 (0, 0)) := by
  rw [heap_setCells_row (w8 s') 0 (w8 s) w h (by rw [w8_length, w8_length]; omega)]
  rfl

theorem extract_list' (Y : List UInt8) (i j : Nat) : (⟨Y.toArray⟩ : ByteArray).extract i j = ⟨((Y.take j).drop i).toArray⟩ := by
  apply ByteArray.ext
  rw [ByteArray.data_extract]
  simp [List.drop_take]
theorem iv_row : #[Value.int IntKind.u32 1779033703, Value.int IntKind.u32 3144134277, Value.int IntKind.u32 1013904242, Value.int IntKind.u32 2773480762, Value.int IntKind.u32 1359893119, Value.int IntKind.u32 2600822924, Value.int IntKind.u32 528734635, Value.int IntKind.u32 1541459225] = (w8 IV).toArray := by kernel_rfl

set_option maxRecDepth 100000 in
set_option maxHeartbeats 2000000 in
theorem refSum_any (S : List UInt8) (w : World) (hS : S.length < 10000000000) :
    Calls Tryz.prog 103 #[.string ⟨S.toArray⟩] w fun e w' => e = .returned (.string ⟨(shaL S).toArray⟩) ∧ Below w.heap.size w w' := by
  obtain ⟨i0, hi, hz0, hz1, hz2⟩ := info_parts Tryz.info5
  go_enter Tryz.func103, Tryz.ntmps103
  go_wp2_with fail
  rw [iv_row]
  refine (padded_any S _ (by omega)).mono ?_
  rintro e w1 ⟨rfl, hB1⟩
  have hrow1 : w1.heap[w.heap.size]? = some (.cells (w8 IV).toArray 179 (0, 0)) := (hB1.block _ (by simp)).trans (heap_alloc_new w _)
  have hB01 : Below w.heap.size w w1 := ((Below.refl _ _).alloc (Nat.le_refl _) _).trans (hB1.mono (by simp))
  have hmod := pad_mod S
  have hpl := padL_length S.length
  obtain ⟨P, hP⟩ : ∃ P, S ++ padL S.length = P := ⟨_, rfl⟩
  have hPl : P.length < 20000000000 := by rw [← hP, List.length_append]; omega
  rw [hP] at hmod
  rw [hP]
  have HP := Lib.hid hP
  obtain ⟨q, hq⟩ : ∃ q, P.length = 64 * q := ⟨P.length / 64, by omega⟩
  have Hq := Lib.hid hq
  have Hrow1 := Lib.hid hrow1
  clear hP hmod hrow1 hB1 hq
  go_wp2
  go_loopw [5] (fun i wr => ∃ j : Nat, j ≤ q ∧ i = .int .i64 (64 * (j : Int)) ∧ Hid (wr.heap[w.heap.size]? = some (.cells (w8 (hw P j)).toArray 179 (0, 0))) ∧ Below w.heap.size w wr) (fun i _ => 64 * q - (intOf i).toNat)
  case atStart => exact ⟨0, by omega, by go_num, Hrow1, hB01⟩
  case round =>
    obtain ⟨j, hj, rfl, HR, hbe⟩ := hrel
    by_cases hlt : j < q
    · have hPj : 64 * j + 64 ≤ P.length := by have := Hq.out; omega
      have hr0 : wr.drew.rangeAt w.heap.size 0 (w8 (hw P j)) := fun t v ht => by
        rw [World.cell?_drew, row_cell HR.out, Nat.zero_add]; exact ht
      have Hr0 := Lib.hid hr0
      clear hr0
      have a1 : (64 * (j : Int)) < (P.length : Int) := by omega
      obtain ⟨e1, e2, e3⟩ : IntKind.i64.wrap (64 * (j : Int) + 64) = 64 * (j : Int) + 64 ∧ (64 * (j : Int) + 64).toNat = 64 * j + 64 ∧ (64 * (j : Int)).toNat = 64 * j := ⟨IntWalk.i64_in _ (by omega), by omega, by omega⟩
      have a2 : (0 : Int) ≤ 64 * (j : Int) := by omega
      have a3 : 64 * (j : Int) ≤ 64 * (j : Int) + 64 := by omega
      have a4 : 64 * (j : Int) + 64 ≤ (P.length : Int) := by omega
      go_wp2
      refine wp_region_still_tail 6 (by kernel_rfl) (by kernel_rfl) ?_
      simp only [List.take_succ_cons, List.take_zero, List.drop_succ_cons, List.drop_zero]
      refine wpStill_load_mid rfl 179 (.tmp 3) rfl w.heap.size 0 rfl (w8 (hw P j)) _ Hr0.out Tryz.underlying179 rfl (by kernel_rfl) ?_
      still_step
      still_step
      still_step
      still_step
      still_step
      refine wpStill_nil ?_
      change wpList _ _ _ _ _ wr.drew
      clear e1 e2 e3
      go_wp2_with fail
      rw [extract_list', drop_take64]
      have hBl : ((P.drop (64 * j)).take 64).length = 64 := by rw [List.length_take, List.length_drop]; omega
      refine (block_any (hw P j) ((P.drop (64 * j)).take 64) hBl wr.drew).mono ?_
      rintro e w3 ⟨rfl, hB3⟩
      clear hBl
      have hlt3 : w.heap.size < wr.heap.size := (Array.getElem?_eq_some_iff.1 HR.out).1
      have hrow3 : w3.heap[w.heap.size]? = some (.cells (w8 (hw P j)).toArray 179 (0, 0)) := (hB3.block _ hlt3).trans HR.out
      have hth : w3.there w.heap.size 0 8 := fun t ht => ⟨by rw [row_cell hrow3]; exact isSome_getElem? _ _ (by rw [w8_length]; omega), row_free hrow3 _⟩
      have hrow4 := words_over (s' := comp (hw P j) ((P.drop (64 * j)).take 64)) hrow3
      have hB4 : Below w.heap.size w (w3.setCells w.heap.size 0 (w8 (comp (hw P j) ((P.drop (64 * j)).take 64)))) := Below_setCells (hbe.drew.trans (hB3.mono hbe.size)) (Nat.le_refl _) 0 _
      have Hth := Lib.hid hth
      obtain ⟨w4, hw4⟩ : ∃ w4, w3.setCells w.heap.size 0 (w8 (comp (hw P j) ((P.drop (64 * j)).take 64))) = w4 := ⟨_, rfl⟩
      rw [hw4] at hrow4 hB4
      have HW4 := Lib.hid hw4
      have HR4 : Hid (w4.heap[w.heap.size]? = some (.cells (w8 (hw P (j + 1))).toArray 179 (0, 0))) := Lib.hid hrow4
      clear hth hrow3 hrow4 hw4
      go_wp2_with (refine wpList_store_mid rfl 179 (.tmp 3) (.tmp 23) rfl w.heap.size 0 (w8 (comp (hw P j) ((P.drop (64 * j)).take 64))).toArray rfl rfl Hth.out (by kernel_rfl) (w8_one _) ?_; rw [List.toList_toArray, HW4.out])
      go_roundw
      case rel => exact ⟨j + 1, by omega, by go_num, HR4, hB4⟩
      case measure => simp [intOf]; omega
    · generalize wr = wx at *
      have ej : Hid (j = q) := Lib.hid (by omega)
      have hnl : ¬ (64 * (j : Int)) < (P.length : Int) := by have := Hq.out; have := ej.out; omega
      obtain ⟨st, hst⟩ : ∃ st, hw P j = st := ⟨_, rfl⟩
      rw [hst] at HR
      have HST : Hid (digestTo st.at 8 = shaL S) := Lib.hid (by rw [shaL, HP.out, Hq.out, Nat.mul_div_cancel_left q (by omega), ← ej.out, hst])
      clear hst
      have hlt3 : w.heap.size < wx.heap.size := (Array.getElem?_eq_some_iff.1 HR.out).1
      obtain ⟨C, hC⟩ : ∃ C, C = madeCells #[.int .u8 0] 32 := ⟨_, rfl⟩
      have hmk : ∀ w, (Instr.makeSlice 64 (.int .i64 0) (.int .i64 32)).run Tryz.prog w = .ok (.slice (some ⟨w.heap.size, 0, none⟩) 0 32) (w.alloc (.cells C 5)) := by
        intro w
        have h := run_make (P := Tryz.prog) w 64 5 i0 (.int .u8 0) Tryz.underlying64 hi hz0 .i64 .i64 0 32 (by omega) (by omega) (by rw [hz2]; omega) (by omega)
        rw [show (0:Int).toNat = 0 by omega, show (32:Int).toNat = 32 by omega, hz1, Nat.mul_one] at h
        rw [hC]
        exact h
      have hCs := Lib.hid (show C.size = 32 by rw [hC]; exact size_madeCells _ _)
      clear hC
      go_wp2
      go_loopw [6, 7] (fun v' i wr => ∃ t : Nat, t ≤ 8 ∧ i = .int .i64 (t : Int) ∧ v' = .slice (some ⟨wx.heap.size, 0, none⟩) (4 * t) 32 ∧
          wr.ownsRow wx.heap.size 5 1 (.slice (some ⟨wx.heap.size, 0, none⟩) (4 * t) 32) (4 * t) (cellsOf (digestTo st.at t)) ∧ wx.heap.size < wr.heap.size ∧ Below wx.heap.size wx wr)
        (fun _ i _ => 8 - (intOf i).toNat)
      case atStart => exact ⟨0, by omega, rfl, rfl, made_dig wx wx.heap.size (Nat.le_refl _) C hCs.out, by simp, (Below.refl _ _).alloc (Nat.le_refl _) _⟩
      case round =>
        obtain ⟨t, ht, rfl, rfl, hown, hz, hbs⟩ := hrel
        by_cases htl : t < 8
        · have hcell : wr.cell? ⟨w.heap.size, t, none⟩ = some (.int .u32 (tn (st.at t))) := by
            rw [hbs.cell (p := ⟨w.heap.size, t, none⟩) hlt3, row_cell HR.out]
            have := w8_at st t htl
            rwa [List.getElem?_toArray] at this
          have t0 : (0 : Int) ≤ (t : Int) := by omega
          have t1 : (t : Int) < 8 := by omega
          have HO := Lib.hid (show cellsOf (digestTo st.at t) ++ [Value.int .u8 (tn (st.at t) / (16777216 : Int) % (256 : Int)), .int .u8 (tn (st.at t) / (65536 : Int) % (256 : Int)), .int .u8 (tn (st.at t) / (256 : Int) % (256 : Int)), .int .u8 (tn (st.at t) % (256 : Int))] = cellsOf (digestTo st.at (t + 1)) by rw [word4_cells, digestTo_succ, cellsOf_append])
          have Q0 := Lib.hid (show 4 * t + 4 ≤ 32 by omega)
          go_wp2
          go_region_held3 (fun w' => w'.cell? ⟨w.heap.size, t, none⟩ = some (.int .u32 (tn (st.at t))))
            (first | (rw [hgrow.cell_far _ (by simp; omega) (by simp; omega)]; go_keep; done) | (go_keep; done))
            ((refine step_append_fits rfl (.tmp 29) (.tmp 49) 64 rfl wx.heap.size 5 i0 1 Tryz.underlying64 hi hz1 wx.heap.size (4 * t) 32 _ rfl ((hown.alloc _).drew) ⟨wr.heap.size, 0, none⟩ 4 4 [Value.int .u8 (tn (st.at t) / (16777216 : Int) % (256 : Int)), .int .u8 (tn (st.at t) / (65536 : Int) % (256 : Int)), .int .u8 (tn (st.at t) / (256 : Int) % (256 : Int)), .int .u8 (tn (st.at t) % (256 : Int))] rfl rfl (news_new wr _ _) (by simp [Value.oneCell']) Q0.out ?_; intro w5 hown1 hgrow))
          all_goals
            rw [HO.out] at hown1
            have hs5 := hgrow.size
            simp at hs5
            have hb5 : Below wx.heap.size wx w5 := ((hbs.alloc (by omega) _).drew).grown hgrow (by simp; omega) (fun k' e => by cases e; exact Nat.le_refl _)
            clear hown hgrow
            go_wp2
            go_roundw
            case rel => exact ⟨t + 1, by omega, by go_num, rfl, hown1, by omega, hb5⟩
            case measure => simp [intOf]; omega
        · have et : t = 8 := by omega
          subst et
          have hconv := run_convert_bytes_back wr 64 9 5 ⟨wx.heap.size, 0, none⟩ 32 (digestTo st.at 8) Tryz.underlying64 Tryz.underlying5 Tryz.underlying9 (owned_bytes hown rfl)
          rw [digestTo_length] at hconv
          go_wp2
          go_ret
          exact ⟨by rw [← HST.out]; rfl, hbe.trans (hbs.mono hbe.size)⟩
end Go.Proofs.YtmnklonoelpidaaGreatDoor
/- The document's numbers, frames and hashes. -/
namespace Go.Proofs.YtmnklonoelpidaaGreatDoor
open Go.RowKit

theorem numL_drop (n k q : Nat) (hk : k < 8) (hq : n / 256 ^ k = q) : [UInt8.ofNat q] ++ (numL n).drop (8 - k) = (numL n).drop (8 - (k + 1)) := by
  have hl : 8 - (k + 1) < (numL n).length := by rw [numL_length]; omega
  rw [List.drop_eq_getElem_cons hl, show 8 - (k + 1) + 1 = 8 - k by omega]
  have e := numL_get n (8 - (k + 1)) (by omega)
  rw [List.getElem?_eq_getElem hl, Option.some.injEq] at e
  rw [e, ← hq, show 56 - 8 * (8 - (k + 1)) = 8 * k by omega, Nat.pow_mul]
  rfl


set_option maxRecDepth 100000 in
set_option maxHeartbeats 1000000 in
theorem refNum_any (n : Nat) (w : World) (hn : n < 18446744073709551616) :
    Calls Tryz.prog 73 #[.int .u64 (n : Int)] w fun e w' => e = .returned (.string ⟨(numL n).toArray⟩) ∧ Below w.heap.size w w' := by
  go_enter Tryz.func73, Tryz.ntmps73
  go_wp2
  go_loopw [0, 3, 4] (fun v s i wr => ∃ k q : Nat, ∃ D : List UInt8, k ≤ 8 ∧ Hid (n / 256 ^ k = q) ∧ Hid (D = (numL n).drop (8 - k)) ∧ D.length = k ∧ v = .int .u64 (q : Int) ∧ s = .string ⟨D.toArray⟩ ∧ i = .int .i64 (k : Int) ∧ Below w.heap.size w wr)
    (fun _ _ i _ => 8 - (intOf i).toNat)
  case atStart => exact ⟨0, n, [], by omega, Lib.hid (by simp), Lib.hid (by rw [List.drop_of_length_le (by rw [numL_length]; omega)]), rfl, rfl, rfl, rfl, Below.refl _ _⟩
  case round =>
    obtain ⟨k, q, D, hk, HQ, HD, hDl, rfl, rfl, rfl, hbe⟩ := hrel
    have hqn : q < 18446744073709551616 := by have := Nat.div_le_self n (256 ^ k); rw [HQ.out] at this; omega
    by_cases hlt : k < 8
    · have hz := hbe.size
      have hX : (q : Int) % (256 : Int) = ((UInt8.ofNat q).toNat : Int) := by rw [UInt8.toNat_ofNat']; omega
      have HP := Lib.hid (strAdd [UInt8.ofNat q] D)
      have HD2 := Lib.hid (show [UInt8.ofNat q] ++ D = (numL n).drop (8 - (k + 1)) by rw [HD.out, numL_drop n k q hlt HQ.out])
      have hconv := run_convert_bytes_back (P := Tryz.prog) (wr.alloc (.cells #[.int .u8 ((q : Int) % (256 : Int))] 5)) 64 9 5 ⟨wr.heap.size, 0, none⟩ 1 [UInt8.ofNat q] Tryz.underlying64 Tryz.underlying5 Tryz.underlying9 (oneByte wr _ _ hX)
      simp only [List.length_cons, List.length_nil, Nat.zero_add] at hconv
      clear hX
      go_wp2
      go_roundw
      case rel => exact ⟨k + 1, q / 256, [UInt8.ofNat q] ++ D, by omega, Lib.hid (by rw [Nat.pow_succ, ← Nat.div_div_eq_div_mul, HQ.out]), HD2, by simp; omega, by go_num, congrArg Value.string HP.out, by go_num, hbe.alloc hz _⟩
      case measure => simp [intOf]; omega
    · have ek : k = 8 := by omega
      go_wp2
      go_ret
      exact ⟨by rw [HD.out, ek]; rfl, hbe⟩


set_option maxHeartbeats 400000 in
theorem refFrame_bad (tag : List UInt8) (v : Value) (w : World) (h : tag.length < 1 ∨ 16 < tag.length) (hm : tag.length ≤ maxLen) :
    Calls Tryz.prog 102 #[.string ⟨tag.toArray⟩, v] w fun e w' => e = .returned (.string ⟨#[]⟩) ∧ w = w' := by
  unfold maxLen at hm
  rcases h with h | h
  · go_enter Tryz.func102, Tryz.ntmps102
    go_wp2
    go_ret
    exact ⟨rfl, rfl⟩
  · have h1 : ¬ tag.length < 1 := by omega
    go_enter Tryz.func102, Tryz.ntmps102
    go_wp2
    go_ret
    exact ⟨rfl, rfl⟩


set_option maxRecDepth 100000 in
set_option maxHeartbeats 1000000 in
theorem refFrame_good (tag : List UInt8) (ao : Option Addr) (cap : Nat) (L : List (List UInt8)) (w : World) (hs : Strs ao L w) (h1 : 1 ≤ tag.length) (h16 : tag.length ≤ 16) (hlen : (framed tag L).length < 100000000000) :
    Calls Tryz.prog 102 #[.string ⟨tag.toArray⟩, .slice ao L.length cap] w fun e w' => e = .returned (.string ⟨(framed tag L).toArray⟩) ∧ Below w.heap.size w w' := by
  have hc := framed_count tag L L.length (Nat.le_refl _)
  rw [List.take_length] at hc
  have HS := Lib.hid hs
  clear hs
  have hX : (tag.length : Int) = ((UInt8.ofNat tag.length).toNat : Int) := by rw [UInt8.toNat_ofNat']; omega
  have hconv := run_convert_bytes_back (P := Tryz.prog) (w.alloc (.cells #[.int .u8 (tag.length : Int)] 5)) 64 9 5 ⟨w.heap.size, 0, none⟩ 1 [UInt8.ofNat tag.length] Tryz.underlying64 Tryz.underlying5 Tryz.underlying9 (oneByte w _ _ hX)
  simp only [List.length_cons, List.length_nil, Nat.zero_add] at hconv
  clear hX
  have HP := Lib.hid (strAdd [UInt8.ofNat tag.length] tag)
  go_enter Tryz.func102, Tryz.ntmps102
  go_wp2
  clear hconv
  go_loopw [5, 6] (fun s i wr => ∃ k : Nat, ∃ T : List UInt8, k ≤ L.length ∧ i = .int .i64 (k : Int) ∧ s = .string ⟨T.toArray⟩ ∧ Hid (T = framed tag (L.take k)) ∧ Below w.heap.size w wr)
    (fun _ i _ => L.length - (intOf i).toNat)
  case atStart => exact ⟨0, _, by omega, rfl, congrArg Value.string HP.out, Lib.hid (by rw [List.take_zero, framed_nil]; rfl), (Below.refl _ _).alloc (Nat.le_refl _) _⟩
  case round =>
    obtain ⟨k, T, hk, rfl, rfl, HT, hb⟩ := hrel
    have hm1 := framed_mono tag L k
    rw [← HT.out] at hm1
    have z := hb.size
    by_cases hlt : k < L.length
    · obtain ⟨b, off, rfl, hcell⟩ := (HS.out.below (Nat.le_refl _) hb).cell k hlt
      have hblt : b < wr.heap.size := World.block_lt_of_cell? wr _ hcell
      have hm2 := framed_mono tag L (k + 1)
      rw [framed_len tag L k hlt, ← HT.out] at hm2
      have HT2 := Lib.hid (framed_snoc tag L k hlt)
      obtain ⟨X, hX⟩ : ∃ X, L[k] = X := ⟨_, rfl⟩
      rw [hX] at hcell hm2 HT2
      clear hX
      have k0 : (0 : Int) ≤ (k : Int) := by omega
      have k1 : (k : Int) < (L.length : Int) := by omega
      have hn8 : (numL X.length).length = 8 := numL_length _
      have hs1 := run_cat T (numL X.length) (by rw [hn8]; omega)
      have hs2 := run_cat (T ++ numL X.length) X (by rw [List.length_append, hn8]; omega)
      have hwr : IntKind.u64.wrap (X.length : Int) = (X.length : Int) := by rw [wrap_u64]; omega
      go_wp2
      go_region_held3 (fun w' => w'.cell? ⟨b, off + k, none⟩ = some (.string ⟨X.toArray⟩))
        (first | (exact (hb1.cell (p := ⟨b, off + k, none⟩) hblt).trans hcell) | (go_keep; done))
        (first | (go_at_call 73; (try rw [hwr]); refine (refNum_any X.length _ (by omega)).mono ?_; rintro e w1 ⟨rfl, hb1⟩))
      all_goals
        have hb2 : Below w.heap.size w w1 := hb.drew.trans (hb1.mono z)
        clear hb1
        go_wp2
        go_roundw
        case rel => exact ⟨k + 1, T ++ (numL X.length ++ X), by omega, by go_num, rfl, Lib.hid (by rw [HT2.out, ← HT.out, partL]), hb2⟩
        case measure => simp [intOf]; omega
    · have ek : k = L.length := by omega
      subst ek
      have HE := Lib.hid (show T = framed tag L by rw [HT.out, List.take_length])
      clear HT
      go_wp2
      go_ret
      exact ⟨by rw [HE.out]; rfl, hb⟩


theorem refFrameAll (tag : List UInt8) (ao : Option Addr) (cap : Nat) (L : List (List UInt8)) (w : World) (hs : Strs ao L w) (hm : tag.length ≤ maxLen) (hlen : (framed tag L).length < 100000000000) :
    Calls Tryz.prog 102 #[.string ⟨tag.toArray⟩, .slice ao L.length cap] w fun e w' => e = .returned (.string ⟨(frameL tag L).toArray⟩) ∧ Below w.heap.size w w' := by
  by_cases h : Tag tag
  · rw [frameL, if_pos h]; exact refFrame_good tag ao cap L w hs h.1 h.2 hlen
  · rw [frameL, if_neg h]
    exact (refFrame_bad tag _ w (by unfold Tag at h; omega) hm).mono fun e w' ⟨he, hw⟩ => ⟨he, hw ▸ Below.refl _ _⟩


set_option maxHeartbeats 1000000 in
theorem refHash_any (tag : List UInt8) (ao : Option Addr) (cap : Nat) (L : List (List UInt8)) (w : World) (hs : Strs ao L w) (hm : tag.length ≤ maxLen) (hlen : (framed tag L).length < 10000000000) :
    Calls Tryz.prog 76 #[.string ⟨tag.toArray⟩, .slice ao L.length cap] w fun e w' => e = .returned (.string ⟨(hashL tag L).toArray⟩) ∧ Below w.heap.size w w' := by
  by_cases h : Tag tag
  · rw [hashL, if_pos h]
    have hf := refFrameAll tag ao cap L w hs hm (by omega)
    rw [frameL, if_pos h] at hf
    obtain ⟨F, hF⟩ : ∃ F, framed tag L = F := ⟨_, rfl⟩
    have hne := not_empty F (by rw [← hF]; exact List.cons_ne_nil _ _)
    rw [hF] at hlen hf ⊢
    clear hF
    go_enter Tryz.func76, Tryz.ntmps76
    go_wp2_with fail
    refine hf.mono ?_
    rintro e w1 ⟨rfl, hb1⟩
    clear hf
    go_wp2_with fail
    refine (refSum_any F w1 hlen).mono ?_
    rintro e w2 ⟨rfl, hb2⟩
    go_wp2
    go_ret
    exact ⟨rfl, hb1.trans (hb2.mono hb1.size)⟩
  · rw [hashL, if_neg h]
    have hf := refFrameAll tag ao cap L w hs hm (by omega)
    rw [frameL, if_neg h] at hf
    go_enter Tryz.func76, Tryz.ntmps76
    go_wp2_with fail
    refine hf.mono ?_
    rintro e w1 ⟨rfl, hb1⟩
    clear hf
    go_wp2
    go_ret
    exact ⟨rfl, hb1⟩
end Go.Proofs.YtmnklonoelpidaaGreatDoor
