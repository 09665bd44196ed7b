/- The reference's Sum is the sum of the text, for texts below ten to the eleventh. -/
import Derived.Test.YtpbbpkflljcklaaDoorJTv
import Derived.Test.YtpbbpkflljcklaaDoorJTw
import Derived.Deep.RegionHeld3
import Derived.Deep.AppendLies
namespace Go.Proofs.YtpbbpkflljcklaaDoor
open Go.RowKit

theorem block_any (s : St) (B : List UInt8) (hB : B.length = 64) (w : World) :
    Calls Tryd.prog 59 #[.agg (w8 s).toArray, .string ⟨B.toArray⟩] w fun e w' => e = .returned (.agg (w8 (comp s B)).toArray) ∧ Below w.heap.size w w' :=
  block_fn (w8 s).toArray s.at B w hB (w8_at s)

theorem pad_mod (S : List UInt8) : (S ++ padL S.length).length % 64 = 0 := by
  have h : (padL S.length).length = 1 + noughts S.length + 8 := by simp [padL, be64To]; omega
  rw [List.length_append, h]
  unfold noughts
  omega
theorem row8 (s : St) : (w8 s).toArray.size = 8 := rfl
theorem drop_take64 (P : List UInt8) (j : Nat) : (P.take (64 * j + 64)).drop (64 * j) = (P.drop (64 * j)).take 64 := by
  rw [List.drop_take]; congr 1; omega
/-- the eight words, stored over the eight words -/
theorem words_over {w : World} {b : Nat} {s s' : St} (h : w.heap[b]? = some (.cells (w8 s).toArray 89 (0, 0))) : (w.setCells b 0 (w8 s')).heap[b]? = some (.cells (w8 s').toArray 89 (0, 0)) := by
  rw [heap_setCells_row (w8 s') 0 (w8 s) w h (by rw [w8_length, w8_length]; omega)]
  rfl

theorem extract_list' (Y : List UInt8) (i j : Nat) : (⟨Y.toArray⟩ : ByteArray).extract i j = ⟨((Y.take j).drop i).toArray⟩ := by
  apply ByteArray.ext
  rw [ByteArray.data_extract]
  simp [List.drop_take]
theorem iv_row : #[Value.int IntKind.u32 1779033703, Value.int IntKind.u32 3144134277, Value.int IntKind.u32 1013904242, Value.int IntKind.u32 2773480762, Value.int IntKind.u32 1359893119, Value.int IntKind.u32 2600822924, Value.int IntKind.u32 528734635, Value.int IntKind.u32 1541459225] = (w8 IV).toArray := by kernel_rfl

set_option maxRecDepth 100000 in
set_option maxHeartbeats 2000000 in
theorem refSum_any (S : List UInt8) (w : World) (hS : S.length < 10000000000) :
    Calls Tryd.prog 44 #[.string ⟨S.toArray⟩] w fun e w' => e = .returned (.string ⟨(shaL S).toArray⟩) ∧ Below w.heap.size w w' := by
  obtain ⟨i0, hi, hz0, hz1, hz2⟩ := info_parts Tryd.info5
  go_enter Tryd.func44, Tryd.ntmps44
  go_wp2_with fail
  rw [iv_row]
  refine (padded_any S _ (by omega)).mono ?_
  rintro e w1 ⟨rfl, hB1⟩
  have hrow1 : w1.heap[w.heap.size]? = some (.cells (w8 IV).toArray 89 (0, 0)) := (hB1.block _ (by simp)).trans (heap_alloc_new w _)
  have hB01 : Below w.heap.size w w1 := ((Below.refl _ _).alloc (Nat.le_refl _) _).trans (hB1.mono (by simp))
  have hmod := pad_mod S
  have hpl := padL_length S.length
  obtain ⟨P, hP⟩ : ∃ P, S ++ padL S.length = P := ⟨_, rfl⟩
  have hPl : P.length < 20000000000 := by rw [← hP, List.length_append]; omega
  rw [hP] at hmod
  rw [hP]
  have HP := Lib.hid hP
  obtain ⟨q, hq⟩ : ∃ q, P.length = 64 * q := ⟨P.length / 64, by omega⟩
  have Hq := Lib.hid hq
  have Hrow1 := Lib.hid hrow1
  clear hP hmod hrow1 hB1 hq
  go_wp2
  go_loopw [5] (fun i wr => ∃ j : Nat, j ≤ q ∧ i = .int .i64 (64 * (j : Int)) ∧ Hid (wr.heap[w.heap.size]? = some (.cells (w8 (hw P j)).toArray 89 (0, 0))) ∧ Below w.heap.size w wr) (fun i _ => 64 * q - (intOf i).toNat)
  case atStart => exact ⟨0, by omega, by go_num, Hrow1, hB01⟩
  case round =>
    obtain ⟨j, hj, rfl, HR, hbe⟩ := hrel
    by_cases hlt : j < q
    · have hPj : 64 * j + 64 ≤ P.length := by have := Hq.out; omega
      have hr0 : wr.drew.rangeAt w.heap.size 0 (w8 (hw P j)) := fun t v ht => by
        rw [World.cell?_drew, row_cell HR.out, Nat.zero_add]; exact ht
      have Hr0 := Lib.hid hr0
      clear hr0
      have a1 : (64 * (j : Int)) < (P.length : Int) := by omega
      obtain ⟨e1, e2, e3⟩ : IntKind.i64.wrap (64 * (j : Int) + 64) = 64 * (j : Int) + 64 ∧ (64 * (j : Int) + 64).toNat = 64 * j + 64 ∧ (64 * (j : Int)).toNat = 64 * j := ⟨IntWalk.i64_in _ (by omega), by omega, by omega⟩
      have a2 : (0 : Int) ≤ 64 * (j : Int) := by omega
      have a3 : 64 * (j : Int) ≤ 64 * (j : Int) + 64 := by omega
      have a4 : 64 * (j : Int) + 64 ≤ (P.length : Int) := by omega
      go_wp2
      refine wp_region_still_tail 6 (by kernel_rfl) (by kernel_rfl) ?_
      simp only [List.take_succ_cons, List.take_zero, List.drop_succ_cons, List.drop_zero]
      refine wpStill_load_mid rfl 89 (.tmp 3) rfl w.heap.size 0 rfl (w8 (hw P j)) _ Hr0.out Tryd.underlying89 rfl (by kernel_rfl) ?_
      still_step
      still_step
      still_step
      still_step
      still_step
      refine wpStill_nil ?_
      change wpList _ _ _ _ _ wr.drew
      clear e1 e2 e3
      go_wp2_with fail
      rw [extract_list', drop_take64]
      have hBl : ((P.drop (64 * j)).take 64).length = 64 := by rw [List.length_take, List.length_drop]; omega
      refine (block_any (hw P j) ((P.drop (64 * j)).take 64) hBl wr.drew).mono ?_
      rintro e w3 ⟨rfl, hB3⟩
      clear hBl
      have hlt3 : w.heap.size < wr.heap.size := (Array.getElem?_eq_some_iff.1 HR.out).1
      have hrow3 : w3.heap[w.heap.size]? = some (.cells (w8 (hw P j)).toArray 89 (0, 0)) := (hB3.block _ hlt3).trans HR.out
      have hth : w3.there w.heap.size 0 8 := fun t ht => ⟨by rw [row_cell hrow3]; exact isSome_getElem? _ _ (by rw [w8_length]; omega), row_free hrow3 _⟩
      have hrow4 := words_over (s' := comp (hw P j) ((P.drop (64 * j)).take 64)) hrow3
      have hB4 : Below w.heap.size w (w3.setCells w.heap.size 0 (w8 (comp (hw P j) ((P.drop (64 * j)).take 64)))) := Below_setCells (hbe.drew.trans (hB3.mono hbe.size)) (Nat.le_refl _) 0 _
      have Hth := Lib.hid hth
      obtain ⟨w4, hw4⟩ : ∃ w4, w3.setCells w.heap.size 0 (w8 (comp (hw P j) ((P.drop (64 * j)).take 64))) = w4 := ⟨_, rfl⟩
      rw [hw4] at hrow4 hB4
      have HW4 := Lib.hid hw4
      have HR4 : Hid (w4.heap[w.heap.size]? = some (.cells (w8 (hw P (j + 1))).toArray 89 (0, 0))) := Lib.hid hrow4
      clear hth hrow3 hrow4 hw4
      go_wp2_with (refine wpList_store_mid rfl 89 (.tmp 3) (.tmp 23) rfl w.heap.size 0 (w8 (comp (hw P j) ((P.drop (64 * j)).take 64))).toArray rfl rfl Hth.out (by kernel_rfl) (w8_one _) ?_; rw [List.toList_toArray, HW4.out])
      go_roundw
      case rel => exact ⟨j + 1, by omega, by go_num, HR4, hB4⟩
      case measure => simp [intOf]; omega
    · generalize wr = wx at *
      have ej : Hid (j = q) := Lib.hid (by omega)
      have hnl : ¬ (64 * (j : Int)) < (P.length : Int) := by have := Hq.out; have := ej.out; omega
      obtain ⟨st, hst⟩ : ∃ st, hw P j = st := ⟨_, rfl⟩
      rw [hst] at HR
      have HST : Hid (digestTo st.at 8 = shaL S) := Lib.hid (by rw [shaL, HP.out, Hq.out, Nat.mul_div_cancel_left q (by omega), ← ej.out, hst])
      clear hst
      have hlt3 : w.heap.size < wx.heap.size := (Array.getElem?_eq_some_iff.1 HR.out).1
      obtain ⟨C, hC⟩ : ∃ C, C = madeCells #[.int .u8 0] 32 := ⟨_, rfl⟩
      have hmk : ∀ w, (Instr.makeSlice 33 (.int .i64 0) (.int .i64 32)).run Tryd.prog w = .ok (.slice (some ⟨w.heap.size, 0, none⟩) 0 32) (w.alloc (.cells C 5)) := by
        intro w
        have h := run_make (P := Tryd.prog) w 33 5 i0 (.int .u8 0) Tryd.underlying33 hi hz0 .i64 .i64 0 32 (by omega) (by omega) (by rw [hz2]; omega) (by omega)
        rw [show (0:Int).toNat = 0 by omega, show (32:Int).toNat = 32 by omega, hz1, Nat.mul_one] at h
        rw [hC]
        exact h
      have hCs := Lib.hid (show C.size = 32 by rw [hC]; exact size_madeCells _ _)
      clear hC
      go_wp2
      go_loopw [6, 7] (fun v' i wr => ∃ t : Nat, t ≤ 8 ∧ i = .int .i64 (t : Int) ∧ v' = .slice (some ⟨wx.heap.size, 0, none⟩) (4 * t) 32 ∧
          wr.ownsRow wx.heap.size 5 1 (.slice (some ⟨wx.heap.size, 0, none⟩) (4 * t) 32) (4 * t) (cellsOf (digestTo st.at t)) ∧ wx.heap.size < wr.heap.size ∧ Below wx.heap.size wx wr)
        (fun _ i _ => 8 - (intOf i).toNat)
      case atStart => exact ⟨0, by omega, rfl, rfl, made_dig wx wx.heap.size (Nat.le_refl _) C hCs.out, by simp, (Below.refl _ _).alloc (Nat.le_refl _) _⟩
      case round =>
        obtain ⟨t, ht, rfl, rfl, hown, hz, hbs⟩ := hrel
        by_cases htl : t < 8
        · have hcell : wr.cell? ⟨w.heap.size, t, none⟩ = some (.int .u32 (tn (st.at t))) := by
            rw [hbs.cell (p := ⟨w.heap.size, t, none⟩) hlt3, row_cell HR.out]
            have := w8_at st t htl
            rwa [List.getElem?_toArray] at this
          have t0 : (0 : Int) ≤ (t : Int) := by omega
          have t1 : (t : Int) < 8 := by omega
          have HO := Lib.hid (show cellsOf (digestTo st.at t) ++ [Value.int .u8 (tn (st.at t) / (16777216 : Int) % (256 : Int)), .int .u8 (tn (st.at t) / (65536 : Int) % (256 : Int)), .int .u8 (tn (st.at t) / (256 : Int) % (256 : Int)), .int .u8 (tn (st.at t) % (256 : Int))] = cellsOf (digestTo st.at (t + 1)) by rw [word4_cells, digestTo_succ, cellsOf_append])
          have Q0 := Lib.hid (show 4 * t + 4 ≤ 32 by omega)
          go_wp2
          go_region_held3 (fun w' => w'.cell? ⟨w.heap.size, t, none⟩ = some (.int .u32 (tn (st.at t))))
            (first | (rw [hgrow.cell_far _ (by simp; omega) (by simp; omega)]; go_keep; done) | (go_keep; done))
            ((refine step_append_fits rfl (.tmp 29) (.tmp 49) 33 rfl wx.heap.size 5 i0 1 Tryd.underlying33 hi hz1 wx.heap.size (4 * t) 32 _ rfl ((hown.alloc _).drew) ⟨wr.heap.size, 0, none⟩ 4 4 [Value.int .u8 (tn (st.at t) / (16777216 : Int) % (256 : Int)), .int .u8 (tn (st.at t) / (65536 : Int) % (256 : Int)), .int .u8 (tn (st.at t) / (256 : Int) % (256 : Int)), .int .u8 (tn (st.at t) % (256 : Int))] rfl rfl (news_new wr _ _) (by simp [Value.oneCell']) Q0.out ?_; intro w5 hown1 hgrow))
          all_goals
            rw [HO.out] at hown1
            have hs5 := hgrow.size
            simp at hs5
            have hb5 : Below wx.heap.size wx w5 := ((hbs.alloc (by omega) _).drew).grown hgrow (by simp; omega) (fun k' e => by cases e; exact Nat.le_refl _)
            clear hown hgrow
            go_wp2
            go_roundw
            case rel => exact ⟨t + 1, by omega, by go_num, rfl, hown1, by omega, hb5⟩
            case measure => simp [intOf]; omega
        · have et : t = 8 := by omega
          subst et
          have hconv := run_convert_bytes_back wr 33 9 5 ⟨wx.heap.size, 0, none⟩ 32 (digestTo st.at 8) Tryd.underlying33 Tryd.underlying5 Tryd.underlying9 (owned_bytes hown rfl)
          rw [digestTo_length] at hconv
          go_wp2
          go_ret
          exact ⟨by rw [← HST.out]; rfl, hbe.trans (hbs.mono hbe.size)⟩
end Go.Proofs.YtpbbpkflljcklaaDoor
