/- WotsRecovers: its walk. -/
import Derived.Test.YtpbbpkflljcklaaDoorJXi
import Derived.Test.YtpbbpkflljcklaaDoorJXh
namespace Go.Proofs.YtpbbpkflljcklaaDoor
open Go.RowKit

theorem cutBy_more (L : List (List UInt8)) (k m : Nat) (X : (List UInt8)) (h : k < L.length) (hX : L[k] = X) : cutBy L (k + 1) m = cutBy L k m ++ [X.take m] := by
  rw [cutBy, cutBy, List.take_succ_eq_append_getElem h, List.map_append, hX]; rfl
theorem cutBy_all (L : List (List UInt8)) (k n m : Nat) (hk : k ≤ L.length) (hkn : k ≤ n) (h : ¬ (k < L.length ∧ k < n)) : cutBy L k m = cutBy L n m := by
  by_cases e : k = n
  · rw [e]
  · rw [cutBy, cutBy, List.take_of_length_le (by omega), List.take_of_length_le (by omega)]
/-- the texts, made 67 of 32 bytes -/
def wholeL (G : List (List UInt8)) : List (List UInt8) := row67 fun i => padT (G.getD i [])
set_option maxRecDepth 100000 in
set_option maxHeartbeats 8000000 in
theorem wotsRecovers_any (C : WotsC) (HWK : WorksW) (L : List (List UInt8)) (ao : Option Addr) (cap : Nat) (d : (List UInt8)) (w : World) (hg : Glob w) (hS : Strs ao L w) (_hL : L.length ≤ maxLen) (hl : ∀ i (h : i < L.length), L[i].length ≤ maxLen) (_hd : d.length ≤ maxLen) :
    Calls Tryd.prog 4 #[.slice ao L.length cap, .string ⟨d.toArray⟩] w fun e w' => e = .returned (.bool true) ∧ Below w.heap.size w w' := by
  obtain ⟨q, hq1, hq2, hq3⟩ := extract_take d 40
  rw [show ((40 : Nat) : Int) = 40 from rfl] at hq1
  have q0 : (0 : Int) ≤ (q : Int) := by omega
  have q1 : (q : Int) ≤ (d.length : Int) := by omega
  have HLD := Lib.hid (show (d.take 40).length ≤ 40 by rw [List.length_take]; omega)
  generalize d.take 40 = D at *
  have HS := Lib.hid hS
  have HL := Lib.hid hl
  have HG := Lib.hid hg
  unfold maxLen at _hL _hd
  clear hS hl hg
  go_enter Tryd.func4, Tryd.ntmps4
  go_upto_region 4 with fail
  go_loopw [5, 7] (fun v5 v7 wr => ∃ (k : Nat) (v : Value), k ≤ L.length ∧ k ≤ 70 ∧ v = v5 ∧ v7 = .int .i64 (k : Int) ∧ Hid (TRow w.heap.size (cutBy L k 40) v5 wr) ∧ Hid (Below w.heap.size w wr)) (fun _ v7 _ => L.length - (intOf v7).toNat)
  case atStart => exact ⟨0, _, Nat.zero_le _, Nat.zero_le _, rfl, rfl, Lib.hid (trow_nil _ _), Lib.hid (Below.refl _ _)⟩
  case round =>
    obtain ⟨k, v5, hk, hk70, rfl, rfl, HI, HB⟩ := hrel
    by_cases hlt : k < L.length ∧ k < 70
    · obtain ⟨hlt1, hlt2⟩ := hlt
      obtain ⟨b, off, rfl, hc⟩ := HS.out.cell k hlt1
      obtain ⟨X, hX⟩ : ∃ X, L[k] = X := ⟨_, rfl⟩
      have hlk := HL.out k hlt1
      unfold maxLen at hlk
      rw [hX] at hc hlk
      have HO := Lib.hid (cutBy_more L k 40 X hlt1 hX)
      have hcell : wr.drew.cell? ⟨b, off + k, none⟩ = some (.string ⟨X.toArray⟩) := (World.cell?_of_block (HB.out.drew.block _ (World.block_lt_of_cell? w _ hc))).trans hc
      have k0 : (0 : Int) ≤ (k : Int) := by omega
      have k1 : (k : Int) < (L.length : Int) := by omega
      have k2 : (k : Int) < 70 := by omega
      obtain ⟨m, hm1, hm2, hm3⟩ := extract_take X 40
      rw [show ((40 : Nat) : Int) = 40 from rfl] at hm1
      have m0 : (0 : Int) ≤ (m : Int) := by omega
      have m1 : (m : Int) ≤ (X.length : Int) := by omega
      have HID := Lib.hid (trow_next HI.out (Below.refl _ _).drew)
      have HBD := Lib.hid (below_drew HB.out)
      have hcl := (cutBy_len L k 40).1
      clear hX hc
      generalize X.take 40 = Y at *
      generalize cutBy L k 40 = R at *
      go_upto_region 6 with fail
      go_region_law (first
        | (refine step_append_txt (t := Y) rfl (.tmp 33) (.tmp 45) rfl rfl rfl HID.out (by omega) HBD.out.size ?_; intro g5 c5 w5 ho5 hg5 _; have HO5 := Lib.hid ho5; have HB5 := Lib.hid (HBD.out.grown hg5 HBD.out.size (fun j e => (HID.out.lt j e).1)); clear ho5 hg5))
      all_goals
        go_wp2
        go_roundw
        case rel => exact ⟨k + 1, _, by omega, by omega, rfl, by go_num, Lib.hid (by rw [HO.out]; exact HO5.out), HB5⟩
        case measure => simp [intOf]; omega
    · rw [cutBy_all L k 70 40 hk hk70 hlt] at HI
      have hGl := (cutBy_len L 70 40).1
      have hGs := cutBy_short L 70 40
      generalize cutBy L 70 40 = G at *
      obtain ⟨sa, sc, rfl, hSG⟩ := trow_len HI.out
      have HSG := Lib.hid hSG
      have HGS := Lib.hid hGs
      have HB1 := Lib.hid HB.out
      obtain ⟨w1, hw1⟩ : ∃ w1, w1 = wr := ⟨_, rfl⟩
      subst hw1
      have hcs : ((k : Int) < (L.length : Int) ∧ ¬ (k : Int) < 70) ∨ ¬ (k : Int) < (L.length : Int) := by omega
      clear hSG hGs HI HB HS HL hk hlt
      obtain ⟨f, hf⟩ : ∃ f : Nat → (List UInt8), f = fun i => padT (G.getD i []) := ⟨_, rfl⟩
      have HFL := Lib.hid (fun k => show ((row67 f).take k).length ≤ 67 by rw [List.length_take, row67_len]; omega)
      have HT := Lib.hid (fun k hk => row67_take f k hk)
      have HF1 := Lib.hid (fun (k : Nat) (h : k < G.length) => show f k = padT G[k] by rw [hf]; show padT (G.getD k []) = _; rw [List.getD_eq_getElem?_getD, List.getElem?_eq_getElem h]; rfl)
      have HF0 := Lib.hid (fun (k : Nat) (h : ¬ k < G.length) => show f k = List.replicate 32 0 by rw [hf]; show padT (G.getD k []) = _; rw [List.getD_eq_getElem?_getD, List.getElem?_eq_none (by omega)]; rfl)
      have HF32 := Lib.hid (fun k => show (f k).length = 32 by rw [hf]; exact padT_len _)
      clear hf
      rcases hcs with ⟨k1, k2⟩ | k1
      all_goals
        go_upto_region 8 with fail
        go_loopw [6, 8] (fun v6 v8 wr => ∃ (k : Nat) (v : Value), k ≤ 67 ∧ v = v6 ∧ v8 = .int .i64 (k : Int) ∧ Hid (TRow w1.heap.size ((row67 f).take k) v6 wr) ∧ Hid (Below w1.heap.size w1 wr)) (fun _ v8 _ => 67 - (intOf v8).toNat)
        case atStart => exact ⟨0, _, Nat.zero_le _, rfl, rfl, Lib.hid (trow_nil _ _), Lib.hid (Below.refl _ _)⟩
        case round =>
          obtain ⟨j, v6, hj, rfl, rfl, HI, HB⟩ := hrel
          by_cases hlt : j < 67
          · have j1 : (j : Int) < 67 := by omega
            have j0 : (0 : Int) ≤ (j : Int) := by omega
            have HTk := Lib.hid (HT.out j hlt)
            have HLT := Lib.hid hlt
            have HLk := HFL.out j
            by_cases hi : j < G.length
            · have j2 : (j : Int) < (G.length : Int) := by omega
              obtain ⟨b2, o2, rfl, hc⟩ := HSG.out.cell j hi
              have hfj := HF1.out j hi
              have hcell : wr.cell? ⟨b2, o2 + j, none⟩ = some (.string ⟨G[j].toArray⟩) := (World.cell?_of_block (HB.out.block _ (World.block_lt_of_cell? w1 _ hc))).trans hc
              have hGj := HGS.out j hi
              generalize G[j] = X at *
              obtain ⟨m, hm1, hm2, hm3⟩ := extract_take X 32
              rw [show ((32 : Nat) : Int) = 32 from rfl] at hm1
              have m0 : (0 : Int) ≤ (m : Int) := by omega
              have m1 : (m : Int) ≤ (X.length : Int) := by omega
              have hYl : (X.take 32).length ≤ 32 := by rw [List.length_take]; omega
              rw [padT] at hfj
              generalize X.take 32 = Y at *
              have hcell' : wr.drew.cell? ⟨b2, o2 + j, none⟩ = some (.string ⟨X.toArray⟩) := hcell
              clear hc hi hlt
              obtain ⟨q2, hq⟩ : ∃ q2, q2 = 32 - Y.length := ⟨_, rfl⟩
              have e1 : (32 : Int) - (Y.length : Int) = (q2 : Int) := by omega
              have hmk := fun w => make_bytes q2 (by omega) w
              have hcv : ∀ wz : World, (convert 33 9 (.slice (some ⟨wz.heap.size, 0, none⟩) q2 q2)).run Tryd.prog (wz.alloc (.cells (bytesC (List.replicate q2 0)).toArray 5)) = .ok (.string ⟨(List.replicate q2 (0 : UInt8)).toArray⟩) (wz.alloc (.cells (bytesC (List.replicate q2 0)).toArray 5)) := by
                intro wz
                have := conv_bytes (List.replicate q2 0) wz.heap.size q2 (wz.alloc (.cells (bytesC (List.replicate q2 0)).toArray 5)) (fun j hj => bytes_cell (heap_alloc_new wz _) j hj)
                rwa [List.length_replicate] at this
              have hct := fun w => run_cat Y (List.replicate q2 0) (by rw [List.length_replicate]; omega) w
              rw [← hq] at hfj
              rw [hfj] at HTk
              generalize (row67 f).take j = R at *
              generalize List.replicate q2 (0 : UInt8) = Z at *
              generalize Y ++ Z = P at *
              clear hq
              go_upto_region 12 with fail
              go_quiet (fail)
              have HIN := Lib.hid (trow_next HI.out (by0q wr nq))
              have HBN := Lib.hid (Below_drewN' HB.out nq)
              generalize wr.drewN nq = wn at *
              have HIA := Lib.hid (trow_next HIN.out (by0 wn (.cells (bytesC Z).toArray 5)))
              have HBA := Lib.hid (HBN.out.alloc (by have := HBN.out.size; omega) (.cells (bytesC Z).toArray 5))
              go_wp2_with (at_builtin; refine append_txt (t := P) rfl _ _ rfl rfl (by rw [World.size_alloc]; rfl) HIA.out (by omega) HBA.out.size ?_; intro g5 c5 w5 ho5 hg5 _; have HO5 := Lib.hid ho5; have HB5 := Lib.hid (HBA.out.grown hg5 HBA.out.size (fun j e => (HIA.out.lt j e).1)); clear ho5 hg5)
              go_roundw
              case rel => exact ⟨j + 1, _, HLT.out, rfl, by go_num, Lib.hid (by rw [HTk.out]; exact HO5.out), HB5⟩
              case measure => have := HLT.out; simp [intOf]; omega
            · have j2 : ¬ (j : Int) < (G.length : Int) := by omega
              have hfj := HF0.out j hi
              have hmk := fun w => show (Instr.makeSlice 33 (.int .i64 32) (.int .i64 32)).run Tryd.prog w = .ok (.slice (some ⟨w.heap.size, 0, none⟩) 32 32) (w.alloc (.cells (bytesC (List.replicate 32 0)).toArray 5)) from make_bytes 32 (by decide) w
              have hcv : ∀ wz : World, (convert 33 9 (.slice (some ⟨wz.heap.size, 0, none⟩) 32 32)).run Tryd.prog (wz.alloc (.cells (bytesC (List.replicate 32 0)).toArray 5)) = .ok (.string ⟨(List.replicate 32 (0 : UInt8)).toArray⟩) (wz.alloc (.cells (bytesC (List.replicate 32 0)).toArray 5)) := by
                intro wz
                have := conv_bytes (List.replicate 32 0) wz.heap.size 32 (wz.alloc (.cells (bytesC (List.replicate 32 0)).toArray 5)) (fun j hj => bytes_cell (heap_alloc_new wz _) j hj)
                rwa [List.length_replicate] at this
              have hct := fun w => run_cat [] (List.replicate 32 0) (by rw [List.length_replicate]; decide) w
              rw [List.nil_append, show (([] : (List UInt8)).toArray) = #[] from rfl] at hct
              rw [hfj] at HTk
              generalize (row67 f).take j = R at *
              generalize List.replicate 32 (0 : UInt8) = Z at *
              clear hfj hi hlt
              have HIA := Lib.hid (trow_next HI.out (by0 wr (.cells (bytesC Z).toArray 5)))
              have HBA := Lib.hid (HB.out.alloc (by have := HB.out.size; omega) (.cells (bytesC Z).toArray 5))
              go_wp2_with (at_builtin; refine append_txt (t := Z) rfl _ _ rfl rfl (by rw [World.size_alloc]; rfl) HIA.out (by omega) HBA.out.size ?_; intro g5 c5 w5 ho5 hg5 _; have HO5 := Lib.hid ho5; have HB5 := Lib.hid (HBA.out.grown hg5 HBA.out.size (fun j e => (HIA.out.lt j e).1)); clear ho5 hg5)
              go_roundw
              case rel => exact ⟨j + 1, _, HLT.out, rfl, by go_num, Lib.hid (by rw [HTk.out]; exact HO5.out), HB5⟩
              case measure => have := HLT.out; simp [intOf]; omega
          · have j1 : ¬ (j : Int) < 67 := by omega
            have ek : (row67 f).take j = row67 f := List.take_of_length_le (by rw [row67_len]; omega)
            rw [ek] at HI
            have hw67 := row67_len f
            have hw32 : ∀ x ∈ row67 f, x.length ≤ 1000 := fun x hx => by
              obtain ⟨i, hi, rfl⟩ := List.mem_map.1 hx
              rw [HF32.out i]; decide
            generalize row67 f = WL at *
            obtain ⟨wa, wc, rfl, hSW⟩ := trow_len HI.out
            have hGm : ∀ x ∈ G, x.length ≤ 1000 := fun x hx => by
              obtain ⟨i, hi, rfl⟩ := List.getElem_of_mem hx
              exact Nat.le_trans (HGS.out i hi) (by decide)
            have HGB := Lib.hid (fun wz (h : Below w.heap.size w wz) => HG.out.below HG.out.size h)
            have HA1 := Lib.hid (fun wz (h : Below w.heap.size w wz) (hS : Strs sa G wz) => C.r G sa sc D wz (HGB.out wz h) hS (by omega) hGm (by have := HLD.out; omega))
            have HA2 := Lib.hid (fun wz (hS : Strs sa G wz) => rrecover_any G sa sc D wz hS)
            have HA3 := Lib.hid (fun wz (h : Below w.heap.size w wz) (hS : Strs wa WL wz) => C.r WL wa wc D wz (HGB.out wz h) hS (by omega) hw32 (by have := HLD.out; omega))
            have HA4 := Lib.hid (fun wz (hS : Strs wa WL wz) => rrecover_any WL wa wc D wz hS)
            generalize (recC G D).1 = r1 at *
            generalize (recC G D).2 = e1 at *
            generalize (recC WL D).1 = r2 at *
            generalize (recC WL D).2 = e2 at *
            have HWO := Lib.hid (fun wz (h : Below w.heap.size w wz) => HWK wz (HGB.out wz h))
            have B := Lib.hid (below_next HB1.out HB.out)
            have SA := Lib.hid (HSG.out.below (Nat.le_refl _) HB.out)
            have SW := Lib.hid hSW
            clear hSW hw32 hGm hw67 ek hlt hj HI HB HB1 HSG HF32 HF1 HF0 HT HFL HLD HGS
            go_upto_region 15 with (go_at_call 14; with_reducible refine (HA1.out _ B.out SA.out).mono ?_; rintro e w2 ⟨rfl, hb2⟩; have B := Lib.hid (below_next B.out hb2); have SA := Lib.hid (SA.out.below (Nat.le_refl _) hb2); have SW := Lib.hid (SW.out.below (Nat.le_refl _) hb2); clear hb2)
            clear HA1
            go_upto_region 16 with (go_at_call 15; with_reducible refine (HA2.out _ SA.out).mono ?_; rintro e w3 ⟨rfl, hb3⟩; have B := Lib.hid (below_next B.out hb3); have SW := Lib.hid (SW.out.below (Nat.le_refl _) hb3); clear hb3)
            clear HA2
            go_upto_region 17 with (go_at_call 14; with_reducible refine (HA3.out _ B.out SW.out).mono ?_; rintro e w4 ⟨rfl, hb4⟩; have B := Lib.hid (below_next B.out hb4); have SW := Lib.hid (SW.out.below (Nat.le_refl _) hb4); clear hb4)
            clear HA3
            go_upto_region 18 with (go_at_call 15; with_reducible refine (HA4.out _ SW.out).mono ?_; rintro e w5 ⟨rfl, hb5⟩; have B := Lib.hid (below_next B.out hb5); clear hb5)
            clear HA4
            go_wp2_with (go_at_call 13; with_reducible refine (HWO.out _ B.out).mono ?_; rintro e w6 ⟨rfl, hb6⟩; have B := Lib.hid (below_next B.out hb6); clear hb6)
            exact bodyPost_ret (v := .bool true) (by simp [results, Tryd.results4, go_sem]) rfl ⟨rfl, B.out⟩
end Go.Proofs.YtpbbpkflljcklaaDoor
