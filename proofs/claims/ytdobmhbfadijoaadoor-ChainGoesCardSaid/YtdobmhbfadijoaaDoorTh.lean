/- Write takes the text in: behind it the hasher has read the old text and the new one, for lengths below ten to the twelfth. -/
import Derived.Test.YtdobmhbfadijoaaDoorTg
namespace Go.Proofs.YtdobmhbfadijoaaDoor
open Go.RowKit

theorem row_cell {w : World} {b : Nat} {L : List Value} {t : TypeId} (h : w.heap[b]? = some (.cells L.toArray t (0, 0))) (i : Nat) : w.cell? ⟨b, i, none⟩ = L[i]? := by
  rw [cell_of_row w b i _ t _ h, List.getElem?_toArray]
theorem row_free {w : World} {b : Nat} {L : List Value} {t : TypeId} (h : w.heap[b]? = some (.cells L.toArray t (0, 0))) (i : Nat) : w.frozen? ⟨b, i, none⟩ = false := frozen_of_row w b i _ t h

theorem isSome_getElem? (L : List Value) (i : Nat) (h : i < L.length) : (L[i]?).isSome = true := by rw [List.getElem?_eq_getElem h]; rfl
theorem min_of (a b : Nat) : ∃ m, Nat.min a b = m ∧ m ≤ a ∧ m ≤ b ∧ (m = a ∨ m = b) :=
  ⟨_, rfl, Nat.min_le_left a b, Nat.min_le_right a b, (Nat.le_total a b).elim (fun h => .inl (Nat.min_eq_left h)) (fun h => .inr (Nat.min_eq_right h))⟩
theorem extract_end (Y : List UInt8) (m : Nat) : (⟨Y.toArray⟩ : ByteArray).extract m Y.length = ⟨(Y.drop m).toArray⟩ := by
  apply ByteArray.ext
  rw [ByteArray.data_extract]
  simp [List.take_of_length_le]
theorem w8_one (s : St) : (w8 s).toArray.all (·.oneCell') = true := by simp [w8, Value.oneCell']
/-- how many bytes a string has -/
def strLen : Value → Nat | .string s => s.size | _ => 0
theorem szof5 (w : World) : (Go.sizeOf 5).run Tryd.prog w = .ok 1 w := by kernel_rfl

set_option maxRecDepth 100000 in
set_option maxHeartbeats 1000000 in
theorem write_any (b : Nat) (T S : List UInt8) (w : World) (hH : Has b T w) (hg : Glob w) (hb : 2 ≤ b) (hlen : T.length + S.length < 1000000000000) :
    Calls Tryd.prog 35 #[.pointer (some ⟨b, 0, none⟩), .string ⟨S.toArray⟩] w fun e w' => e = .returned (.tuple #[]) ∧ Has b (T ++ S) w' ∧ But b w w' := by
  have HH := Lib.hid hH
  clear hH
  go_enter Tryd.func35, Tryd.ntmps35
  go_wp2
  go_loopw [1, 4] (fun s _ wr => ∃ X Y : List UInt8, Hid (S = X ++ Y) ∧ s = .string ⟨Y.toArray⟩ ∧ Hid (Has b (T ++ X) wr) ∧ But b w wr) (fun s _ _ => strLen s)
  case atStart => exact ⟨[], S, Lib.hid rfl, rfl, by simpa using HH, But.refl _ _⟩
  case round =>
    obtain ⟨X, Y, HS, rfl, HX, hbut⟩ := hrel
    by_cases hy : Y = []
    · subst hy
      have hsx := HS.out
      rw [List.append_nil] at hsx
      go_wp2
      go_end0
      exact ⟨rfl, by rw [hsx]; exact HX.out, hbut⟩
    · have hy0 : 0 < Y.length := List.length_pos_iff.2 hy
      clear hy
      obtain ⟨O, hO, hOt, hrow⟩ := HX.out
      obtain ⟨n, hn⟩ : ∃ n, (T ++ X).length = n := ⟨_, rfl⟩
      obtain ⟨st, hst⟩ : ∃ st, hw (T ++ X) (n / 64) = st := ⟨_, rfl⟩
      obtain ⟨r, hr⟩ : ∃ r, n % 64 = r := ⟨_, rfl⟩
      obtain ⟨m, hm, hm1', hm2', hmx'⟩ := min_of Y.length (64 - r)
      have hm1 := Lib.hid hm1'
      have hm2 := Lib.hid hm2'
      have hmx := Lib.hid hmx'
      clear hm1' hm2' hmx'
      have hr64 : r < 64 := by omega
      have hnm : n + Y.length < 1000000000000 := by have h1 := congrArg List.length HS.out; rw [List.length_append] at hn h1; omega
      rw [hn, hst] at hrow
      rw [hn, hr] at hOt
      have c72 : wr.cell? ⟨b, 72, none⟩ = some (.int .u64 (n : Int)) := by rw [row_cell hrow, hcells_at72 _ _ _ hO]
      have e1 : (n : Int).tmod 64 = (r : Int) := by rw [Int.tmod_eq_emod_of_nonneg (by omega)]; omega
      have e2 : (0 : Int) ≤ (r : Int) := by omega
      have e3 : (r : Int) ≤ 64 := by omega
      have e4 : (r : Int) < 64 := by omega
      have e5 : (r : Nat) ≤ 64 := by omega
      have HO := Lib.hid hO
      have HOt := Lib.hid hOt
      have Hrow := Lib.hid hrow
      have Hn := Lib.hid hn
      have Hst := Lib.hid hst
      have Hr := Lib.hid hr
      have Hm := Lib.hid hm
      clear hO hOt hrow hn hst hr hm
      go_wp2
      go_still_tail 10, (by kernel_rfl)
      change wpList _ _ _ _ _ wr.drew
      have Hmin : Nat.min (⟨Y.toArray⟩ : ByteArray).size (64 - r) = m := Hm.out
      refine wpList_copy_str rfl (.tmp 18) (.tmp 19) 31 9 rfl 5 Tryd.underlying31 szof5 b (8 + r) (64 - r) (64 - r) ?hd ⟨Y.toArray⟩ ?hx m Hmin ?hc ?hf ?hnext
      case hd => simp [Act.eval]; omega
      case hx => rfl
      case hc =>
        intro j hj
        have := hm2.out
        rw [World.cell?_drew, row_cell Hrow.out]
        exact isSome_getElem? _ _ (by rw [hcells_length _ _ _ HO.out]; omega)
      case hf => intro j _; rw [World.frozen?_drew]; exact row_free Hrow.out _
      case hnext =>
        obtain ⟨Z, hZ⟩ : ∃ Z, Y.take m = Z := ⟨_, rfl⟩
        have hZl : Hid (Z.length = m) := Lib.hid (by rw [← hZ, List.length_take]; have := hm1.out; omega)
        have hrow2 : (wr.drew.setCells b (8 + r) (cellsOf Z)).heap[b]? = some (.cells (hcells st (splice O r Z) n).toArray 73 (0, 0)) := by
          rw [← hcells_open st O n r Z HO.out (by have := hZl.out; have := hm2.out; omega)]
          exact heap_setCells_row _ _ _ _ Hrow.out (by rw [hcells_length _ _ _ HO.out, cellsOf_length]; have := hZl.out; have := hm2.out; omega)
        have hbut2 := hbut.drew.setCells (8 + r) (cellsOf Z)
        have eW : wr.drew.setCells b (8 + r) (cellsOf ((⟨Y.toArray⟩ : ByteArray).data.toList.take m)) = wr.drew.setCells b (8 + r) (cellsOf Z) := by rw [← hZ]
        rw [eW]
        clear eW
        generalize wr.drew.setCells b (8 + r) (cellsOf Z) = w2 at *
        have HZ := Lib.hid hZ
        clear hZ c72 e1 hbut Hmin
        have c72 : w2.cell? ⟨b, 72, none⟩ = some (.int .u64 (n : Int)) := by rw [row_cell hrow2, hcells_at72 _ _ _ (by rw [length_splice _ _ _ (by have := hZl.out; have := hm2.out; have := HO.out; omega)]; exact HO.out)]
        have f72 : w2.frozen? ⟨b, 72, none⟩ = false := row_free hrow2 72
        have Hrow2 := Lib.hid hrow2
        clear hrow2
        have hmY : (m : Int) ≤ (Y.length : Int) := by have := hm1.out; omega
        have hmY2 : m ≤ Y.length := hm1.out
        have hm64 : m ≤ 64 := by have := hm2.out; omega
        have eY := Lib.hid (extract_end Y m)
        have eS : Hid (S = (X ++ Z) ++ Y.drop m) := Lib.hid (by rw [HS.out, List.append_assoc, ← HZ.out, List.take_append_drop])
        have eN : Hid ((T ++ (X ++ Z)).length = n + m) := Lib.hid (by rw [← List.append_assoc, List.length_append, Hn.out, hZl.out])
        have hO2 : Hid ((splice O r Z).length = 64) := Lib.hid (by rw [length_splice _ _ _ (by have := hZl.out; have := hm2.out; have := HO.out; omega)]; exact HO.out)
        have Hrow3 : Hid ((w2.setCell ⟨b, 72, none⟩ (.int .u64 ((n : Int) + (m : Int)))).heap[b]? = some (.cells (hcells st (splice O r Z) (n + m)).toArray 73 (0, 0))) := Lib.hid (by
          rw [heap_setCell_same w2 b 72 _ 73 _ Hrow2.out, List.setIfInBounds_toArray, show ((n : Int) + (m : Int)) = ((n + m : Nat) : Int) from rfl, hcells_size _ _ _ _ hO2.out])
        have hbut3 := hbut2.setCell 72 (.int .u64 ((n : Int) + (m : Int)))
        have hm0 : Hid (0 < m) := Lib.hid (by have := hmx.out; omega)
        by_cases hfull : r + m < 64
        · have t1 : ((n : Int) + (m : Int)) % 64 = ((r + m : Nat) : Int) := by have := Hr.out; omega
          have t2 : (((r + m : Nat) : Int) == 0) = false := beq_eq_false_iff_ne.2 (by have := hm0.out; omega)
          have tk := take_in (T ++ X) O Z HO.out (by rw [Hn.out, Hr.out]; exact HOt.out) (by rw [Hn.out, Hr.out, hZl.out]; exact hfull)
          rw [List.append_assoc, eN.out, Hn.out, Hst.out, Hr.out] at tk
          have TK := Lib.hid tk
          clear tk
          go_wp2
          go_roundw
          case rel =>
            exact ⟨X ++ Z, Y.drop m, eS, congrArg Value.string eY.out, Lib.hid ⟨splice O r Z, hO2.out, by rw [eN.out]; exact TK.out.1, by rw [eN.out, TK.out.2.1]; exact Hrow3.out⟩, hbut3⟩
          case measure =>
            show ((⟨Y.toArray⟩ : ByteArray).extract m Y.length).size < Y.length
            rw [eY.out]
            show (Y.drop m).length < Y.length
            rw [List.length_drop]
            have := hm0.out
            omega
        · have t1 : ((n : Int) + (m : Int)) % 64 = 0 := by have := Hr.out; have := hm2.out; omega
          have hfl : r + m = 64 := by have := hm2.out; omega
          have tk := take_full (T ++ X) O Z HO.out (by rw [Hn.out, Hr.out]; exact HOt.out) (by rw [Hn.out, Hr.out, hZl.out]; exact hfl)
          rw [List.append_assoc, eN.out, Hn.out, Hst.out, Hr.out] at tk
          have TK := Lib.hid tk
          clear tk hfl
          go_wp2
          clear t1 c72 f72
          have hgb : Glob (w2.setCell ⟨b, 72, none⟩ (.int .u64 ((n : Int) + (m : Int)))) := hg.below (Nat.le_refl 2) (hbut3.below (by have := hg.size; omega) hb)
          generalize w2.setCell ⟨b, 72, none⟩ (.int .u64 ((n : Int) + (m : Int))) = w3 at *
          have hr0 : w3.drew.rangeAt b 0 (w8 st) := fun j v hj => by
            rw [World.cell?_drew, row_cell Hrow3.out, Nat.zero_add, hcells, List.getElem?_append_left (List.getElem?_eq_some_iff.1 hj).1]; exact hj
          have hr8 : w3.drew.rangeAt b 8 (cellsOf (splice O r Z)) := fun j v hj => by
            have hjl := (List.getElem?_eq_some_iff.1 hj).1
            rw [World.cell?_drew, row_cell Hrow3.out, hcells, List.getElem?_append_right (by rw [w8_length]; omega), w8_length, Nat.add_sub_cancel_left, List.getElem?_append_left hjl]; exact hj
          have hi43 : (Tryd.prog.info? 71).map (·.size) = some (cellsOf (splice O r Z)).length := by rw [cellsOf_length, hO2.out]; kernel_rfl
          refine wp_region_any (by kernel_rfl) ?_
          change wpAny _ _ _ _ _ _ _ (World.drew _)
          refine wpAny_take (i := 0) (oi := ⟨some 39, .move (.tmp 0), _, _, _, none⟩) (v := .pointer (some ⟨b, 0, none⟩)) rfl (by kernel_rfl) (by kernel_rfl) (by kernel_rfl) (fun _ _ _ h => h) (Or.inl ⟨by rfl, fun _ => rfl⟩) ?_
          simp only [Act.put, List.setIfInBounds_toArray, List.set_cons_succ, List.set_cons_zero]
          refine wpAny_take (i := 1) (oi := ⟨some 40, .move (.tmp 0), _, _, _, none⟩) (v := .pointer (some ⟨b, 0, none⟩)) rfl (by kernel_rfl) (by kernel_rfl) (by kernel_rfl) (fun _ _ _ h => h) (Or.inl ⟨by rfl, fun _ => rfl⟩) ?_
          simp only [Act.put, List.setIfInBounds_toArray, List.set_cons_succ, List.set_cons_zero]
          refine wpAny_take (i := 2) (oi := ⟨some 41, .nilCheck (.tmp 40), _, _, _, none⟩) (v := .pointer (some ⟨b, 0, none⟩)) rfl (by kernel_rfl) (by kernel_rfl) (by kernel_rfl) (fun _ _ _ h => h) (Or.inl ⟨by rfl, fun _ => rfl⟩) ?_
          simp only [Act.put, List.setIfInBounds_toArray, List.set_cons_succ, List.set_cons_zero]
          refine wpAny_take (i := 3) (oi := ⟨some 42, .fieldAddr 73 (.tmp 41) 0, _, _, _, none⟩) (v := .pointer (some ⟨b, 0, none⟩)) rfl (by kernel_rfl) (by kernel_rfl) (by kernel_rfl) (fun _ _ _ h => h) (Or.inl ⟨by rfl, fun _ => by kernel_rfl⟩) ?_
          simp only [Act.put, List.setIfInBounds_toArray, List.set_cons_succ, List.set_cons_zero]
          refine wpAny_take (i := 5) (oi := ⟨some 44, .move (.tmp 0), _, _, _, none⟩) (v := .pointer (some ⟨b, 0, none⟩)) rfl (by kernel_rfl) (by kernel_rfl) (by kernel_rfl) (fun _ _ _ h => h) (Or.inl ⟨by rfl, fun _ => rfl⟩) ?_
          simp only [Act.put, List.setIfInBounds_toArray, List.set_cons_succ, List.set_cons_zero]
          refine wpAny_take (i := 6) (oi := ⟨some 45, .nilCheck (.tmp 44), _, _, _, none⟩) (v := .pointer (some ⟨b, 0, none⟩)) rfl (by kernel_rfl) (by kernel_rfl) (by kernel_rfl) (fun _ _ _ h => h) (Or.inl ⟨by rfl, fun _ => rfl⟩) ?_
          simp only [Act.put, List.setIfInBounds_toArray, List.set_cons_succ, List.set_cons_zero]
          refine wpAny_take (i := 7) (oi := ⟨some 46, .fieldAddr 73 (.tmp 45) 1, _, _, _, none⟩) (v := .pointer (some ⟨b, 8, none⟩)) rfl (by kernel_rfl) (by kernel_rfl) (by kernel_rfl) (fun _ _ _ h => h) (Or.inl ⟨by rfl, fun _ => by kernel_rfl⟩) ?_
          simp only [Act.put, List.setIfInBounds_toArray, List.set_cons_succ, List.set_cons_zero]
          have hgd : Glob w3.drew := ⟨hgb.size, hgb.iv, hgb.k⟩
          refine wpAny_ready (rs := [4, 8]) (by kernel_rfl) (by simp) (AllReady.cons (o := ⟨some 43, .load 70 (.tmp 42), _, _, _, none⟩) rfl (fun K hK => ?_) (AllReady.cons (o := ⟨some 47, .load 71 (.tmp 46), _, _, _, none⟩) rfl (fun K hK => ?_) AllReady.nil))
          · rw [if_pos (by rfl)]
            refine wp_load_mid 70 (.tmp 42) rfl b 0 rfl (w8 st) _ hr0 Tryd.underlying70 rfl (by kernel_rfl) (hK _ _ ?_)
            clear hK K
            simp only [Act.put, List.setIfInBounds_toArray, List.set_cons_succ, List.set_cons_zero]
            refine wpAny_ready (rs := [8]) (by kernel_rfl) (by simp) (AllReady.cons (o := ⟨some 47, .load 71 (.tmp 46), _, _, _, none⟩) rfl (fun K hK => ?_) AllReady.nil)
            rw [if_pos (by rfl)]
            refine wp_load_mid 71 (.tmp 46) rfl b 8 rfl (cellsOf (splice O r Z)) _ hr8 Tryd.underlying71 rfl hi43 (hK _ _ ?_)
            clear hK K
            simp only [Act.put, List.setIfInBounds_toArray, List.set_cons_succ, List.set_cons_zero]
            refine wpAny_ready (rs := [9]) (by kernel_rfl) (by simp) (AllReady.cons (o := ⟨some 48, .call ⟨.value (.func 42), #[.tmp 43, .tmp 47], #[70, 71]⟩, _, _, _, none⟩) rfl (fun K hK => ?_) AllReady.nil)
            have HK := Lib.hid hK
            clear hK
            go_simp
            refine (with_any st (splice O r Z) hO2.out _ hgd).mono ?_
            rintro e w4 ⟨rfl, hb4⟩
            refine HK.out _ _ ?_
            clear HK K
            try simp only [Act.put, List.setIfInBounds_toArray, List.set_cons_succ, List.set_cons_zero]
            refine wpAny_take (i := 10) (oi := ⟨some 49, .nilCheck (.tmp 39), _, _, _, none⟩) (v := .pointer (some ⟨b, 0, none⟩)) rfl (by kernel_rfl) (by kernel_rfl) (by kernel_rfl) (fun _ _ _ h => h) (Or.inl ⟨by rfl, fun _ => rfl⟩) ?_
            simp only [Act.put, List.setIfInBounds_toArray, List.set_cons_succ, List.set_cons_zero]
            refine wpAny_take (i := 11) (oi := ⟨some 50, .fieldAddr 73 (.tmp 49) 0, _, _, _, none⟩) (v := .pointer (some ⟨b, 0, none⟩)) rfl (by kernel_rfl) (by kernel_rfl) (by kernel_rfl) (fun _ _ _ h => h) (Or.inl ⟨by rfl, fun _ => by kernel_rfl⟩) ?_
            simp only [Act.put, List.setIfInBounds_toArray, List.set_cons_succ, List.set_cons_zero]
            have hbs : b < w3.heap.size := by
              have := (Array.getElem?_eq_some_iff.1 Hrow3.out).1
              exact this
            have hrow4 : w4.heap[b]? = some (.cells (hcells st (splice O r Z) (n + m)).toArray 73 (0, 0)) := (hb4.block b hbs).trans Hrow3.out
            have hth : w4.there b 0 8 := fun j hj => ⟨by rw [row_cell hrow4]; exact isSome_getElem? _ _ (by rw [hcells_length _ _ _ hO2.out]; omega), row_free hrow4 _⟩
            refine wpAny_ready (rs := [12]) (by kernel_rfl) (by simp) (AllReady.cons (o := ⟨none, .store 70 (.tmp 50) (.tmp 48), _, _, _, none⟩) rfl (fun K hK => ?_) AllReady.nil)
            rw [if_pos (by rfl)]
            refine wp_store_mid 70 (.tmp 50) (.tmp 48) rfl b 0 (w8 (comp st (splice O r Z))).toArray rfl rfl hth (by kernel_rfl) (w8_one _) (hK _ _ ?_)
            clear hK K
            refine wpAny_done (by kernel_rfl) ?_ _
            have hrow5 := heap_setCells_row (w8 (comp st (splice O r Z))) 0 _ w4 hrow4 (by rw [hcells_length _ _ _ hO2.out, w8_length]; omega)
            rw [hcells_words] at hrow5
            have Hrow5 := Lib.hid hrow5
            have hbut5 : But b w (w4.setCells b 0 (w8 (comp st (splice O r Z)))) := (hbut3.drew.trans (But.of_below hb4)).setCells 0 _
            clear hrow4 hrow5 hth hb4
            simp only [Act.put]
            generalize w4.setCells b 0 (w8 (comp st (splice O r Z))) = w5 at *
            go_wp2
            go_roundw
            case rel =>
              exact ⟨X ++ Z, Y.drop m, eS, congrArg Value.string eY.out, Lib.hid ⟨splice O r Z, hO2.out, by rw [eN.out, TK.out.1, TK.out.2.1]; rfl, by rw [eN.out, TK.out.2.2]; exact Hrow5.out⟩, hbut5⟩
            case measure =>
              show ((⟨Y.toArray⟩ : ByteArray).extract m Y.length).size < Y.length
              rw [eY.out]
              show (Y.drop m).length < Y.length
              rw [List.length_drop]
              have := hm0.out
              omega
          · rw [if_pos (by rfl)]
            refine wp_load_mid 71 (.tmp 46) rfl b 8 rfl (cellsOf (splice O r Z)) _ hr8 Tryd.underlying71 rfl hi43 (hK _ _ ?_)
            clear hK K
            simp only [Act.put, List.setIfInBounds_toArray, List.set_cons_succ, List.set_cons_zero]
            refine wpAny_ready (rs := [4]) (by kernel_rfl) (by simp) (AllReady.cons (o := ⟨some 43, .load 70 (.tmp 42), _, _, _, none⟩) rfl (fun K hK => ?_) AllReady.nil)
            rw [if_pos (by rfl)]
            refine wp_load_mid 70 (.tmp 42) rfl b 0 rfl (w8 st) _ hr0 Tryd.underlying70 rfl (by kernel_rfl) (hK _ _ ?_)
            clear hK K
            simp only [Act.put, List.setIfInBounds_toArray, List.set_cons_succ, List.set_cons_zero]
            refine wpAny_ready (rs := [9]) (by kernel_rfl) (by simp) (AllReady.cons (o := ⟨some 48, .call ⟨.value (.func 42), #[.tmp 43, .tmp 47], #[70, 71]⟩, _, _, _, none⟩) rfl (fun K hK => ?_) AllReady.nil)
            have HK := Lib.hid hK
            clear hK
            go_simp
            refine (with_any st (splice O r Z) hO2.out _ hgd).mono ?_
            rintro e w4 ⟨rfl, hb4⟩
            refine HK.out _ _ ?_
            clear HK K
            try simp only [Act.put, List.setIfInBounds_toArray, List.set_cons_succ, List.set_cons_zero]
            refine wpAny_take (i := 10) (oi := ⟨some 49, .nilCheck (.tmp 39), _, _, _, none⟩) (v := .pointer (some ⟨b, 0, none⟩)) rfl (by kernel_rfl) (by kernel_rfl) (by kernel_rfl) (fun _ _ _ h => h) (Or.inl ⟨by rfl, fun _ => rfl⟩) ?_
            simp only [Act.put, List.setIfInBounds_toArray, List.set_cons_succ, List.set_cons_zero]
            refine wpAny_take (i := 11) (oi := ⟨some 50, .fieldAddr 73 (.tmp 49) 0, _, _, _, none⟩) (v := .pointer (some ⟨b, 0, none⟩)) rfl (by kernel_rfl) (by kernel_rfl) (by kernel_rfl) (fun _ _ _ h => h) (Or.inl ⟨by rfl, fun _ => by kernel_rfl⟩) ?_
            simp only [Act.put, List.setIfInBounds_toArray, List.set_cons_succ, List.set_cons_zero]
            have hbs : b < w3.heap.size := by
              have := (Array.getElem?_eq_some_iff.1 Hrow3.out).1
              exact this
            have hrow4 : w4.heap[b]? = some (.cells (hcells st (splice O r Z) (n + m)).toArray 73 (0, 0)) := (hb4.block b hbs).trans Hrow3.out
            have hth : w4.there b 0 8 := fun j hj => ⟨by rw [row_cell hrow4]; exact isSome_getElem? _ _ (by rw [hcells_length _ _ _ hO2.out]; omega), row_free hrow4 _⟩
            refine wpAny_ready (rs := [12]) (by kernel_rfl) (by simp) (AllReady.cons (o := ⟨none, .store 70 (.tmp 50) (.tmp 48), _, _, _, none⟩) rfl (fun K hK => ?_) AllReady.nil)
            rw [if_pos (by rfl)]
            refine wp_store_mid 70 (.tmp 50) (.tmp 48) rfl b 0 (w8 (comp st (splice O r Z))).toArray rfl rfl hth (by kernel_rfl) (w8_one _) (hK _ _ ?_)
            clear hK K
            refine wpAny_done (by kernel_rfl) ?_ _
            have hrow5 := heap_setCells_row (w8 (comp st (splice O r Z))) 0 _ w4 hrow4 (by rw [hcells_length _ _ _ hO2.out, w8_length]; omega)
            rw [hcells_words] at hrow5
            have Hrow5 := Lib.hid hrow5
            have hbut5 : But b w (w4.setCells b 0 (w8 (comp st (splice O r Z)))) := (hbut3.drew.trans (But.of_below hb4)).setCells 0 _
            clear hrow4 hrow5 hth hb4
            simp only [Act.put]
            generalize w4.setCells b 0 (w8 (comp st (splice O r Z))) = w5 at *
            go_wp2
            go_roundw
            case rel =>
              exact ⟨X ++ Z, Y.drop m, eS, congrArg Value.string eY.out, Lib.hid ⟨splice O r Z, hO2.out, by rw [eN.out, TK.out.1, TK.out.2.1]; rfl, by rw [eN.out, TK.out.2.2]; exact Hrow5.out⟩, hbut5⟩
            case measure =>
              show ((⟨Y.toArray⟩ : ByteArray).extract m Y.length).size < Y.length
              rw [eY.out]
              show (Y.drop m).length < Y.length
              rw [List.length_drop]
              have := hm0.out
              omega
end Go.Proofs.YtdobmhbfadijoaaDoor
