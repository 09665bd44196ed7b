/- The document's Take: of a sort, what stands there. -/
import Derived.Test.YtlhmmplkdjibkaaGreatDoorJ1
import Derived.BigQuiet
import Derived.Deep.Cut
import Derived.Deep.QuietTactic
namespace Go.Proofs.YtlhmmplkdjibkaaGreatDoor
open Go.RowKit

/-- a number, its bytes one behind the other -/
def beN : Nat → List UInt8 → Nat
  | k, [] => k
  | n, b :: r => beN (256 * n + b.toNat) r
theorem beN_snoc (b : UInt8) : ∀ (l : List UInt8) (n : Nat), beN n (l ++ [b]) = 256 * beN n l + b.toNat
  | [], _ => rfl
  | _ :: l, _ => beN_snoc b l _
theorem beN_lt : ∀ (l : List UInt8) (n : Nat), beN n l < (n + 1) * 256 ^ l.length
  | [], _ => by simp [beN]
  | b :: l, n => by
    have h := beN_lt l (256 * n + b.toNat)
    have hb : b.toNat < 256 := b.toNat_lt
    rw [beN, List.length_cons, Nat.pow_succ, Nat.mul_comm (256 ^ l.length) 256, ← Nat.mul_assoc]
    exact Nat.lt_of_lt_of_le h (Nat.mul_le_mul_right _ (by omega))
/-- what stands ahead of bytes: the number (or length), the bytes, the Code, how many bytes were read -/
structure TP where
  n : Nat
  t : List UInt8
  c : Nat
  m : Nat
def takeP (left : List UInt8) (most s : Nat) : TP :=
  match left with
  | [] => ⟨0, [], 4, 0⟩
  | b :: r =>
    if (rowU s b.toNat).1 < 0 then ⟨0, [], 5, 0⟩
    else if r.length < (rowU s b.toNat).1.toNat then ⟨0, [], 4, 0⟩
    else if beN (rowU s b.toNat).2.1 (r.take (rowU s b.toNat).1.toNat) < (rowU s b.toNat).2.2 then ⟨0, [], 5, 0⟩
    else if s ≠ 0 ∧ most < beN (rowU s b.toNat).2.1 (r.take (rowU s b.toNat).1.toNat) then ⟨0, [], 3, 0⟩
    else if s = 1 ∨ s = 2 then
      if r.length - (rowU s b.toNat).1.toNat < beN (rowU s b.toNat).2.1 (r.take (rowU s b.toNat).1.toNat) then ⟨0, [], 4, 0⟩
      else ⟨beN (rowU s b.toNat).2.1 (r.take (rowU s b.toNat).1.toNat), (r.drop (rowU s b.toNat).1.toNat).take (beN (rowU s b.toNat).2.1 (r.take (rowU s b.toNat).1.toNat)), 0, 1 + (rowU s b.toNat).1.toNat + beN (rowU s b.toNat).2.1 (r.take (rowU s b.toNat).1.toNat)⟩
    else ⟨beN (rowU s b.toNat).2.1 (r.take (rowU s b.toNat).1.toNat), [], 0, 1 + (rowU s b.toNat).1.toNat⟩
/-- rows: what there is -/
theorem rowU_fit (s c : Nat) (hc : c < 256) : (rowU s c = (-1, 0, 0)) ∨ ((rowU s c).1 = 0 ∧ (rowU s c).2.1 < 256 ∧ (rowU s c).2.2 = 0) ∨ (((rowU s c).1 = 1 ∨ (rowU s c).1 = 2 ∨ (rowU s c).1 = 4 ∨ (rowU s c).1 = 8) ∧ (rowU s c).2.1 = 0 ∧ (rowU s c).2.2 ≤ 4294967296) := by
  unfold rowU
  repeat' split
  all_goals simp <;> omega

/-- all blocks but b are as they were, and new ones lie behind -/
structure Only (b : Nat) (w w' : World) : Prop where
  os : w'.os = w.os
  tape : w'.tape = w.tape
  output : w'.output = w.output
  size : w.heap.size ≤ w'.heap.size
  block : ∀ k, k < w.heap.size → k ≠ b → w'.heap[k]? = w.heap[k]?
theorem Only.refl (b : Nat) (w : World) : Only b w w := ⟨rfl, rfl, rfl, Nat.le_refl _, fun _ _ _ => rfl⟩
theorem Only.of_below {b : Nat} {w w' : World} (h : Below w.heap.size w w') : Only b w w' := ⟨h.os, h.tape, h.output, h.size, fun k hk _ => h.block k hk⟩
theorem Only.trans {b : Nat} {w w1 w2 : World} (h : Only b w w1) (k : Only b w1 w2) : Only b w w2 :=
  ⟨k.os.trans h.os, k.tape.trans h.tape, k.output.trans h.output, Nat.le_trans h.size k.size, fun i hi hne => (k.block i (Nat.lt_of_lt_of_le hi h.size) hne).trans (h.block i hi hne)⟩
theorem Only.below {b B : Nat} {w w' : World} (h : Only b w w') (hB : B ≤ b) (hs : B ≤ w.heap.size) : Below B w w' := ⟨h.os, h.tape, h.output, h.size, fun k hk => h.block k (by omega) (by omega)⟩
theorem Only.set (b k : Nat) (v : Value) (w : World) : Only b w (w.setCell ⟨b, k, none⟩ v) :=
  ⟨rfl, rfl, rfl, ((Below.refl b w).setCell (Nat.le_refl _) v).size, fun _ _ hne => lit_far v hne⟩

/-- the document's reader -/
def RefAt (b : Nat) (S : List UInt8) (a most : Nat) (w : World) : Prop := w.heap[b]? = some (.cells #[.string ⟨S.toArray⟩, .int .i64 (a : Int), .int .i64 (most : Int)] 140 (0, 0))

theorem index_str (L : List UInt8) (i : Nat) (hi : i < L.length) (w : World) : (Instr.index 9 (.string ⟨L.toArray⟩) (.int .i64 (i : Int))).run Tryz.prog w = .ok (.int .u8 (L[i].toNat : Int)) w := by
  rw [run_index_string w 9 _ _ _ Tryz.underlying9, dif_pos ⟨by omega, by show (i : Int) < (L.length : Int); omega⟩]
  rfl

theorem w64 (x : Int) (h : -9223372036854775808 ≤ x) (h2 : x < 9223372036854775808) : wrap64 x = x := by unfold wrap64; omega

theorem took_facts (k N M R : Nat) (hM : M ≤ 1000000000) (hl : M = R + 1) (hk : ¬ R < k) (h2 : ¬ R - k < N) : ¬ (M : Int) - 1 - (k : Int) < (N : Int) ∧ 1 + (k : Int) + (N : Int) ≤ (M : Int) ∧ N ≤ 1000000000 := by
  have hb : N + k ≤ R := by omega
  clear h2
  exact ⟨by omega, by omega, by omega⟩
theorem took_cut (k N : Nat) : (0 : Int) ≤ 1 + (k : Int) ∧ 1 + (k : Int) ≤ 1 + (k : Int) + (N : Int) ∧ (1 + (k : Int)).toNat = 1 + k ∧ (1 + (k : Int) + (N : Int)).toNat = 1 + k + N := ⟨by omega, by omega, by omega, by omega⟩
theorem took_text (left D : List UInt8) (k N : Nat) (h : (left.drop (1 + k)).take N = D) : (⟨left.toArray⟩ : ByteArray).extract (1 + k) (1 + k + N) = ⟨D.toArray⟩ := by
  rw [extract_list, ← h, List.drop_take, Nat.add_sub_cancel_left]
theorem took_at (a k N : Nat) : ((a + (1 + k + N) : Nat) : Int) = (a : Int) + (1 + (k : Int) + (N : Int)) := by omega

/-- what Take answers and leaves -/
structure Took (b : Nat) (S : List UInt8) (a most : Nat) (P : TP) (w : World) (e : Ending) (w' : World) : Prop where
  e : e = .returned (.tuple #[.int .u64 (P.n : Int), .string ⟨P.t.toArray⟩, .int .i64 (P.c : Int)])
  r : RefAt b S (a + P.m) most w'
  o : Only b w w'

set_option maxRecDepth 100000 in
set_option maxHeartbeats 4000000 in
theorem refTake_any (b : Nat) (S : List UInt8) (a most s : Nat) (w : World) (hs : s ≤ 4) (hS : S.length ≤ 1000000000) (ha : a ≤ S.length) (hm : most < 9223372036854775808) (hR : RefAt b S a most w) :
    Calls Tryz.prog 124 #[.pointer (some ⟨b, 0, none⟩), .int .i64 (s : Int)] w (Took b S a most (takeP (S.drop a) most s) w) := by
  have c0 := (lit_cell hR 0).trans rfl
  have c1 := (lit_cell hR 1).trans rfl
  have HR := Lib.hid hR
  have hex : (⟨S.toArray⟩ : ByteArray).extract a S.length = ⟨(S.drop a).toArray⟩ := by rw [extract_list, List.take_length]
  have a0 : (0 : Int) ≤ (a : Int) := by omega
  have a1 : (a : Int) ≤ (S.length : Int) := by omega
  clear hR
  generalize hl : S.drop a = left at *
  have hll : left.length ≤ 1000000000 := by rw [← hl, List.length_drop]; omega
  clear hl
  have HA := Lib.hid (And.intro (Nat.le_trans ha hS) hll)
  go_enter Tryz.func124, Tryz.ntmps124
  go_wp2
  go_quiet (fail)
  have HRq := Lib.hid (show RefAt b S a most (w.drewN nq) from HR.out)
  have HO := Lib.hid (show Only b w (w.drewN nq) from Only.of_below (by0q w nq))
  generalize w.drewN nq = wq at *
  have c0 := (lit_cell HRq.out 0).trans rfl
  have c1 := (lit_cell HRq.out 1).trans rfl
  have c2 := (lit_cell HRq.out 2).trans rfl
  have f1 := lit_free HRq.out 1
  clear HR hex
  by_cases hnil : left = []
  · subst hnil
    go_wp2
    refine bodyPost_ret (v := .tuple #[.int .u64 0, .string ⟨#[]⟩, .int .i64 4]) (by simp [results, Tryz.results124, go_sem, *]) rfl ⟨rfl, HRq.out, HO.out⟩
  · obtain ⟨c, r, hcr⟩ : ∃ c r, left = c :: r := by cases left with | nil => exact absurd rfl hnil | cons c r => exact ⟨c, r, rfl⟩
    have hne : left.isEmpty = false := by rw [hcr]; rfl
    have hix : (Instr.index 9 (.string ⟨left.toArray⟩) (.int .i64 0)).run Tryz.prog wq = .ok (.int .u8 (c.toNat : Int)) wq := by subst hcr; exact index_str (c :: r) 0 (by simp) wq
    have hlen : left.length = r.length + 1 := by rw [hcr]; rfl
    have HW := Lib.hid (row_any s c.toNat wq hs (by have := c.toNat_lt; omega))
    have HF := Lib.hid (rowU_fit s c.toNat (by have := c.toNat_lt; omega))
    have HCR := Lib.hid hcr
    have hq : c.toNat < 256 := c.toNat_lt
    obtain ⟨T, hT⟩ : ∃ T, takeP left most s = T := ⟨_, rfl⟩
    have HTP := Lib.hid hT
    rw [hcr, takeP] at hT
    clear hnil hcr
    have HLEN := Lib.hid hlen
    clear hlen
    have HQ := Lib.hid (show c.toNat = c.toNat from rfl)
    generalize c.toNat = q at *
    have hwq : wrap64 (q : Int) = (q : Int) := w64 _ (by omega) (by omega)
    generalize rowU s q = R at *
    obtain ⟨sz, n0, least⟩ := R
    simp only at hT HF HW
    have HT := Lib.hid hT
    clear hT
    rcases HF.out with hA | hBC
    · obtain ⟨rfl, rfl, rfl⟩ : sz = -1 ∧ n0 = 0 ∧ least = 0 := by simpa using hA
      have e := HT.out
      rw [if_pos (by decide)] at e
      subst e
      clear HF HT hs hS ha hm hll a0 a1
      go_wp2_with (go_at_call 165; refine HW.out.mono ?_; rintro e w1 ⟨rfl, rfl⟩)
      refine bodyPost_ret (v := .tuple #[.int .u64 0, .string ⟨#[]⟩, .int .i64 5]) (by simp [results, Tryz.results124, go_sem, *]) rfl (by rw [HTP.out]; exact ⟨rfl, HRq.out, HO.out⟩)
    · obtain ⟨z, rfl⟩ : ∃ z : Nat, sz = (z : Int) := ⟨sz.toNat, by omega⟩
      have hz8 : z ≤ 8 := by omega
      have hn0 : n0 < 256 ∧ (0 < z → n0 = 0) := by omega
      have HL4 := Lib.hid (show least ≤ 4294967296 by omega)
      have HN := Lib.hid hn0
      have hT := HT.out
      rw [if_neg (by omega), Int.toNat_natCast] at hT
      clear HF HT hBC hn0
      have hneg : ¬ (z : Int) < 0 := by omega
      by_cases hsh : r.length < z
      · rw [if_pos hsh] at hT
        subst hT
        have b1 : (left.length : Int) < 1 + (z : Int) := by have := HLEN.out; omega
        have b2 : wrap64 (1 + (z : Int)) = 1 + (z : Int) := w64 _ (by omega) (by omega)
        clear hs hS ha hm hll a0 a1 hsh
        go_wp2_with (go_at_call 165; refine HW.out.mono ?_; rintro e w1 ⟨rfl, rfl⟩)
        refine bodyPost_ret (v := .tuple #[.int .u64 0, .string ⟨#[]⟩, .int .i64 4]) (by simp [results, Tryz.results124, go_sem, *]) rfl (by rw [HTP.out]; exact ⟨rfl, HRq.out, HO.out⟩)
      · rw [if_neg hsh] at hT
        have b1 : ¬ (left.length : Int) < 1 + (z : Int) := by have := HLEN.out; omega
        have b2 : wrap64 (1 + (z : Int)) = 1 + (z : Int) := w64 _ (by omega) (by omega)
        have HT := Lib.hid hT
        have HSH := Lib.hid hsh
        clear hT hsh
        go_wp2_with (go_at_call 165; refine HW.out.mono ?_; rintro e w1 ⟨rfl, rfl⟩)
        clear c0 c1 hwq hix hne b1 b2 hneg HW hq a0 a1 hS ha hll
        go_loopw [9, 11] (fun v i wr => ∃ k : Nat, k ≤ z ∧ v = .int .u64 (beN n0 (r.take k) : Int) ∧ i = .int .i64 ((k : Int) + 1) ∧ wr = w1)
          (fun _ i _ => z + 1 - (intOf i).toNat)
        case atStart => exact ⟨0, by omega, by simp [beN], by simp, rfl⟩
        case round =>
          obtain ⟨k, hk, rfl, rfl, rfl⟩ := hrel
          by_cases hlt : k < z
          · obtain ⟨bb, hbb⟩ : ∃ bb, r[k]? = some bb := ⟨r[k]'(by have := HSH.out; omega), List.getElem?_eq_getElem _⟩
            have hix : (Instr.index 9 (.string ⟨left.toArray⟩) (.int .i64 ((k : Int) + 1))).run Tryz.prog wr = .ok (.int .u8 (bb.toNat : Int)) wr := by
              have h1 := HCR.out
              subst h1
              have h2 : k + 1 < (c :: r).length := by have := HSH.out; simp only [List.length_cons]; omega
              have h3 := index_str (c :: r) (k + 1) h2 wr
              have h4 : (c :: r)[k + 1] = bb := by
                have : (c :: r)[k + 1]? = some bb := by simpa using hbb
                rw [List.getElem?_eq_getElem h2, Option.some.injEq] at this
                exact this
              rw [h4] at h3
              exact_mod_cast h3
            have HS := Lib.hid (show beN n0 (r.take (k + 1)) = 256 * beN n0 (r.take k) + bb.toNat by
              rw [← beN_snoc, List.take_add_one, hbb]; rfl)
            have hN : beN n0 (r.take k) < 72057594037927936 := by
              have h := beN_lt (r.take k) n0
              have h0 := HN.out.2 (by omega)
              rw [h0, Nat.zero_add, Nat.one_mul] at h
              have h2 : (r.take k).length ≤ 7 := by rw [List.length_take]; omega
              rw [h0]
              exact Nat.lt_of_lt_of_le h (Nat.le_trans (Nat.pow_le_pow_right (by decide) h2) (by decide))
            generalize beN n0 (r.take k) = N at *
            have hb256 : bb.toNat < 256 := bb.toNat_lt
            generalize bb.toNat = y at *
            clear hbb
            have i1 : (k : Int) + 1 ≤ (z : Int) := by omega
            have e1 : (256 * (N : Int)) % 18446744073709551616 = 256 * (N : Int) := by omega
            have e2 : (256 * (N : Int) + (y : Int)) % 18446744073709551616 = 256 * (N : Int) + (y : Int) := by omega
            go_wp2
            go_roundw
            case rel => exact ⟨k + 1, by omega, by rw [HS.out]; go_num, by go_num, trivial⟩
            case measure => simp [intOf] <;> omega
          · obtain rfl : k = z := by omega
            have hT := HT.out
            have hlen := HLEN.out
            have hsh := HSH.out
            have hdr : (left.drop (1 + k)).take (beN n0 (r.take k)) = (r.drop k).take (beN n0 (r.take k)) := by rw [HCR.out, Nat.add_comm 1 k, List.drop_succ_cons]
            have hNt : beN n0 (r.take k) < 18446744073709551616 := by
              have h := beN_lt (r.take k) n0
              have h2 : (r.take k).length = k := by rw [List.length_take]; omega
              rw [h2] at h
              by_cases h0 : 0 < k
              · rw [HN.out.2 h0, Nat.zero_add, Nat.one_mul] at h
                rw [HN.out.2 h0]
                exact Nat.lt_of_lt_of_le h (Nat.le_trans (Nat.pow_le_pow_right (by decide) hz8) (by decide))
              · obtain rfl : k = 0 := by omega
                have := HN.out.1
                rw [List.take_zero, beN]
                omega
            have HDR := Lib.hid hdr
            generalize beN n0 (r.take k) = N at *
            generalize (r.drop k).take N = D at *
            have i1 : ¬ (k : Int) + 1 ≤ (k : Int) := by omega
            have c0 := (lit_cell HRq.out 0).trans rfl
            have c1 := (lit_cell HRq.out 1).trans rfl
            have c2 := (lit_cell HRq.out 2).trans rfl
            have f1 := lit_free HRq.out 1
            clear HT HCR HN HLEN HSH hdr
            by_cases hle : N < least
            · rw [if_pos hle] at hT
              subst hT
              have i2 : (N : Int) < (least : Int) := by omega
              clear hle
              go_wp2
              refine bodyPost_ret (v := .tuple #[.int .u64 0, .string ⟨#[]⟩, .int .i64 5]) (by simp [results, Tryz.results124, go_sem, *]) rfl (by rw [HTP.out]; exact ⟨rfl, HRq.out, HO.out⟩)
            · rw [if_neg hle] at hT
              have i2 : ¬ (N : Int) < (least : Int) := by omega
              clear hle
              by_cases hlo : s ≠ 0 ∧ most < N
              · rw [if_pos hlo] at hT
                subst hT
                have i3 : ((s : Int) != 0) = true := by have := hlo.1; simp; omega
                have i4 : (most : Int) < (N : Int) := by omega
                have i5 : (most : Int) % 18446744073709551616 = (most : Int) := by omega
                clear hlo
                go_wp2
                refine bodyPost_ret (v := .tuple #[.int .u64 0, .string ⟨#[]⟩, .int .i64 3]) (by simp [results, Tryz.results124, go_sem, *]) rfl (by rw [HTP.out]; exact ⟨rfl, HRq.out, HO.out⟩)
              · rw [if_neg hlo] at hT
                have i5 : (most : Int) % 18446744073709551616 = (most : Int) := by omega
                obtain ⟨hA1, hA2⟩ := HA.out
                have w1 : wrap64 ((a : Int) + 1) = (a : Int) + 1 := w64 _ (by omega) (by omega)
                have hkk : (k : Int) ≤ 8 := by omega
                have hko : Only b w (wr.setCell ⟨b, 1, none⟩ (.int .i64 ((a : Int) + 1 + (k : Int)))) := HO.out.trans (Only.set _ _ _ _)
                by_cases h12 : s = 1 ∨ s = 2
                · rw [if_pos h12] at hT
                  have hs0 : s ≠ 0 := by omega
                  have i3 : ((s : Int) != 0) = true := by simp; omega
                  have i4 : ¬ (most : Int) < (N : Int) := by omega
                  by_cases hsh2 : r.length - k < N
                  · rw [if_pos hsh2] at hT
                    subst hT
                    have w2 : wrap64 ((left.length : Int) - 1) = (left.length : Int) - 1 := w64 _ (by omega) (by omega)
                    have w3 : wrap64 ((left.length : Int) - 1 - (k : Int)) = (left.length : Int) - 1 - (k : Int) := w64 _ (by omega) (by omega)
                    have w4 : ((left.length : Int) - 1 - (k : Int)) % 18446744073709551616 = (left.length : Int) - 1 - (k : Int) := by omega
                    have w5 : (left.length : Int) - 1 - (k : Int) < (N : Int) := by omega
                    clear hs0 hs hlo hA1 hA2 hlen hsh hsh2 i3
                    rcases h12 with rfl | rfl
                    all_goals go_wp2
                    all_goals refine bodyPost_ret (v := .tuple #[.int .u64 0, .string ⟨#[]⟩, .int .i64 4]) (by simp [results, Tryz.results124, go_sem, *]) rfl (by rw [HTP.out]; exact ⟨rfl, HRq.out, HO.out⟩)
                  · rw [if_neg hsh2] at hT
                    subst hT
                    obtain ⟨w5, w9, hN9⟩ := took_facts k N left.length r.length hA2 hlen hsh hsh2
                    have hex := took_text left D k N HDR.out
                    have hRn : RefAt b S (a + (1 + k + N)) most (wr.setCell ⟨b, 1, none⟩ (.int .i64 ((a : Int) + (1 + (k : Int) + (N : Int))))) := by
                      have e := took_at a k N
                      unfold RefAt
                      rw [e]
                      exact (lit_set _ HRq.out).trans rfl
                    have hko2 : Only b w (wr.setCell ⟨b, 1, none⟩ (.int .i64 ((a : Int) + (1 + (k : Int) + (N : Int))))) := HO.out.trans (Only.set _ _ _ _)
                    have HRn := Lib.hid hRn
                    have HKO := Lib.hid hko2
                    clear hs0 hs hlo hlen hsh hsh2 hRn hko hko2 i3 w1
                    rcases h12 with rfl | rfl
                    all_goals go_upto_region 24 with fail
                    all_goals obtain ⟨s1, s2, t1, t2⟩ := took_cut k N
                    all_goals go_quiet (fail)
                    all_goals have HRz := Lib.hid (show RefAt b S (a + (1 + k + N)) most ((wr.setCell ⟨b, 1, none⟩ (.int .i64 ((a : Int) + (1 + (k : Int) + (N : Int))))).drewN nq) from HRn.out)
                    all_goals have HKz := Lib.hid (HKO.out.trans (Only.of_below (by0q _ nq)))
                    all_goals go_wp2
                    all_goals refine bodyPost_ret (v := .tuple #[.int .u64 (N : Int), .string ⟨D.toArray⟩, .int .i64 0]) (by simp [results, Tryz.results124, go_sem, *]) rfl (by rw [HTP.out]; exact ⟨rfl, HRz.out, HKz.out⟩)
                · rw [if_neg h12] at hT
                  subst hT
                  have j1 : ((s : Int) != 1) = true := by simp; omega
                  have j2 : ((s : Int) != 2) = true := by simp; omega
                  have w2 : wrap64 ((a : Int) + 1 + (k : Int)) = (a : Int) + 1 + (k : Int) := w64 _ (by omega) (by omega)
                  have hRn : RefAt b S (a + (1 + k)) most (wr.setCell ⟨b, 1, none⟩ (.int .i64 ((a : Int) + 1 + (k : Int)))) := by
                    have e : ((a + (1 + k) : Nat) : Int) = (a : Int) + 1 + (k : Int) := by omega
                    unfold RefAt
                    rw [e]
                    exact (lit_set _ HRq.out).trans rfl
                  have HRn := Lib.hid hRn
                  have HKO := Lib.hid hko
                  clear hRn h12 hko hA1 hA2
                  by_cases hs0 : s = 0
                  · have i3 : ((s : Int) != 0) = false := by subst hs0; rfl
                    clear hlo hs0 hs
                    go_wp2
                    refine bodyPost_ret (v := .tuple #[.int .u64 (N : Int), .string ⟨#[]⟩, .int .i64 0]) (by simp [results, Tryz.results124, go_sem, *]) rfl (by rw [HTP.out]; exact ⟨rfl, HRn.out, HKO.out⟩)
                  · have i3 : ((s : Int) != 0) = true := by simp; omega
                    have i4 : ¬ (most : Int) < (N : Int) := by omega
                    clear hlo hs0 hs
                    go_wp2
                    refine bodyPost_ret (v := .tuple #[.int .u64 (N : Int), .string ⟨#[]⟩, .int .i64 0]) (by simp [results, Tryz.results124, go_sem, *]) rfl (by rw [HTP.out]; exact ⟨rfl, HRn.out, HKO.out⟩)
end Go.Proofs.YtlhmmplkdjibkaaGreatDoor
