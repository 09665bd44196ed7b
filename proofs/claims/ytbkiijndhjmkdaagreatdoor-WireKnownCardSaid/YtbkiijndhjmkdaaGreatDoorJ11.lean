/- The program's number and length of a thing. -/
import Derived.Test.YtbkiijndhjmkdaaGreatDoorJ10
import Derived.Lib.ConvBytes
import Derived.Laws.Bits64b
import Derived.Test.YtbkiijndhjmkdaaGreatDoorJ7
import Derived.Defers
import Derived.Recover
import Derived.Test.YtbkiijndhjmkdaaGreatDoorJ1
import Derived.LaidLaws
import Derived.Shelf.Lay
import Derived.Lib.Strings
import Derived.Lib.Walk
import Derived.Lib.BufferWrite
import Derived.Lib.UnsafeStr
import Derived.Laws.MakeOwn
namespace Go.Proofs.YtbkiijndhjmkdaaGreatDoor
open Go.RowKit

/-- the number (or length) that stands ahead of bytes, as the program reads it -/
def numQ (left : List UInt8) (s : Nat) : TP :=
  match left with
  | [] => ⟨0, [], 4, 0⟩
  | b :: r =>
    if (rowU s b.toNat).1 < 0 then ⟨0, [], 5, 0⟩
    else if r.length < (rowU s b.toNat).1.toNat then ⟨0, [], 4, 0⟩
    else if beN (rowU s b.toNat).2.1 (r.take (rowU s b.toNat).1.toNat) < (rowU s b.toNat).2.2 then ⟨0, [], 5, 0⟩
    else ⟨beN (rowU s b.toNat).2.1 (r.take (rowU s b.toNat).1.toNat), [], 0, 1 + (rowU s b.toNat).1.toNat⟩

structure NumR (A : Nat) (S : List UInt8) (a m : Nat) (P : TP) (w : World) (e : Ending) (w' : World) : Prop where
  ok : P.c = 0 → e = .returned (.int .u64 (P.n : Int)) ∧ RAt A S (a + P.m) m w' ∧ Only A w w'
  bad : P.c ≠ 0 → Gave P.c A w e w'
theorem NumR.of_gave {A : Nat} {S : List UInt8} {a m c : Nat} {P : TP} {w : World} {e : Ending} {w' : World} (hc : P.c = c) (h0 : c ≠ 0) (h : Gave c A w e w') : NumR A S a m P w e w' :=
  ⟨fun h => absurd (hc.symm.trans h) h0, fun _ => hc ▸ h⟩

/-- bytes out of a text, in a world -/
structure Row8 (B : Nat) (L : List UInt8) (w0 w1 : World) : Prop where
  b : Below w0.heap.size w0 w1
  c : ∀ j (h : j < L.length), w1.cell? ⟨B, j, none⟩ = some (.int .u8 (L[j].toNat : Int))
theorem row8 (L : List UInt8) (w : World) : ∃ cap w', (convert 9 100 (.string ⟨L.toArray⟩)).run Tryz.prog w = .ok (.slice (some ⟨w.heap.size, 0, none⟩) L.length cap) w' ∧ Row8 w.heap.size L w w' := by
  refine ⟨_, _, Lib.run_convert_string_bytes (P := Tryz.prog) w 9 100 5 ⟨L.toArray⟩ Tryz.underlying9 Tryz.underlying100 Tryz.underlying5, ?_, fun j hj => ?_⟩
  · exact ⟨rfl, rfl, rfl, by rw [Lib.bytesWorld_size]; omega, fun k hk => Lib.bytesWorld_at_old w 5 _ k hk⟩
  · rw [Lib.bytesWorld_cell w 5 ⟨L.toArray⟩ j hj]
    simp [List.getD, List.getElem?_eq_getElem hj]

theorem or_step (x t : Nat) (ht : t < 256) (hx : x < 72057594037927936) : bits .or .u64 ((x : Int) * 256) (t : Int) = ((256 * x + t : Nat) : Int) := by
  have h : ((x : Int) * 256) = ((256 * x : Nat) : Int) := by omega
  rw [h, bits_or_u64_nat _ _ (by omega) (by omega), show 256 * x = 2 ^ 8 * x by omega, ← Nat.two_pow_add_eq_or_of_lt (by omega : t < 2 ^ 8)]

set_option maxRecDepth 100000 in
set_option maxHeartbeats 1000000 in
theorem number_any (A : Nat) (S : List UInt8) (a m s : Nat) (w : World) (hR : RAt A S a m w) (hg : GlobR w) (hA : 3 ≠ A) (hS : S.length ≤ 1000000) (ha : a ≤ S.length) (hs : s ≤ 4) :
    Calls Tryz.prog 208 #[.pointer (some ⟨A, 0, none⟩), .int .i64 (s : Int)] w (NumR A S a m (numQ (S.drop a) s) w) := by
  cases hcr : S.drop a with
  | nil =>
    have HT := Lib.hid (qtake_short A S a m 1 w hR hS ha (by decide) (by rw [hcr]; decide))
    go_enter Tryz.func208, Tryz.ntmps208
    go_wp2_with (go_at_call 156; refine HT.out.mono ?_; rintro e w2 ⟨⟨f, hf, rfl, hc⟩, ho⟩)
    exact ⟨rfl, .of_gave (c := 4) rfl (by decide) ⟨⟨f, hf, rfl, hc⟩, ho⟩⟩
  | cons c r =>
    have ha1 : a + 1 ≤ S.length := by have := congrArg List.length hcr; rw [List.length_drop, List.length_cons] at this; omega
    have hdr : S.drop (a + 1) = r := by rw [← List.drop_drop, hcr]; rfl
    have HT := Lib.hid (qtake_ok A S a m 1 w hR hS ha (by rw [hcr]; simp))
    have ht1 : (S.drop a).take 1 = [c] := by rw [hcr]; rfl
    have hq : c.toNat < 256 := c.toNat_lt
    have hix : ∀ w, (Instr.index 9 (.string ⟨[c].toArray⟩) (.int .i64 0)).run Tryz.prog w = .ok (.int .u8 (c.toNat : Int)) w := fun w => index_str [c] 0 (by simp) w
    obtain ⟨P, hP⟩ : ∃ P, numQ (c :: r) s = P := ⟨_, rfl⟩
    have HPP := Lib.hid hP
    rw [hP]
    rw [numQ] at hP
    have HROW := Lib.hid (find_row s c.toNat (by omega) hq)
    generalize c.toNat = q at *
    have HRO := Lib.hid (fun w (h : GlobR w) => rowOf_any s q A w h)
    clear hcr hR
    go_enter Tryz.func208, Tryz.ntmps208
    go_upto_region 2 with (go_at_call 156; refine HT.out.mono ?_; rintro e w1 ⟨rfl, hr1, ho1⟩; rw [ht1])
    have HG1 := Lib.hid (hg.only ho1 hA)
    rcases HROW.out with ⟨hn, hu⟩ | ⟨row, hf, hu, hle⟩
    · have HRN := Lib.hid (show Calls Tryz.prog 214 #[.int .i64 (s : Int), .int .u8 (q : Int)] w1 (Gave 5 A w1) from (HRO.out w1 HG1.out).mono fun e w2 h => by
        rcases h with ⟨_, h⟩ | ⟨r', h', _⟩
        · exact h
        · rw [hn] at h'; cases h')
      obtain rfl : P = ⟨0, [], 5, 0⟩ := by rw [← hP, hu]; rfl
      clear hP hu HRO HROW
      go_wp2_with (go_at_call 214; refine HRN.out.mono ?_; rintro e w2 ⟨⟨f, hf, rfl, hc⟩, ho⟩)
      exact ⟨rfl, .of_gave (c := 5) rfl (by decide) ((⟨⟨f, hf, rfl, hc⟩, ho⟩ : Gave 5 A w1 _ w2).from ho1)⟩
    · obtain ⟨rs, rf, rl, z, least⟩ := row
      have HRN := Lib.hid (show Calls Tryz.prog 214 #[.int .i64 (s : Int), .int .u8 (q : Int)] w1 (fun e w' => e = .returned (.agg #[.int .i64 (rs : Int), .int .u8 (rf : Int), .int .u8 (rl : Int), .int .i64 (z : Int), .int .u64 (least : Int)]) ∧ Below w1.heap.size w1 w') from (HRO.out w1 HG1.out).mono fun e w2 h => by
        rcases h with ⟨h', _⟩ | ⟨r', h', h1, h2⟩
        · rw [hf] at h'; cases h'
        · rw [hf] at h'; cases h'; exact ⟨h1, h2⟩)
      have hfit := rowU_fit s q hq
      rw [hu] at hP hfit
      have hz8 : z ≤ 8 ∧ least ≤ 4294967296 ∧ (0 < z → q - rf = 0) := by
        rcases hfit with h | h | h
        · have : (z : Int) = -1 := by simpa using congrArg Prod.fst h
          omega
        · simp only at h; omega
        · simp only at h; omega
      simp only at hP
      rw [if_neg (by omega), Int.toNat_natCast] at hP
      simp only at hle
      have hsub : (q : Int) - (rf : Int) = ((q - rf : Nat) : Int) := by omega
      have HSUB := Lib.hid hsub
      clear hsub
      clear hu HRO HROW hfit hf
      go_upto_region 3 with (go_at_call 214; refine HRN.out.mono ?_; rintro e w2 ⟨rfl, hb2⟩)
      have HO3 := Lib.hid (ho1.trans (Only.of_below (b := A) (hb2.trans ((by0 w2 (.cells #[.int .i64 (rs : Int), .int .u8 (rf : Int), .int .u8 (rl : Int), .int .i64 (z : Int), .int .u64 (least : Int)] 291)).mono hb2.size))))
      have HN3 := Lib.hid (heap_alloc_new w2 (.cells #[.int .i64 (rs : Int), .int .u8 (rf : Int), .int .u8 (rl : Int), .int .i64 (z : Int), .int .u64 (least : Int)] 291))
      have hAl : A < w1.heap.size := lit_lt hr1
      have HR3 := Lib.hid (show RAt A S (a + 1) m (w2.alloc (.cells #[.int .i64 (rs : Int), .int .u8 (rf : Int), .int .u8 (rl : Int), .int .i64 (z : Int), .int .u64 (least : Int)] 291)) from lit_old _ ((hb2.block A hAl).trans hr1))
      have HNA := Lib.hid (show w2.heap.size ≠ A by have := hb2.size; omega)
      clear HRN HG1 hr1 ho1 hAl hb2 hg
      generalize w2.alloc (.cells #[.int .i64 (rs : Int), .int .u8 (rf : Int), .int .u8 (rl : Int), .int .i64 (z : Int), .int .u64 (least : Int)] 291) = w3 at *
      generalize w2.heap.size = N at *
      have g1 := (lit_cell HN3.out 1).trans rfl
      have g3 := (lit_cell HN3.out 3).trans rfl
      by_cases hsh : r.length < z
      · rw [if_pos hsh] at hP
        subst hP
        have HT2 := Lib.hid (qtake_short A S (a + 1) m z w3 HR3.out hS ha1 (by omega) (by rw [hdr]; exact hsh))
        clear hsh
        go_wp2_with (go_at_call 156; refine HT2.out.mono ?_; rintro e w4 ⟨⟨f, hf, rfl, hc⟩, ho⟩)
        exact ⟨rfl, .of_gave (c := 4) rfl (by decide) ((⟨⟨f, hf, rfl, hc⟩, ho⟩ : Gave 4 A w3 _ w4).from HO3.out)⟩
      · rw [if_neg hsh] at hP
        have HT2 := Lib.hid (qtake_ok A S (a + 1) m z w3 HR3.out hS ha1 (by rw [hdr]; omega))
        have hTl : (r.take z).length = z := by rw [List.length_take]; omega
        have HD := Lib.hid hdr
        have hbt := beN_lt (r.take z) (q - rf)
        rw [hTl] at hbt
        obtain ⟨T, hTe⟩ : ∃ T, (S.drop (a + 1)).take z = T := ⟨_, rfl⟩
        rw [← hdr, hTe] at hP hTl hbt
        generalize q - rf = n0 at *
        clear hsh hdr
        go_upto_region 5 with (go_at_call 156; refine HT2.out.mono ?_; rintro e w4 ⟨rfl, hr4, ho4⟩; rw [hTe]; obtain ⟨cap, w5, hconv, h8⟩ := row8 T w4)
        have HO5 := Lib.hid ((HO3.out.trans ho4).trans (Only.of_below (b := A) h8.b))
        have HR5 := Lib.hid (show RAt A S (a + 1 + z) m w5 from (h8.b.block A (lit_lt hr4)).trans hr4)
        have HN5 := Lib.hid ((h8.b.block N (Nat.lt_of_lt_of_le (lit_lt HN3.out) ho4.size)).trans ((ho4.block N (lit_lt HN3.out) HNA.out).trans HN3.out))
        have HC8 := Lib.hid h8.c
        generalize w4.heap.size = B4 at *
        clear hconv h8 hr4 ho4 HO3 HR3 HN3 g1 g3 HT2 HT ht1 hix
        have HTL := Lib.hid hTl
        have HBT := Lib.hid hbt
        have HZ := Lib.hid hz8
        have hz8' : (z : Int) ≤ 8 := by omega
        clear hbt hz8
        go_loopw [7, 27] (fun s7 s27 wr => wr = w5 ∧ ∃ k : Nat, s27 = .int .i64 (k : Int) ∧ k ≤ z ∧ s7 = .int .u64 ((beN n0 (T.take k) : Nat) : Int))
          (fun _ s27 _ => z - (intOf s27).toNat)
        case atStart => exact ⟨rfl, 0, rfl, Nat.zero_le _, by rw [HSUB.out]; rfl⟩
        case round =>
          obtain ⟨hwr, k, rfl, hk, rfl⟩ := hrel
          subst hwr
          by_cases hlt : k < z
          · have i1 : (k : Int) < (z : Int) := by omega
            have i0 : (0 : Int) ≤ (k : Int) := by omega
            have hc := HC8.out k (by rw [HTL.out]; exact hlt)
            have hq2 : T[k].toNat < 256 := T[k].toNat_lt
            have hstep : beN n0 (T.take (k + 1)) = 256 * beN n0 (T.take k) + T[k].toNat := by
              rw [List.take_succ_eq_append_getElem (by rw [HTL.out]; exact hlt), beN_snoc]
            have hsm : beN n0 (T.take k) < 72057594037927936 := by
              have h1 := beN_lt (T.take k) n0
              have h2 : (T.take k).length = k := by rw [List.length_take, HTL.out]; omega
              rw [h2, HZ.out.2.2 (by omega), Nat.zero_add, Nat.one_mul] at h1
              rw [HZ.out.2.2 (by omega)]
              exact Nat.lt_of_lt_of_le h1 (Nat.le_trans (Nat.pow_le_pow_right (by decide) (show k ≤ 7 by omega)) (by decide))
            have HST := Lib.hid hstep
            clear hstep
            generalize T[k].toNat = t at *
            generalize beN n0 (T.take k) = x at *
            go_wp2
            go_roundw
            case rel => exact ⟨trivial, k + 1, by simp, hlt, by rw [HST.out, or_step x t hq2 hsm]⟩
            case measure => simp [intOf] <;> omega
          · obtain rfl : k = z := by omega
            have hTt : T.take k = T := by rw [← HTL.out, List.take_length]
            rw [hTt]
            have g4 := (lit_cell HN5.out 4).trans rfl
            clear hlt hk
            by_cases hle2 : beN n0 T < least
            · rw [if_pos hle2] at hP
              subst hP
              have HG2 := Lib.hid (giveUp_any 5 A wr)
              have i1 : ((beN n0 T : Nat) : Int) < (least : Int) := by omega
              clear hle2
              go_wp2_with (go_at_call 157; refine HG2.out.mono ?_; rintro e w6 ⟨⟨f, hf, rfl, hc⟩, ho⟩)
              exact ⟨rfl, .of_gave (c := 5) rfl (by decide) ((⟨⟨f, hf, rfl, hc⟩, ho⟩ : Gave 5 A wr _ w6).from HO5.out)⟩
            · rw [if_neg hle2] at hP
              subst hP
              have i1 : ¬ ((beN n0 T : Nat) : Int) < (least : Int) := by omega
              clear hle2
              go_wp2
              go_ret
              exact ⟨fun _ => ⟨rfl, by rw [← Nat.add_assoc]; exact HR5.out, HO5.out⟩, fun h => absurd rfl h⟩

theorem numQ_n (left : List UInt8) (s : Nat) : (numQ left s).n < 18446744073709551616 ∧ ((numQ left s).c ≠ 0 → (numQ left s).n = 0 ∧ (numQ left s).m = 0) ∧ (numQ left s).m ≤ left.length ∧ (numQ left s).c ≤ 5 := by
  cases left with
  | nil => exact ⟨by simp [numQ], fun _ => ⟨rfl, rfl⟩, by simp [numQ], by simp [numQ]⟩
  | cons b r =>
    rw [numQ]
    have hq : b.toNat < 256 := b.toNat_lt
    have hfit := rowU_fit s b.toNat hq
    generalize rowU s b.toNat = R at *
    obtain ⟨sz, n0, least⟩ := R
    simp only at hfit ⊢
    by_cases h0 : sz < 0
    · rw [if_pos h0]; exact ⟨by decide, fun _ => ⟨rfl, rfl⟩, by simp, by decide⟩
    · rw [if_neg h0]
      obtain ⟨z, rfl⟩ : ∃ z : Nat, sz = (z : Int) := ⟨sz.toNat, by omega⟩
      rw [Int.toNat_natCast]
      have hz : z ≤ 8 ∧ n0 < 256 ∧ (0 < z → n0 = 0) := by
        rcases hfit with h | h | h
        · have : (z : Int) = -1 := by simpa using congrArg Prod.fst h
          omega
        · omega
        · omega
      by_cases h1 : r.length < z
      · rw [if_pos h1]; exact ⟨by decide, fun _ => ⟨rfl, rfl⟩, by simp, by decide⟩
      · rw [if_neg h1]
        have hN := beN_lt (r.take z) n0
        have hl : (r.take z).length = z := by rw [List.length_take]; omega
        rw [hl] at hN
        have h64 : beN n0 (r.take z) < 18446744073709551616 := by
          by_cases h : 0 < z
          · rw [hz.2.2 h, Nat.zero_add, Nat.one_mul] at hN
            rw [hz.2.2 h]
            exact Nat.lt_of_lt_of_le hN (Nat.le_trans (Nat.pow_le_pow_right (by decide) hz.1) (by decide))
          · obtain rfl : z = 0 := by omega
            rw [List.take_zero, beN]; omega
        by_cases h2 : beN n0 (r.take z) < least
        · rw [if_pos h2]; exact ⟨by decide, fun _ => ⟨rfl, rfl⟩, by simp, by decide⟩
        · rw [if_neg h2]
          exact ⟨h64, fun h => absurd rfl h, by simp only [List.length_cons]; omega, Nat.zero_le _⟩

/-- a length: a number that is not above the bound -/
def lenQ (left : List UInt8) (most s : Nat) : TP := if (numQ left s).c = 0 ∧ most < (numQ left s).n then ⟨0, [], 3, 0⟩ else numQ left s
structure LenR (A : Nat) (S : List UInt8) (a m : Nat) (P : TP) (w : World) (e : Ending) (w' : World) : Prop where
  ok : P.c = 0 → e = .returned (.int .i64 (P.n : Int)) ∧ RAt A S (a + P.m) m w' ∧ Only A w w'
  bad : P.c ≠ 0 → Gave P.c A w e w'
set_option maxRecDepth 100000 in
theorem length_any (A : Nat) (S : List UInt8) (a m s : Nat) (w : World) (hR : RAt A S a m w) (hg : GlobR w) (hA : 3 ≠ A) (hS : S.length ≤ 1000000) (ha : a ≤ S.length) (hs : s ≤ 4) (hm : m < 9223372036854775808) :
    Calls Tryz.prog 210 #[.pointer (some ⟨A, 0, none⟩), .int .i64 (s : Int)] w (LenR A S a m (lenQ (S.drop a) m s) w) := by
  have HC := Lib.hid (number_any A S a m s w hR hg hA hS ha hs)
  obtain ⟨hn64, _, _, _⟩ := numQ_n (S.drop a) s
  have HL := Lib.hid (show lenQ (S.drop a) m s = if (numQ (S.drop a) s).c = 0 ∧ m < (numQ (S.drop a) s).n then ⟨0, [], 3, 0⟩ else numQ (S.drop a) s from rfl)
  clear hR hg hS ha hs
  generalize lenQ (S.drop a) m s = Q at *
  generalize numQ (S.drop a) s = P at *
  by_cases hc : P.c = 0
  · have HC2 := Lib.hid (HC.out.mono fun e w' h => h.ok hc)
    clear HC
    have hm1 : (m : Int) % 18446744073709551616 = (m : Int) := by omega
    by_cases hlo : m < P.n
    · obtain rfl : Q = ⟨0, [], 3, 0⟩ := by rw [HL.out, if_pos ⟨hc, hlo⟩]
      have i1 : (m : Int) < (P.n : Int) := by omega
      clear HL hlo hn64 hc
      go_enter Tryz.func210, Tryz.ntmps210
      go_upto_region 2 with (go_at_call 208; refine HC2.out.mono ?_; rintro e w1 ⟨rfl, hr, ho⟩)
      have HO := Lib.hid ho
      have c2 := (lit_cell hr 2).trans rfl
      have HG2 := Lib.hid (giveUp_any 3 A w1)
      clear ho hr
      go_wp2_with (go_at_call 157; refine HG2.out.mono ?_; rintro e w6 ⟨⟨f, hf, rfl, hc⟩, ho⟩)
      exact ⟨rfl, ⟨fun h => absurd h (by decide), fun _ => (⟨⟨f, hf, rfl, hc⟩, ho⟩ : Gave 3 A w1 _ w6).from HO.out⟩⟩
    · obtain rfl : Q = P := by rw [HL.out, if_neg (fun h => hlo h.2)]
      have i1 : ¬ (m : Int) < (Q.n : Int) := by omega
      have i2 : wrap64 (Q.n : Int) = (Q.n : Int) := w64 _ (by omega) (by omega)
      have i3 : (Q.n : Int) ≤ 9223372036854775807 := by omega
      clear HL hlo hn64
      go_enter Tryz.func210, Tryz.ntmps210
      go_upto_region 2 with (go_at_call 208; refine HC2.out.mono ?_; rintro e w1 ⟨rfl, hr, ho⟩)
      have HO := Lib.hid ho
      have HR := Lib.hid hr
      have c2 := (lit_cell hr 2).trans rfl
      clear ho hr
      go_wp2
      go_ret
      exact ⟨fun _ => ⟨rfl, HR.out, HO.out⟩, fun h => absurd hc h⟩
  · have HC2 := Lib.hid (HC.out.mono fun e w' h => h.bad hc)
    obtain rfl : Q = P := by rw [HL.out, if_neg (fun h => hc h.1)]
    clear HC HL hn64
    go_enter Tryz.func210, Tryz.ntmps210
    go_wp2_with (go_at_call 208; refine HC2.out.mono ?_; rintro e w1 ⟨⟨f, hf, rfl, hf2⟩, ho⟩)
    exact ⟨rfl, ⟨fun h => absurd h hc, fun _ => ⟨⟨f, hf, rfl, hf2⟩, ho⟩⟩⟩
end Go.Proofs.YtbkiijndhjmkdaaGreatDoor
/- The program's fault; what recovers; an attempt. -/
namespace Go.Proofs.YtbkiijndhjmkdaaGreatDoor
open Go.RowKit Go.Extern.Stop Go.Stop Go.Extern

/-- a fault that was made -/
structure Made (c a : Int) (g : Nat) (w w' : World) : Prop where
  l : w.heap.size ≤ g
  h : w'.heap[g]? = some (.cells #[.int .i64 c, .int .i64 a] 38 (0, 0))
  b : Below w.heap.size w w'

set_option maxRecDepth 100000 in
set_option maxHeartbeats 4000000 in
theorem qfault_any (f b : Nat) (S : List UInt8) (a m c : Nat) (w : World) (hg : GlobE w) (h0 : w.heap[f]? = some (.cells #[.int .i64 (c : Int), .int .i64 0] 38 (0, 0))) (hR : RAt b S a m w) :
    Calls Tryz.prog 190 #[.pointer (some ⟨b, 0, none⟩), .iface 106 (.pointer (some ⟨f, 0, none⟩))] w fun e w' => ∃ g, e = .returned (.iface 106 (.pointer (some ⟨g, 0, none⟩))) ∧ Made (c : Int) (a : Int) g w w' := by
  have hfl := lit_lt h0
  have hbl := lit_lt hR
  have hgl : 0 < w.heap.size := World.block_lt_of_cell? w _ hg
  have hgA : (w.alloc (.cells #[.pointer none] 106)).cell? ⟨0, 0, none⟩ = some (.iface 238 (.agg #[.pointer (some ⟨4, 34, none⟩)])) := by
    rw [World.cell?_alloc_lt _ _ ⟨0, 0, none⟩ hgl]; exact hg
  have HA := Lib.hid ((as_hit ⟨f, 0, none⟩ ⟨w.heap.size, 0, none⟩ (.pointer none) (w.alloc (.cells #[.pointer none] 106)) hgA (by simp) (by simp)).mono (fun _ _ h => after_as (f := f) h))
  have H0 := Lib.hid h0
  have HR := Lib.hid hR
  clear hgA hgl hg h0 hR
  go_enter Tryz.func190, Tryz.ntmps190
  go_wp2_with (go_at_call 49; refine HA.out.mono ?_; rintro e w1 ⟨rfl, hw1, b1⟩; have k0 := (b1.cell (p := ⟨f, 0, none⟩) hfl).trans ((lit_cell H0.out 0).trans rfl); have k1 := (b1.cell (p := ⟨b, 1, none⟩) hbl).trans ((lit_cell HR.out 1).trans rfl); have HB1 := Lib.hid b1; clear b1)
  go_ret
  exact ⟨_, rfl, HB1.out.size, heap_alloc_new w1 _, HB1.out.alloc HB1.out.size _⟩

theorem to_error (v : Value) (w : World) : (Instr.typeAssert (.iface 106 v) 20 34 true).run Tryz.prog w = .ok (.tuple #[.iface 106 v, .bool true]) w := run_typeAssert_hasB Tryz.underlying34 (by kernel_rfl) v 20 w

set_option maxRecDepth 100000 in
set_option maxHeartbeats 4000000 in
theorem catch_panicking (f b rv ev : Nat) (S : List UInt8) (a m c : Nat) (x : Value) (older : List PanicEntry) (w : World) (hg : GlobE w) (h0 : w.heap[f]? = some (.cells #[.int .i64 (c : Int), .int .i64 0] 38 (0, 0))) (hR : RAt b S a m w)
    (hrv : w.heap[rv]? = some (.cells #[.pointer (some ⟨b, 0, none⟩)] 155 (0, 0))) (hev : w.heap[ev]? = some (.cells #[x] 34 (0, 0))) :
    CallsD Tryz.prog 189 #[.pointer (some ⟨rv, 0, none⟩), .pointer (some ⟨ev, 0, none⟩)] (.panicking ({ v := .iface 106 (.pointer (some ⟨f, 0, none⟩)), recovered := false } :: older)) w fun e u' w' =>
      e = .returned (.tuple #[]) ∧ u' = .panicking ({ v := .iface 106 (.pointer (some ⟨f, 0, none⟩)), recovered := true } :: older) ∧ ∃ g w1, Made (c : Int) (a : Int) g w w1 ∧ w' = w1.setCell ⟨ev, 0, none⟩ (.iface 106 (.pointer (some ⟨g, 0, none⟩))) := by
  have HF := Lib.hid (qfault_any f b S a m c w hg h0 hR)
  have hta := to_error
  have r0 := (lit_cell hrv 0).trans rfl
  clear hg h0 hR
  refine callsD_of_wpS Tryz.func189 rfl fun c₀ cs hu => ?_
  simp only [Tryz.ntmps189, List.size_toArray, List.length_cons, List.length_nil, Nat.reduceAdd, Nat.reduceSub, Array.replicate_succ, Array.replicate_zero, List.push_toArray, List.append_toArray, List.nil_append, List.cons_append]
  apply wpS_seq
  apply wpS_region
  simp [wpOpsS, go_sem, recoverD, hu, Exit.thenS, hta]
  refine wpS_of_wp ?_
  go_wp2_with (go_at_call 190; refine HF.out.mono ?_; rintro e w1 ⟨g, rfl, hmade⟩; have e0 := (lit_cell ((hmade.b.block ev (lit_lt hev)).trans hev) 0).trans rfl; have e1 := lit_free ((hmade.b.block ev (lit_lt hev)).trans hev) 0)
  exact ⟨rfl, _, rfl, _, results_none rfl _ _ _, rfl, rfl, _, _, hmade, rfl⟩

set_option maxRecDepth 100000 in
set_option maxHeartbeats 4000000 in
theorem catch_idle (rv ev : Nat) (w : World) :
    CallsD Tryz.prog 189 #[.pointer (some ⟨rv, 0, none⟩), .pointer (some ⟨ev, 0, none⟩)] .returning w fun e u' w' => e = .returned (.tuple #[]) ∧ u' = .returning ∧ w' = w := by
  have hta : ∀ w, (Instr.typeAssert .nilIface 20 34 true).run Tryz.prog w = .ok (.tuple #[.nilIface, .bool false]) w := fun w => by kernel_rfl
  refine callsD_of_wpS Tryz.func189 rfl fun c₀ cs hu => ?_
  simp only [Tryz.ntmps189, List.size_toArray, List.length_cons, List.length_nil, Nat.reduceAdd, Nat.reduceSub, Array.replicate_succ, Array.replicate_zero, List.push_toArray, List.append_toArray, List.nil_append, List.cons_append]
  apply wpS_seq
  apply wpS_region
  simp [wpOpsS, go_sem, recoverD, hu, Exit.thenS, hta]
  refine wpS_of_wp ?_
  go_wp2
  cases c₀
  simp only at hu
  subst hu
  exact ⟨rfl, _, rfl, _, results_none rfl _ _ _, rfl, rfl, rfl⟩

/-- all blocks but A and x are as they were -/
structure Duo (A x : Nat) (w w' : World) : Prop where
  os : w'.os = w.os
  tape : w'.tape = w.tape
  output : w'.output = w.output
  size : w.heap.size ≤ w'.heap.size
  block : ∀ k, k < w.heap.size → k ≠ A → k ≠ x → w'.heap[k]? = w.heap[k]?

set_option maxRecDepth 100000 in
set_option maxHeartbeats 4000000 in
theorem attempt_ok (b x : Nat) (S : List UInt8) (a a' m : Nat) (X : Obj) (F : FuncId) (cap : Array Value) (w : World) (hent : ∀ args w, (callFunc F args).run Tryz.prog w = .ok (.enter F args) w) (hR : RAt b S a m w) (hx : x < w.heap.size) (hxb : x ≠ b)
    (hread : ∀ w4 A, Below w.heap.size w w4 → w.heap.size ≤ A → RAt A S a m w4 → Calls Tryz.prog F (#[.pointer (some ⟨A, 0, none⟩)] ++ cap) w4 fun e w5 => e = .returned (.tuple #[]) ∧ RAt A S a' m w5 ∧ Duo A x w4 w5 ∧ w5.heap[x]? = some X) :
    Calls Tryz.prog 154 #[.pointer (some ⟨b, 0, none⟩), .func (.func F) #[] cap] w fun e w' => e = .returned .nilIface ∧ RAt b S a' m w' ∧ w'.heap[x]? = some X ∧ Duo b x w w' := by
  have hmf : ∀ (fn : Fn) (first cap : Array Value) (w : World), (Instr.makeFunc fn first cap).run Tryz.prog w = .ok (.func fn first cap) w := fun _ _ _ _ => rfl
  have HRD := Lib.hid hread
  have hbl := lit_lt hR
  have HR := Lib.hid hR
  have c0 := (lit_cell hR 0).trans rfl
  have c1 := (lit_cell hR 1).trans rfl
  have c2 := (lit_cell hR 2).trans rfl
  clear hread hR
  go_enter_defers Tryz.func154, Tryz.ntmps154
  go_wp2_with fail
  refine (HRD.out _ _ ((by0 w _).trans (((Below.refl _ _).alloc (by simp) _).alloc (by simp <;> omega) _)) (by omega) (show RAt (w.heap.size + 1 + 1) S a m _ from ?_)).mono ?_
  · rw [RAt, show w.heap.size + 1 + 1 = ((w.alloc (.cells #[.pointer (some ⟨b, 0, none⟩)] 155)).alloc (.cells #[.nilIface] 34)).heap.size by simp]
    exact heap_alloc_new _ _
  rintro e w5 ⟨rfl, hr5, ht5, hX⟩
  have hrv : w5.heap[w.heap.size]? = some (.cells #[.pointer (some ⟨b, 0, none⟩)] 155 (0, 0)) := (ht5.block _ (by simp <;> omega) (by omega) (by omega)).trans (lit_old _ (lit_old _ (heap_alloc_new w _)))
  have hev : w5.heap[w.heap.size + 1]? = some (.cells #[.nilIface] 34 (0, 0)) := (ht5.block _ (by simp <;> omega) (by omega) (by omega)).trans (lit_old _ (by rw [show w.heap.size + 1 = (w.alloc (.cells #[.pointer (some ⟨b, 0, none⟩)] 155)).heap.size by simp]; exact heap_alloc_new _ _))
  have hb5 : RAt b S a m w5 := (ht5.block _ (by simp <;> omega) (by omega) (by omega)).trans (lit_old _ (lit_old _ (lit_old _ HR.out)))
  have HT5 := Lib.hid ht5
  have r0 := (lit_cell hrv 0).trans rfl
  have e0 := (lit_cell hev 0).trans rfl
  have e1 := lit_free hev 0
  have b0 := (lit_cell hb5 0).trans rfl
  have b1 := (lit_cell hb5 1).trans rfl
  have b2 := (lit_cell hb5 2).trans rfl
  have f0 := lit_free hb5 0
  have f1 := lit_free hb5 1
  have f2 := lit_free hb5 2
  have a0 := (lit_cell hr5 0).trans rfl
  have a1 := (lit_cell hr5 1).trans rfl
  have a2 := (lit_cell hr5 2).trans rfl
  have HXX := Lib.hid hX
  have HB5 := Lib.hid hb5
  have HE5 := Lib.hid hev
  clear ht5 hr5 hb5 hev hrv hX HRD c0 c1 c2 HR
  go_wp2
  have hW1 : RAt b S a' m ((((w5.setCell ⟨b, 0, none⟩ (.string ⟨S.toArray⟩)).setCell ⟨b, 1, none⟩ (.int .i64 (a' : Int))).setCell ⟨b, 2, none⟩ (.int .i64 (m : Int))).setCell ⟨w.heap.size + 1, 0, none⟩ .nilIface) :=
    (lit_far _ (by omega)).trans ((lit_set _ (lit_set _ (lit_set _ HB5.out))).trans rfl)
  have hW2 : ((((w5.setCell ⟨b, 0, none⟩ (.string ⟨S.toArray⟩)).setCell ⟨b, 1, none⟩ (.int .i64 (a' : Int))).setCell ⟨b, 2, none⟩ (.int .i64 (m : Int))).setCell ⟨w.heap.size + 1, 0, none⟩ .nilIface).heap[w.heap.size + 1]? = some (.cells #[.nilIface] 34 (0, 0)) :=
    (lit_set _ ((lit_far _ (by omega)).trans ((lit_far _ (by omega)).trans ((lit_far _ (by omega)).trans HE5.out)))).trans rfl
  have hW3 : ((((w5.setCell ⟨b, 0, none⟩ (.string ⟨S.toArray⟩)).setCell ⟨b, 1, none⟩ (.int .i64 (a' : Int))).setCell ⟨b, 2, none⟩ (.int .i64 (m : Int))).setCell ⟨w.heap.size + 1, 0, none⟩ .nilIface).heap[x]? = some X :=
    (lit_far _ (by omega)).trans ((lit_far _ hxb).trans ((lit_far _ hxb).trans ((lit_far _ hxb).trans HXX.out)))
  have hW4 : Duo b x w ((((w5.setCell ⟨b, 0, none⟩ (.string ⟨S.toArray⟩)).setCell ⟨b, 1, none⟩ (.int .i64 (a' : Int))).setCell ⟨b, 2, none⟩ (.int .i64 (m : Int))).setCell ⟨w.heap.size + 1, 0, none⟩ .nilIface) := by
    have h5 := HT5.out
    refine ⟨h5.os, h5.tape, h5.output, ?_, fun k hk h1 h2 => ?_⟩
    · have := h5.size
      simp at this
      simp [World.setCell]
      omega
    · exact (lit_far _ (by omega)).trans ((lit_far _ h1).trans ((lit_far _ h1).trans ((lit_far _ h1).trans ((h5.block k (by simp <;> omega) (by omega) h2).trans ((heap_alloc_old _ _ (by simp <;> omega)).trans ((heap_alloc_old _ _ (by simp <;> omega)).trans (heap_alloc_old _ _ hk)))))))
  generalize (((w5.setCell ⟨b, 0, none⟩ (.string ⟨S.toArray⟩)).setCell ⟨b, 1, none⟩ (.int .i64 (a' : Int))).setCell ⟨b, 2, none⟩ (.int .i64 (m : Int))).setCell ⟨w.heap.size + 1, 0, none⟩ .nilIface = wf at *
  refine leaves_cons (f := 189) (args := #[.pointer (some ⟨w.heap.size, 0, none⟩), .pointer (some ⟨w.heap.size + 1, 0, none⟩)]) (by simp) (by simp [go_sem]) ?_
  refine (catch_idle w.heap.size (w.heap.size + 1) wf).mono ?_
  rintro e u' w'' ⟨rfl, rfl, rfl⟩
  have z0 := (lit_cell hW2 0).trans rfl
  refine ⟨.nilIface, by simp [results, Tryz.results154, go_sem, z0], rfl, hW1, hW3, hW4⟩

set_option maxRecDepth 100000 in
set_option maxHeartbeats 4000000 in
theorem attempt_bad (b : Nat) (S : List UInt8) (a m c : Nat) (F : FuncId) (cap : Array Value) (w : World) (hent : ∀ args w, (callFunc F args).run Tryz.prog w = .ok (.enter F args) w) (hR : RAt b S a m w) (hg : GlobE w)
    (hread : ∀ w4 A, Below w.heap.size w w4 → w.heap.size ≤ A → RAt A S a m w4 → Calls Tryz.prog F (#[.pointer (some ⟨A, 0, none⟩)] ++ cap) w4 (Gave c A w4)) :
    Calls Tryz.prog 154 #[.pointer (some ⟨b, 0, none⟩), .func (.func F) #[] cap] w fun e w' => ∃ g, e = .returned (.iface 106 (.pointer (some ⟨g, 0, none⟩))) ∧ Made (c : Int) (a : Int) g w w' := by
  have hmf : ∀ (fn : Fn) (first cap : Array Value) (w : World), (Instr.makeFunc fn first cap).run Tryz.prog w = .ok (.func fn first cap) w := fun _ _ _ _ => rfl
  have HRD := Lib.hid hread
  have hbl := lit_lt hR
  have HR := Lib.hid hR
  have HG := Lib.hid hg
  have c0 := (lit_cell hR 0).trans rfl
  have c1 := (lit_cell hR 1).trans rfl
  have c2 := (lit_cell hR 2).trans rfl
  clear hread hR hg
  go_enter_defers Tryz.func154, Tryz.ntmps154
  go_wp2_with fail
  refine (HRD.out _ _ ((by0 w _).trans (((Below.refl _ _).alloc (by simp) _).alloc (by simp <;> omega) _)) (by omega) (show RAt (w.heap.size + 1 + 1) S a m _ from ?_)).mono ?_
  · rw [RAt, show w.heap.size + 1 + 1 = ((w.alloc (.cells #[.pointer (some ⟨b, 0, none⟩)] 155)).alloc (.cells #[.nilIface] 34)).heap.size by simp]
    exact heap_alloc_new _ _
  rintro e w5 ⟨⟨f, hf, rfl, hfc⟩, ht5⟩
  have hrv : w5.heap[w.heap.size]? = some (.cells #[.pointer (some ⟨b, 0, none⟩)] 155 (0, 0)) := (ht5.block _ (by simp <;> omega) (by omega)).trans (lit_old _ (lit_old _ (heap_alloc_new w _)))
  have hev : w5.heap[w.heap.size + 1]? = some (.cells #[.nilIface] 34 (0, 0)) := (ht5.block _ (by simp <;> omega) (by omega)).trans (lit_old _ (by rw [show w.heap.size + 1 = (w.alloc (.cells #[.pointer (some ⟨b, 0, none⟩)] 155)).heap.size by simp]; exact heap_alloc_new _ _))
  have hb5 : RAt b S a m w5 := (ht5.block _ (by simp <;> omega) (by omega)).trans (lit_old _ (lit_old _ (lit_old _ HR.out)))
  have hbel : Below w.heap.size w w5 := by
    refine ⟨ht5.os, ht5.tape, ht5.output, ?_, fun k hk => ?_⟩
    · have := ht5.size
      simp at this
      omega
    · exact (ht5.block k (by simp <;> omega) (by omega)).trans ((heap_alloc_old _ _ (by simp <;> omega)).trans ((heap_alloc_old _ _ (by simp <;> omega)).trans (heap_alloc_old _ _ hk)))
  refine leaves_cons (f := 189) (args := #[.pointer (some ⟨w.heap.size, 0, none⟩), .pointer (some ⟨w.heap.size + 1, 0, none⟩)]) (by simp) (by simp [go_sem]) ?_
  refine (catch_panicking f b w.heap.size (w.heap.size + 1) S a m c .nilIface [] w5 (HG.out.next hbel) hfc hb5 hrv hev).mono ?_
  rintro e u' w'' ⟨rfl, rfl, g, w6, hm, rfl⟩
  have hs5 : w.heap.size + 1 < w5.heap.size := lit_lt hev
  have hW2 : (w6.setCell ⟨w.heap.size + 1, 0, none⟩ (.iface 106 (.pointer (some ⟨g, 0, none⟩)))).heap[w.heap.size + 1]? = some (.cells #[.iface 106 (.pointer (some ⟨g, 0, none⟩))] 34 (0, 0)) := (lit_set _ ((hm.b.block _ hs5).trans hev)).trans rfl
  have z0 := (lit_cell hW2 0).trans rfl
  have hl := hm.l
  exact ⟨_, by simp [results, Tryz.results154, go_sem, z0], g, rfl, by omega, (lit_far _ (by omega)).trans hm.h, (hbel.trans (hm.b.mono (by omega))).setCell (by simp) _⟩
end Go.Proofs.YtbkiijndhjmkdaaGreatDoor
/- strings.Clone: the same bytes. -/
namespace Go.Proofs.YtbkiijndhjmkdaaGreatDoor
open Go.RowKit

set_option maxHeartbeats 4000000 in
set_option maxRecDepth 100000 in
theorem sclone_any (s : ByteArray) (w : World) (hlim : s.size ≤ 1000000) :
    Calls Tryz.prog 215 #[.string s] w fun e w' => e = .returned (.string s) ∧ Below w.heap.size w w' := by
  by_cases h0 : s.size = 0
  · have hs : s = ⟨#[]⟩ := by
      apply ByteArray.ext
      exact Array.eq_empty_of_size_eq_zero h0
    subst hs
    go_enter Tryz.func215, Tryz.ntmps215
    go_wp2
    go_ret
    exact ⟨rfl, Below.refl _ _⟩
  · obtain ⟨i0, hi, hz0, hz1, hz2⟩ := info_parts (show (Tryz.prog.info? 5).map (fun i => (i.zero, i.size, i.bytes)) = some (some (Value.int .u8 0), 1, 1) by kernel_rfl)
    have hinfo : (Tryz.prog.info? 5).map (·.size) = some 1 := by rw [hi]; simp [hz1]
    have hco : Tryz.prog.cellsOf 5 = 1 := by simp [Program.cellsOf, hi, hz1]
    obtain ⟨M, hM⟩ : ∃ M, M = madeCells (Value.int .u8 0).cells (((s.size : Nat) : Int).toNat * i0.size) := ⟨_, rfl⟩
    have hMs : M.size = s.size := by rw [hM, size_madeCells, hz1]; simp
    have hmk : ∀ W : World, (Instr.makeSlice 100 (.int .i64 (s.size : Int)) (.int .i64 (s.size : Int))).run Tryz.prog W = .ok (.slice (some ⟨W.heap.size, 0, none⟩) s.size s.size) (W.alloc (.cells M 5)) := fun W => by
      have h := run_make (P := Tryz.prog) W 100 5 i0 (.int .u8 0) Tryz.underlying100 hi hz0 .i64 .i64 (s.size : Int) (s.size : Int) (by omega) (by omega) (by rw [hz2]; omega) (by omega)
      rw [← hM] at h
      simpa using h
    clear hM
    have hcp := Lib.run_copy_row_string (P := Tryz.prog) (w.alloc (.cells M 5)) 100 9 3 5 w.heap.size 0 s.size s.size s M 5 Tryz.underlying100 hinfo (heap_alloc_new w _) (Nat.le_refl _) (by omega)
    obtain ⟨Y, hY⟩ : ∃ Y, Y = (M.toList.take 0 ++ Lib.byteCells s.data.toList ++ M.toList.drop (0 + s.size)).toArray := ⟨_, rfl⟩
    rw [← hY] at hcp
    have hYl : Y.toList = Lib.byteCells s.data.toList := by
      rw [hY, List.toList_toArray, List.take_zero, List.nil_append, List.drop_of_length_le (by rw [Array.length_toList]; omega), List.append_nil]
    have hYs : Y.size = s.size := by rw [← Array.length_toList, hYl, Lib.byteCells_length, ← Lib.size_eq]
    have hgY : ((w.alloc (.cells M 5)).setRow w.heap.size Y).heap[w.heap.size]? = some (.cells Y 5 (0, 0)) := setRow_heap _ _ M _ 5 (0, 0) (heap_alloc_new w _)
    have hne : s.data.toList ≠ [] := fun e => h0 (by rw [Lib.size_eq, e]; rfl)
    have hUS := Lib.run_unsafeString_row (P := Tryz.prog) ((w.alloc (.cells M 5)).setRow w.heap.size Y) 268 3 9 5 Tryz.underlying268 hco w.heap.size Y.size (by unfold World.shape?; rw [hgY]) s.data.toList hne (by rw [← Lib.size_eq]; omega) (by rw [← Lib.size_eq]; omega)
      (fun j x hx => Lib.cells_of_row hgY Y.size j _ (by rw [List.take_of_length_le (by rw [Array.length_toList]; exact Nat.le_refl _), hYl]; simp [Lib.byteCells, hx]))
    rw [← Lib.size_eq] at hUS
    clear hY
    go_enter Tryz.func215, Tryz.ntmps215
    go_wp2
    go_ret
    have hb1 : Below w.heap.size w (w.alloc (.cells M 5)) := by0 w _
    have hb2 : Below w.heap.size (w.alloc (.cells M 5)) ((w.alloc (.cells M 5)).setRow w.heap.size Y) := ⟨rfl, rfl, rfl, by simp, fun k hk => setRow_other _ _ _ _ (by omega)⟩
    exact ⟨rfl, Lib.below_freeze (hb1.trans hb2) (p := ⟨w.heap.size, 0, none⟩) (Nat.le_refl _) _⟩

set_option maxRecDepth 100000 in
theorem clone_any (L : List UInt8) (w : World) (hl : L.length ≤ 1000000) :
    Calls Tryz.prog 212 #[.string ⟨L.toArray⟩] w fun e w' => e = .returned (.string ⟨L.toArray⟩) ∧ Below w.heap.size w w' := by
  have HC := Lib.hid (sclone_any ⟨L.toArray⟩ w hl)
  clear hl
  go_enter Tryz.func212, Tryz.ntmps212
  go_wp2_with (go_at_call 215; refine HC.out.mono ?_; rintro e w1 ⟨rfl, h1⟩)
  go_ret
  exact ⟨rfl, h1⟩
end Go.Proofs.YtbkiijndhjmkdaaGreatDoor
