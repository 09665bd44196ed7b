/- The program's number and length of a thing. -/
import Derived.Test.YtefhjncoakgbkaaDoorQc
import Derived.Lib.ConvBytes
import Derived.Laws.Bits64b
namespace Go.Proofs.YtefhjncoakgbkaaDoor
open Go.RowKit

/-- the number (or length) that stands ahead of bytes, as the program reads it -/
def numQ (left : List UInt8) (s : Nat) : TP :=
  match left with
  | [] => ⟨0, [], 4, 0⟩
  | b :: r =>
    if (rowU s b.toNat).1 < 0 then ⟨0, [], 5, 0⟩
    else if r.length < (rowU s b.toNat).1.toNat then ⟨0, [], 4, 0⟩
    else if beN (rowU s b.toNat).2.1 (r.take (rowU s b.toNat).1.toNat) < (rowU s b.toNat).2.2 then ⟨0, [], 5, 0⟩
    else ⟨beN (rowU s b.toNat).2.1 (r.take (rowU s b.toNat).1.toNat), [], 0, 1 + (rowU s b.toNat).1.toNat⟩

structure NumR (A : Nat) (S : List UInt8) (a m : Nat) (P : TP) (w : World) (e : Ending) (w' : World) : Prop where
  ok : P.c = 0 → e = .returned (.int .u64 (P.n : Int)) ∧ RAt A S (a + P.m) m w' ∧ Only A w w'
  bad : P.c ≠ 0 → Gave P.c A w e w'
theorem NumR.of_gave {A : Nat} {S : List UInt8} {a m c : Nat} {P : TP} {w : World} {e : Ending} {w' : World} (hc : P.c = c) (h0 : c ≠ 0) (h : Gave c A w e w') : NumR A S a m P w e w' :=
  ⟨fun h => absurd (hc.symm.trans h) h0, fun _ => hc ▸ h⟩

/-- bytes out of a text, in a world -/
structure Row8 (B : Nat) (L : List UInt8) (w0 w1 : World) : Prop where
  b : Below w0.heap.size w0 w1
  c : ∀ j (h : j < L.length), w1.cell? ⟨B, j, none⟩ = some (.int .u8 (L[j].toNat : Int))
theorem row8 (L : List UInt8) (w : World) : ∃ cap w', (convert 9 22 (.string ⟨L.toArray⟩)).run Tryd.prog w = .ok (.slice (some ⟨w.heap.size, 0, none⟩) L.length cap) w' ∧ Row8 w.heap.size L w w' := by
  refine ⟨_, _, Lib.run_convert_string_bytes (P := Tryd.prog) w 9 22 5 ⟨L.toArray⟩ Tryd.underlying9 Tryd.underlying22 Tryd.underlying5, ?_, fun j hj => ?_⟩
  · exact ⟨rfl, rfl, rfl, by rw [Lib.bytesWorld_size]; omega, fun k hk => Lib.bytesWorld_at_old w 5 _ k hk⟩
  · rw [Lib.bytesWorld_cell w 5 ⟨L.toArray⟩ j hj]
    simp [List.getD, List.getElem?_eq_getElem hj]

theorem or_step (x t : Nat) (ht : t < 256) (hx : x < 72057594037927936) : bits .or .u64 ((x : Int) * 256) (t : Int) = ((256 * x + t : Nat) : Int) := by
  have h : ((x : Int) * 256) = ((256 * x : Nat) : Int) := by omega
  rw [h, bits_or_u64_nat _ _ (by omega) (by omega), show 256 * x = 2 ^ 8 * x by omega, ← Nat.two_pow_add_eq_or_of_lt (by omega : t < 2 ^ 8)]

set_option maxRecDepth 100000 in
set_option maxHeartbeats 1000000 in
theorem number_any (A : Nat) (S : List UInt8) (a m s : Nat) (w : World) (hR : RAt A S a m w) (hg : GlobR w) (hA : 1 ≠ A) (hS : S.length ≤ 1000000) (ha : a ≤ S.length) (hs : s ≤ 4) :
    Calls Tryd.prog 29 #[.pointer (some ⟨A, 0, none⟩), .int .i64 (s : Int)] w (NumR A S a m (numQ (S.drop a) s) w) := by
  cases hcr : S.drop a with
  | nil =>
    have HT := Lib.hid (qtake_short A S a m 1 w hR hS ha (by decide) (by rw [hcr]; decide))
    go_enter Tryd.func29, Tryd.ntmps29
    go_wp2_with (go_at_call 25; refine HT.out.mono ?_; rintro e w2 ⟨⟨f, hf, rfl, hc⟩, ho⟩)
    exact ⟨rfl, .of_gave (c := 4) rfl (by decide) ⟨⟨f, hf, rfl, hc⟩, ho⟩⟩
  | cons c r =>
    have ha1 : a + 1 ≤ S.length := by have := congrArg List.length hcr; rw [List.length_drop, List.length_cons] at this; omega
    have hdr : S.drop (a + 1) = r := by rw [← List.drop_drop, hcr]; rfl
    have HT := Lib.hid (qtake_ok A S a m 1 w hR hS ha (by rw [hcr]; simp))
    have ht1 : (S.drop a).take 1 = [c] := by rw [hcr]; rfl
    have hq : c.toNat < 256 := c.toNat_lt
    have hix : ∀ w, (Instr.index 9 (.string ⟨[c].toArray⟩) (.int .i64 0)).run Tryd.prog w = .ok (.int .u8 (c.toNat : Int)) w := fun w => index_str [c] 0 (by simp) w
    obtain ⟨P, hP⟩ : ∃ P, numQ (c :: r) s = P := ⟨_, rfl⟩
    have HPP := Lib.hid hP
    rw [hP]
    rw [numQ] at hP
    have HROW := Lib.hid (find_row s c.toNat (by omega) hq)
    generalize c.toNat = q at *
    have HRO := Lib.hid (fun w (h : GlobR w) => rowOf_any s q A w h)
    clear hcr hR
    go_enter Tryd.func29, Tryd.ntmps29
    go_upto_region 2 with (go_at_call 25; refine HT.out.mono ?_; rintro e w1 ⟨rfl, hr1, ho1⟩; rw [ht1])
    have HG1 := Lib.hid (hg.only ho1 hA)
    rcases HROW.out with ⟨hn, hu⟩ | ⟨row, hf, hu, hle⟩
    · have HRN := Lib.hid (show Calls Tryd.prog 40 #[.int .i64 (s : Int), .int .u8 (q : Int)] w1 (Gave 5 A w1) from (HRO.out w1 HG1.out).mono fun e w2 h => by
        rcases h with ⟨_, h⟩ | ⟨r', h', _⟩
        · exact h
        · rw [hn] at h'; cases h')
      obtain rfl : P = ⟨0, [], 5, 0⟩ := by rw [← hP, hu]; rfl
      clear hP hu HRO HROW
      go_wp2_with (go_at_call 40; refine HRN.out.mono ?_; rintro e w2 ⟨⟨f, hf, rfl, hc⟩, ho⟩)
      exact ⟨rfl, .of_gave (c := 5) rfl (by decide) ((⟨⟨f, hf, rfl, hc⟩, ho⟩ : Gave 5 A w1 _ w2).from ho1)⟩
    · obtain ⟨rs, rf, rl, z, least⟩ := row
      have HRN := Lib.hid (show Calls Tryd.prog 40 #[.int .i64 (s : Int), .int .u8 (q : Int)] w1 (fun e w' => e = .returned (.agg #[.int .i64 (rs : Int), .int .u8 (rf : Int), .int .u8 (rl : Int), .int .i64 (z : Int), .int .u64 (least : Int)]) ∧ Below w1.heap.size w1 w') from (HRO.out w1 HG1.out).mono fun e w2 h => by
        rcases h with ⟨h', _⟩ | ⟨r', h', h1, h2⟩
        · rw [hf] at h'; cases h'
        · rw [hf] at h'; cases h'; exact ⟨h1, h2⟩)
      have hfit := rowU_fit s q hq
      rw [hu] at hP hfit
      have hz8 : z ≤ 8 ∧ least ≤ 4294967296 ∧ (0 < z → q - rf = 0) := by
        rcases hfit with h | h | h
        · have : (z : Int) = -1 := by simpa using congrArg Prod.fst h
          omega
        · simp only at h; omega
        · simp only at h; omega
      simp only at hP
      rw [if_neg (by omega), Int.toNat_natCast] at hP
      simp only at hle
      have hsub : (q : Int) - (rf : Int) = ((q - rf : Nat) : Int) := by omega
      have HSUB := Lib.hid hsub
      clear hsub
      clear hu HRO HROW hfit hf
      go_upto_region 3 with (go_at_call 40; refine HRN.out.mono ?_; rintro e w2 ⟨rfl, hb2⟩)
      have HO3 := Lib.hid (ho1.trans (Only.of_below (b := A) (hb2.trans ((by0 w2 (.cells #[.int .i64 (rs : Int), .int .u8 (rf : Int), .int .u8 (rl : Int), .int .i64 (z : Int), .int .u64 (least : Int)] 92)).mono hb2.size))))
      have HN3 := Lib.hid (heap_alloc_new w2 (.cells #[.int .i64 (rs : Int), .int .u8 (rf : Int), .int .u8 (rl : Int), .int .i64 (z : Int), .int .u64 (least : Int)] 92))
      have hAl : A < w1.heap.size := lit_lt hr1
      have HR3 := Lib.hid (show RAt A S (a + 1) m (w2.alloc (.cells #[.int .i64 (rs : Int), .int .u8 (rf : Int), .int .u8 (rl : Int), .int .i64 (z : Int), .int .u64 (least : Int)] 92)) from lit_old _ ((hb2.block A hAl).trans hr1))
      have HNA := Lib.hid (show w2.heap.size ≠ A by have := hb2.size; omega)
      clear HRN HG1 hr1 ho1 hAl hb2 hg
      generalize w2.alloc (.cells #[.int .i64 (rs : Int), .int .u8 (rf : Int), .int .u8 (rl : Int), .int .i64 (z : Int), .int .u64 (least : Int)] 92) = w3 at *
      generalize w2.heap.size = N at *
      have g1 := (lit_cell HN3.out 1).trans rfl
      have g3 := (lit_cell HN3.out 3).trans rfl
      by_cases hsh : r.length < z
      · rw [if_pos hsh] at hP
        subst hP
        have HT2 := Lib.hid (qtake_short A S (a + 1) m z w3 HR3.out hS ha1 (by omega) (by rw [hdr]; exact hsh))
        clear hsh
        go_wp2_with (go_at_call 25; refine HT2.out.mono ?_; rintro e w4 ⟨⟨f, hf, rfl, hc⟩, ho⟩)
        exact ⟨rfl, .of_gave (c := 4) rfl (by decide) ((⟨⟨f, hf, rfl, hc⟩, ho⟩ : Gave 4 A w3 _ w4).from HO3.out)⟩
      · rw [if_neg hsh] at hP
        have HT2 := Lib.hid (qtake_ok A S (a + 1) m z w3 HR3.out hS ha1 (by rw [hdr]; omega))
        have hTl : (r.take z).length = z := by rw [List.length_take]; omega
        have HD := Lib.hid hdr
        have hbt := beN_lt (r.take z) (q - rf)
        rw [hTl] at hbt
        obtain ⟨T, hTe⟩ : ∃ T, (S.drop (a + 1)).take z = T := ⟨_, rfl⟩
        rw [← hdr, hTe] at hP hTl hbt
        generalize q - rf = n0 at *
        clear hsh hdr
        go_upto_region 5 with (go_at_call 25; refine HT2.out.mono ?_; rintro e w4 ⟨rfl, hr4, ho4⟩; rw [hTe]; obtain ⟨cap, w5, hconv, h8⟩ := row8 T w4)
        have HO5 := Lib.hid ((HO3.out.trans ho4).trans (Only.of_below (b := A) h8.b))
        have HR5 := Lib.hid (show RAt A S (a + 1 + z) m w5 from (h8.b.block A (lit_lt hr4)).trans hr4)
        have HN5 := Lib.hid ((h8.b.block N (Nat.lt_of_lt_of_le (lit_lt HN3.out) ho4.size)).trans ((ho4.block N (lit_lt HN3.out) HNA.out).trans HN3.out))
        have HC8 := Lib.hid h8.c
        generalize w4.heap.size = B4 at *
        clear hconv h8 hr4 ho4 HO3 HR3 HN3 g1 g3 HT2 HT ht1 hix
        have HTL := Lib.hid hTl
        have HBT := Lib.hid hbt
        have HZ := Lib.hid hz8
        have hz8' : (z : Int) ≤ 8 := by omega
        clear hbt hz8
        go_loopw [7, 27] (fun s7 s27 wr => wr = w5 ∧ ∃ k : Nat, s27 = .int .i64 (k : Int) ∧ k ≤ z ∧ s7 = .int .u64 ((beN n0 (T.take k) : Nat) : Int))
          (fun _ s27 _ => z - (intOf s27).toNat)
        case atStart => exact ⟨rfl, 0, rfl, Nat.zero_le _, by rw [HSUB.out]; rfl⟩
        case round =>
          obtain ⟨hwr, k, rfl, hk, rfl⟩ := hrel
          subst hwr
          by_cases hlt : k < z
          · have i1 : (k : Int) < (z : Int) := by omega
            have i0 : (0 : Int) ≤ (k : Int) := by omega
            have hc := HC8.out k (by rw [HTL.out]; exact hlt)
            have hq2 : T[k].toNat < 256 := T[k].toNat_lt
            have hstep : beN n0 (T.take (k + 1)) = 256 * beN n0 (T.take k) + T[k].toNat := by
              rw [List.take_succ_eq_append_getElem (by rw [HTL.out]; exact hlt), beN_snoc]
            have hsm : beN n0 (T.take k) < 72057594037927936 := by
              have h1 := beN_lt (T.take k) n0
              have h2 : (T.take k).length = k := by rw [List.length_take, HTL.out]; omega
              rw [h2, HZ.out.2.2 (by omega), Nat.zero_add, Nat.one_mul] at h1
              rw [HZ.out.2.2 (by omega)]
              exact Nat.lt_of_lt_of_le h1 (Nat.le_trans (Nat.pow_le_pow_right (by decide) (show k ≤ 7 by omega)) (by decide))
            have HST := Lib.hid hstep
            clear hstep
            generalize T[k].toNat = t at *
            generalize beN n0 (T.take k) = x at *
            go_wp2
            go_roundw
            case rel => exact ⟨trivial, k + 1, by simp, hlt, by rw [HST.out, or_step x t hq2 hsm]⟩
            case measure => simp [intOf] <;> omega
          · obtain rfl : k = z := by omega
            have hTt : T.take k = T := by rw [← HTL.out, List.take_length]
            rw [hTt]
            have g4 := (lit_cell HN5.out 4).trans rfl
            clear hlt hk
            by_cases hle2 : beN n0 T < least
            · rw [if_pos hle2] at hP
              subst hP
              have HG2 := Lib.hid (giveUp_any 5 A wr)
              have i1 : ((beN n0 T : Nat) : Int) < (least : Int) := by omega
              clear hle2
              go_wp2_with (go_at_call 26; refine HG2.out.mono ?_; rintro e w6 ⟨⟨f, hf, rfl, hc⟩, ho⟩)
              exact ⟨rfl, .of_gave (c := 5) rfl (by decide) ((⟨⟨f, hf, rfl, hc⟩, ho⟩ : Gave 5 A wr _ w6).from HO5.out)⟩
            · rw [if_neg hle2] at hP
              subst hP
              have i1 : ¬ ((beN n0 T : Nat) : Int) < (least : Int) := by omega
              clear hle2
              go_wp2
              go_ret
              exact ⟨fun _ => ⟨rfl, by rw [← Nat.add_assoc]; exact HR5.out, HO5.out⟩, fun h => absurd rfl h⟩

theorem numQ_n (left : List UInt8) (s : Nat) : (numQ left s).n < 18446744073709551616 ∧ ((numQ left s).c ≠ 0 → (numQ left s).n = 0 ∧ (numQ left s).m = 0) ∧ (numQ left s).m ≤ left.length ∧ (numQ left s).c ≤ 5 := by
  cases left with
  | nil => exact ⟨by simp [numQ], fun _ => ⟨rfl, rfl⟩, by simp [numQ], by simp [numQ]⟩
  | cons b r =>
    rw [numQ]
    have hq : b.toNat < 256 := b.toNat_lt
    have hfit := rowU_fit s b.toNat hq
    generalize rowU s b.toNat = R at *
    obtain ⟨sz, n0, least⟩ := R
    simp only at hfit ⊢
    by_cases h0 : sz < 0
    · rw [if_pos h0]; exact ⟨by decide, fun _ => ⟨rfl, rfl⟩, by simp, by decide⟩
    · rw [if_neg h0]
      obtain ⟨z, rfl⟩ : ∃ z : Nat, sz = (z : Int) := ⟨sz.toNat, by omega⟩
      rw [Int.toNat_natCast]
      have hz : z ≤ 8 ∧ n0 < 256 ∧ (0 < z → n0 = 0) := by
        rcases hfit with h | h | h
        · have : (z : Int) = -1 := by simpa using congrArg Prod.fst h
          omega
        · omega
        · omega
      by_cases h1 : r.length < z
      · rw [if_pos h1]; exact ⟨by decide, fun _ => ⟨rfl, rfl⟩, by simp, by decide⟩
      · rw [if_neg h1]
        have hN := beN_lt (r.take z) n0
        have hl : (r.take z).length = z := by rw [List.length_take]; omega
        rw [hl] at hN
        have h64 : beN n0 (r.take z) < 18446744073709551616 := by
          by_cases h : 0 < z
          · rw [hz.2.2 h, Nat.zero_add, Nat.one_mul] at hN
            rw [hz.2.2 h]
            exact Nat.lt_of_lt_of_le hN (Nat.le_trans (Nat.pow_le_pow_right (by decide) hz.1) (by decide))
          · obtain rfl : z = 0 := by omega
            rw [List.take_zero, beN]; omega
        by_cases h2 : beN n0 (r.take z) < least
        · rw [if_pos h2]; exact ⟨by decide, fun _ => ⟨rfl, rfl⟩, by simp, by decide⟩
        · rw [if_neg h2]
          exact ⟨h64, fun h => absurd rfl h, by simp only [List.length_cons]; omega, Nat.zero_le _⟩

/-- a length: a number that is not above the bound -/
def lenQ (left : List UInt8) (most s : Nat) : TP := if (numQ left s).c = 0 ∧ most < (numQ left s).n then ⟨0, [], 3, 0⟩ else numQ left s
structure LenR (A : Nat) (S : List UInt8) (a m : Nat) (P : TP) (w : World) (e : Ending) (w' : World) : Prop where
  ok : P.c = 0 → e = .returned (.int .i64 (P.n : Int)) ∧ RAt A S (a + P.m) m w' ∧ Only A w w'
  bad : P.c ≠ 0 → Gave P.c A w e w'
set_option maxRecDepth 100000 in
theorem length_any (A : Nat) (S : List UInt8) (a m s : Nat) (w : World) (hR : RAt A S a m w) (hg : GlobR w) (hA : 1 ≠ A) (hS : S.length ≤ 1000000) (ha : a ≤ S.length) (hs : s ≤ 4) (hm : m < 9223372036854775808) :
    Calls Tryd.prog 42 #[.pointer (some ⟨A, 0, none⟩), .int .i64 (s : Int)] w (LenR A S a m (lenQ (S.drop a) m s) w) := by
  have HC := Lib.hid (number_any A S a m s w hR hg hA hS ha hs)
  obtain ⟨hn64, _, _, _⟩ := numQ_n (S.drop a) s
  have HL := Lib.hid (show lenQ (S.drop a) m s = if (numQ (S.drop a) s).c = 0 ∧ m < (numQ (S.drop a) s).n then ⟨0, [], 3, 0⟩ else numQ (S.drop a) s from rfl)
  clear hR hg hS ha hs
  generalize lenQ (S.drop a) m s = Q at *
  generalize numQ (S.drop a) s = P at *
  by_cases hc : P.c = 0
  · have HC2 := Lib.hid (HC.out.mono fun e w' h => h.ok hc)
    clear HC
    have hm1 : (m : Int) % 18446744073709551616 = (m : Int) := by omega
    by_cases hlo : m < P.n
    · obtain rfl : Q = ⟨0, [], 3, 0⟩ := by rw [HL.out, if_pos ⟨hc, hlo⟩]
      have i1 : (m : Int) < (P.n : Int) := by omega
      clear HL hlo hn64 hc
      go_enter Tryd.func42, Tryd.ntmps42
      go_upto_region 2 with (go_at_call 29; refine HC2.out.mono ?_; rintro e w1 ⟨rfl, hr, ho⟩)
      have HO := Lib.hid ho
      have c2 := (lit_cell hr 2).trans rfl
      have HG2 := Lib.hid (giveUp_any 3 A w1)
      clear ho hr
      go_wp2_with (go_at_call 26; refine HG2.out.mono ?_; rintro e w6 ⟨⟨f, hf, rfl, hc⟩, ho⟩)
      exact ⟨rfl, ⟨fun h => absurd h (by decide), fun _ => (⟨⟨f, hf, rfl, hc⟩, ho⟩ : Gave 3 A w1 _ w6).from HO.out⟩⟩
    · obtain rfl : Q = P := by rw [HL.out, if_neg (fun h => hlo h.2)]
      have i1 : ¬ (m : Int) < (Q.n : Int) := by omega
      have i2 : wrap64 (Q.n : Int) = (Q.n : Int) := w64 _ (by omega) (by omega)
      have i3 : (Q.n : Int) ≤ 9223372036854775807 := by omega
      clear HL hlo hn64
      go_enter Tryd.func42, Tryd.ntmps42
      go_upto_region 2 with (go_at_call 29; refine HC2.out.mono ?_; rintro e w1 ⟨rfl, hr, ho⟩)
      have HO := Lib.hid ho
      have HR := Lib.hid hr
      have c2 := (lit_cell hr 2).trans rfl
      clear ho hr
      go_wp2
      go_ret
      exact ⟨fun _ => ⟨rfl, HR.out, HO.out⟩, fun h => absurd hc h⟩
  · have HC2 := Lib.hid (HC.out.mono fun e w' h => h.bad hc)
    obtain rfl : Q = P := by rw [HL.out, if_neg (fun h => hc h.1)]
    clear HC HL hn64
    go_enter Tryd.func42, Tryd.ntmps42
    go_wp2_with (go_at_call 29; refine HC2.out.mono ?_; rintro e w1 ⟨⟨f, hf, rfl, hf2⟩, ho⟩)
    exact ⟨rfl, ⟨fun h => absurd h hc, fun _ => ⟨⟨f, hf, rfl, hf2⟩, ho⟩⟩⟩
end Go.Proofs.YtefhjncoakgbkaaDoor
