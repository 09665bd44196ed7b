/- The program's Digits. -/
import Derived.Test.YtpbbpkflljcklaaDoorJEp1
namespace Go.Proofs.YtpbbpkflljcklaaDoor
open Go.RowKit

/-- an array of digits in a block -/
def ArrD (B : Nat) (C : List Nat) (w : World) : Prop := w.heap[B]? = some (.cells (intC C).toArray 61 (0, 0))
theorem ArrD.set {B : Nat} {C : List Nat} {w : World} (h : ArrD B C w) (k v : Nat) : ArrD B (C.set k v) (w.setCell ⟨B, k, none⟩ (.int .i64 (v : Int))) := by
  have h1 := lit_set (k := k) (.int .i64 (v : Int)) h
  have h2 : (intC C).toArray.setIfInBounds k (.int .i64 (v : Int)) = (intC (C.set k v)).toArray := by simp [intC, List.map_set]
  rw [h2] at h1
  exact h1
theorem ArrD.drew {B : Nat} {C : List Nat} {w : World} (h : ArrD B C w) : ArrD B C w.drew := h
theorem ArrD.cell {B : Nat} {C : List Nat} {w : World} (h : ArrD B C w) (k x : Nat) (hk : C[k]? = some x) : w.cell? ⟨B, k, none⟩ = some (.int .i64 (x : Int)) := by
  rw [lit_cell h]
  simp [intC, hk]
theorem ArrD.free {B : Nat} {C : List Nat} {w : World} (h : ArrD B C w) (k : Nat) : w.frozen? ⟨B, k, none⟩ = false := lit_free h k
theorem ArrD.some {B : Nat} {C : List Nat} {w : World} (h : ArrD B C w) (k : Nat) (hk : k < C.length) : ∃ q : Nat, w.cell? ⟨B, k, none⟩ = some (.int .i64 (q : Int)) := ⟨_, h.cell k _ (List.getElem?_eq_getElem hk)⟩
def padI (X : List Nat) : List Nat := X ++ List.replicate (67 - X.length) 0
theorem padI_set (X : List Nat) (h l : Nat) (hX : X.length + 2 ≤ 67) : ((padI X).set X.length h).set (X.length + 1) l = padI (X ++ [h, l]) := by
  obtain ⟨m, hm⟩ : ∃ m, 67 - X.length = m + 2 := ⟨65 - X.length, by omega⟩
  have e : 67 - (X ++ [h, l]).length = m := by rw [List.length_append]; simp; omega
  rw [padI, padI, hm, e, List.replicate_succ, List.replicate_succ, List.set_append_right _ _ (Nat.le_refl _), Nat.sub_self, List.set_cons_zero, List.set_append_right _ _ (by omega), show X.length + 1 - X.length = 1 by omega, List.set_cons_succ, List.set_cons_zero]
  simp
theorem padI_len (X : List Nat) (h : X.length ≤ 67) : (padI X).length = 67 := by rw [padI, List.length_append, List.length_replicate]; omega
def tail3 (S : Nat) : Nat → List Nat
  | 0 => [0, 0, 0]
  | 1 => [0, 0, S % 16]
  | 2 => [0, S / 16 % 16, S % 16]
  | _ => [S / 256, S / 16 % 16, S % 16]
theorem tail3_set (X : List Nat) (S m r : Nat) (hX : X.length = 64) (hm : m < 3) (hS : S ≤ 960) (hr : r = S / 16 ^ m) : (X ++ tail3 S m).set (66 - m) (r % 16) = X ++ tail3 S (m + 1) := by
  subst hr
  rw [List.set_append_right _ _ (by omega), hX]
  obtain rfl | rfl | rfl : m = 0 ∨ m = 1 ∨ m = 2 := by omega
  · simp [tail3]
  · simp [tail3]
  · simp [tail3]; omega
theorem padI_tail (X : List Nat) (S : Nat) (hX : X.length = 64) : padI X = X ++ tail3 S 0 := by rw [padI, hX]; rfl
theorem zero67 (w : World) : (zeroValue 61).run Tryd.prog w = .ok (.agg (intC (padI [])).toArray) w := by kernel_rfl
set_option maxRecDepth 100000 in
set_option maxHeartbeats 1000000 in
theorem digits_any (s : (List UInt8)) (w : World) :
    Calls Tryd.prog 18 #[.string ⟨s.toArray⟩] w fun e w' => ∃ ao cp, e = .returned (.slice ao (digC s).length cp) ∧ Ints ao (digC s) w' ∧ Below w.heap.size w w' := by
  by_cases h32 : s.length = 32
  · have HE := Lib.hid (show digC s = digL s from if_pos h32)
    have HL := Lib.hid (digL_len h32)
    rw [HE.out, HL.out]
    have h32i : (s.length : Int) = 32 := by omega
    have HS := Lib.hid h32
    have HB0 := Lib.hid (by0 w (.cells (intC (padI [])).toArray 61))
    have HN0 := Lib.hid (show ArrD w.heap.size (padI []) (w.alloc (.cells (intC (padI [])).toArray 61)) from heap_alloc_new _ _)
    obtain ⟨B, hB⟩ : ∃ B, B = w.heap.size := ⟨_, rfl⟩
    rw [← hB] at HB0 HN0 ⊢
    have HBB := Lib.hid hB
    clear h32
    go_enter Tryd.func18, Tryd.ntmps18
    have hz0 := zero67 w
    go_wp2
    rw [← hB]
    clear hz0 hB
    generalize w.alloc (.cells (intC (padI [])).toArray 61) = w1 at *
    go_loopw [4, 10] (fun v4 v10 wr => ∃ k : Nat, k ≤ 32 ∧ v10 = .int .i64 (k : Int) ∧ Hid (ArrD B (padI (hvL (s.take k))) wr) ∧ Hid (Below B w wr)) (fun _ v10 _ => 32 - (intOf v10).toNat)
    case atStart => exact ⟨0, Nat.zero_le _, rfl, HN0, HB0⟩
    case round =>
      obtain ⟨k, hk, rfl, HI, HB⟩ := hrel
      by_cases hlt : k < 32
      · have k1 : (k : Int) < 32 := by omega
        have k0 : (0 : Int) ≤ (k : Int) := by omega
        have hks : k < s.length := by have := HS.out; omega
        have hXl : (hvL (s.take k)).length = 2 * k := by rw [hvL_len, List.length_take]; omega
        have hpa := padI_set (hvL (s.take k)) (s[k].toNat / 16) (s[k].toNat % 16) (by omega)
        rw [← hvL_take s k hks, hXl] at hpa
        have HP := Lib.hid hpa
        have hix := fun w => cindex s k hks w
        have hb := b256 s[k]
        have hA1 := HI.out.set (2 * k) (s[k].toNat / 16)
        have hA2 := hA1.set (2 * k + 1) (s[k].toNat % 16)
        rw [hpa] at hA2
        have HA2 := Lib.hid hA2
        have hlk : 2 * k + 1 < (padI (hvL (s.take k))).length := by rw [padI_len _ (by omega)]; omega
        obtain ⟨q1, hc1⟩ := HI.out.some (2 * k) (by omega)
        have hf1 := HI.out.free (2 * k)
        obtain ⟨q2, hc2⟩ := hA1.some (2 * k + 1) (by rw [List.length_set]; omega)
        have hf2 := hA1.free (2 * k + 1)
        have HBk := Lib.hid ((HB.out.setCell (p := ⟨B, 2 * k, none⟩) (Nat.le_refl _) (.int .i64 ((s[k].toNat / 16 : Nat) : Int))).setCell (p := ⟨B, 2 * k + 1, none⟩) (Nat.le_refl _) (.int .i64 ((s[k].toNat % 16 : Nat) : Int)))
        clear hpa hA1 hA2 hlk hXl

        generalize s[k].toNat = b at *
        have e1 : (b : Int) / 16 = ((b / 16 : Nat) : Int) := by omega
        have e2 : (b : Int) % 16 = ((b % 16 : Nat) : Int) := by omega
        have j1 : (2 : Int) * (k : Int) = ((2 * k : Nat) : Int) := by omega
        have jm : 2 * k < 66 := by omega
        generalize b / 16 = t at *
        generalize b % 16 = l at *
        generalize 2 * k = j at *
        go_wp2
        go_roundw
        case rel => exact ⟨k + 1, by omega, by go_num, HA2, HBk⟩
        case measure => simp [intOf]; omega
      · have k1 : ¬ (k : Int) < 32 := by omega
        have ek : s.take k = s := List.take_of_length_le (by have := HS.out; omega)
        rw [ek] at HI
        have hX : (hvL s).length = 64 := by rw [hvL_len]; have := HS.out; omega
        have hI := HI.out
        rw [padI_tail _ (lackL s) hX] at hI
        have HI := Lib.hid hI
        have hBlt := lit_lt hI
        have HLK := Lib.hid (lacking_any B 67 (hvL s) (hvL_le s) hX wr hBlt (fun i h => hI.cell i _ (by rw [List.getElem?_append_left h]; exact List.getElem?_eq_getElem h)))
        rw [lakN_hv] at HLK
        have hS : lackL s ≤ 960 := by have := lackL_le s; have := HS.out; omega
        have HSS := Lib.hid hS
        have HXL := Lib.hid hX
        have HBL := Lib.hid hBlt
        have HD := Lib.hid (show digL s = hvL s ++ tail3 (lackL s) 3 from rfl)
        clear hI hX hlt hk ek hS hBlt
        generalize lackL s = S at *
        generalize hvL s = X at *
        go_upto_region 11 with (go_at_call 33; refine HLK.out.mono ?_; rintro e w2 ⟨rfl, hb2⟩; have HI2 := Lib.hid (show ArrD B (X ++ tail3 S 0) w2 from (hb2.block B HBL.out).trans HI.out); have HB2 := Lib.hid (HB.out.trans (hb2.mono (Nat.le_of_lt HBL.out))); clear hb2)
        go_wp2
        go_loopw [5, 6] (fun v5 v6 wr => ∃ p r : Nat, 63 ≤ p ∧ p ≤ 66 ∧ v6 = .int .i64 (p : Int) ∧ v5 = .int .i64 (r : Int) ∧ Hid (r = S / 16 ^ (66 - p)) ∧ Hid (ArrD B (X ++ tail3 S (66 - p)) wr) ∧ Hid (Below B w wr)) (fun _ v6 _ => (intOf v6).toNat)
        case atStart => exact ⟨66, S, by decide, Nat.le_refl _, rfl, rfl, Lib.hid (by simp), HI2, HB2⟩
        case round =>
          obtain ⟨p, r, hp63, hp66, rfl, rfl, HR, HI3, HB3⟩ := hrel
          by_cases hlt : 64 ≤ p
          · have p0 : (64 : Int) ≤ (p : Int) := by omega
            have p1 : (p : Int) ≤ 66 := by omega
            have hq := tail3_set X S (66 - p) r HXL.out (by omega) HSS.out HR.out
            rw [show 66 - (66 - p) = p by omega] at hq
            have hA := HI3.out.set p (r % 16)
            rw [hq] at hA
            have HA := Lib.hid hA
            have hf := HI3.out.free p
            obtain ⟨q1, hc1⟩ := HI3.out.some p (by
              have h3 : ∀ m, (tail3 S m).length = 3 := fun m => by unfold tail3; split <;> rfl
              rw [List.length_append, h3, HXL.out]; omega)
            have hr : r ≤ 960 := by rw [HR.out]; exact Nat.le_trans (Nat.div_le_self _ _) HSS.out
            have HB4 := Lib.hid (HB3.out.setCell (p := ⟨B, p, none⟩) (Nat.le_refl _) (.int .i64 ((r % 16 : Nat) : Int)))
            have HR2 := Lib.hid (show r / 16 = S / 16 ^ (66 - p + 1) by rw [HR.out, Nat.div_div_eq_div_mul, ← Nat.pow_succ])
            have e1 : (r : Int) % 16 = ((r % 16 : Nat) : Int) := by omega
            have e2 : (r : Int) / 16 = ((r / 16 : Nat) : Int) := by omega
            have e3 : (p : Int) - 1 = ((p - 1 : Nat) : Int) := by omega
            have HPQ := Lib.hid (show 66 - p + 1 = 66 - (p - 1) ∧ 63 ≤ p - 1 ∧ p - 1 ≤ 66 ∧ p - 1 < p by omega)
            clear hq hA hp63 hp66
            generalize r % 16 = l at *
            generalize r / 16 = r2 at *
            generalize 66 - p + 1 = m1 at *
            generalize p - 1 = p2 at *
            go_wp2
            go_roundw
            case rel => exact ⟨p2, r2, HPQ.out.2.1, HPQ.out.2.2.1, rfl, rfl, Lib.hid (by rw [← HPQ.out.1]; exact HR2.out), Lib.hid (by rw [← HPQ.out.1]; exact HA.out), HB4⟩
            case measure => have := HPQ.out.2.2.2; simp [intOf]; omega
          · have p0 : ¬ (64 : Int) ≤ (p : Int) := by omega
            obtain rfl : p = 63 := by omega
            have hI := HI3.out
            rw [← HD.out] at hI
            have HI4 := Lib.hid hI
            have hblt := lit_lt hI
            clear hI hp63 hp66 hlt
            go_wp2
            refine bodyPost_ret (v := .slice (some ⟨B, 0, none⟩) 67 67) (by simp [results, Tryd.results18, go_sem]) rfl ?_
            exact ⟨some ⟨B, 0, none⟩, ⟨67, rfl⟩, .inr ⟨B, 0, rfl, hblt, fun i h => by rw [Nat.zero_add]; exact HI4.out.cell i _ (List.getElem?_eq_getElem h)⟩, HB3.out⟩
  · have HE := Lib.hid (show digC s = [] from if_neg h32)
    rw [HE.out]
    have h32i : ¬ (s.length : Int) = 32 := by omega
    clear h32
    go_enter Tryd.func18, Tryd.ntmps18
    go_wp2
    exact bodyPost_ret (v := .slice none 0 0) (by simp [results, Tryd.results18, go_sem]) rfl ⟨none, 0, rfl, .inl rfl, Below.refl _ _⟩
end Go.Proofs.YtpbbpkflljcklaaDoor
