/- The program's own leaves: what digits lack, a byte as a text, which chains and walks there are. -/
import Derived.Test.YtmnklonoelpidaaGreatDoorJ8
import Derived.Test.YtmnklonoelpidaaGreatDoorJ20
import Derived.Laws.EntriesVeiled
namespace Go.Proofs.YtmnklonoelpidaaGreatDoor
open Go.RowKit

theorem oneByte_calls (n : Nat) (hn : n < 256) (w : World) : Calls Tryz.prog 157 #[.int .i64 (n : Int)] w fun e w' => e = .returned (.string ⟨[UInt8.ofNat n].toArray⟩) ∧ Below w.heap.size w w' := by
  have hc := conv_one n hn w
  go_enter Tryz.func157, Tryz.ntmps157
  go_wp2
  go_ret
  exact ⟨rfl, by0 w _⟩
theorem isChain_yes (i : Nat) (h : i ≤ 66) (w : World) : Calls Tryz.prog 127 #[.int .i64 (i : Int)] w fun e w' => e = .returned (.bool true) ∧ w' = w := by
  have h0 : (0 : Int) ≤ (i : Int) := by omega
  have h1 : (i : Int) < 67 := by omega
  go_enter Tryz.func127, Tryz.ntmps127
  go_wp2
  go_ret
  exact ⟨rfl, rfl⟩
theorem isChain_no (i : Int) (h : ¬ (0 ≤ i ∧ i ≤ 66)) (w : World) : Calls Tryz.prog 127 #[.int .i64 i] w fun e w' => e = .returned (.bool false) ∧ w' = w := by
  by_cases h0 : (0 : Int) ≤ i
  · have h1 : ¬ i < 67 := by omega
    clear h
    go_enter Tryz.func127, Tryz.ntmps127
    go_wp2
    go_ret
    exact ⟨rfl, rfl⟩
  · clear h
    go_enter Tryz.func127, Tryz.ntmps127
    go_wp2
    go_ret
    exact ⟨rfl, rfl⟩
theorem isWalk_yes (a b : Nat) (h : a ≤ b) (hb : b ≤ 15) (w : World) : Calls Tryz.prog 128 #[.int .i64 (a : Int), .int .i64 (b : Int)] w fun e w' => e = .returned (.bool true) ∧ w' = w := by
  have h0 : (0 : Int) ≤ (a : Int) := by omega
  have h1 : (a : Int) ≤ (b : Int) := by omega
  have h2 : (b : Int) ≤ 15 := by omega
  go_enter Tryz.func128, Tryz.ntmps128
  go_wp2
  go_ret
  exact ⟨rfl, rfl⟩
theorem isWalk_no (a b : Int) (h : ¬ (0 ≤ a ∧ a ≤ b ∧ b ≤ 15)) (w : World) : Calls Tryz.prog 128 #[.int .i64 a, .int .i64 b] w fun e w' => e = .returned (.bool false) ∧ w' = w := by
  by_cases h0 : (0 : Int) ≤ a
  · by_cases h1 : a ≤ b
    · have h2 : ¬ b ≤ 15 := by omega
      clear h
      go_enter Tryz.func128, Tryz.ntmps128
      go_wp2
      go_ret
      exact ⟨rfl, rfl⟩
    · clear h
      go_enter Tryz.func128, Tryz.ntmps128
      go_wp2
      go_ret
      exact ⟨rfl, rfl⟩
  · clear h
    go_enter Tryz.func128, Tryz.ntmps128
    go_wp2
    go_ret
    exact ⟨rfl, rfl⟩

def lakN (X : List Nat) : Nat := (X.map fun x => 15 - x).sum
theorem lakN_take (X : List Nat) (k : Nat) (h : k < X.length) : lakN (X.take (k + 1)) = lakN (X.take k) + (15 - X[k]) := by
  rw [lakN, List.take_succ_eq_append_getElem h, List.map_append, List.sum_append, ← lakN]; simp
theorem lakN_le : ∀ X : List Nat, lakN X ≤ 15 * X.length
  | [] => by simp [lakN]
  | x :: X => by
    have := lakN_le X
    rw [lakN] at this ⊢
    rw [List.map_cons, List.sum_cons, List.length_cons]
    omega
theorem lakN_hv : ∀ s : (List UInt8), lakN (hvL s) = lackL s
  | [] => rfl
  | b :: s => by
    have h := lakN_hv s
    have hb := b256 b
    rw [lackL_cons, ← h, lakN, lakN, show hvL (b :: s) = [b.toNat / 16, b.toNat % 16] ++ hvL s from rfl, List.map_append, List.sum_append]
    simp only [List.map_cons, List.map_nil, List.sum_cons, List.sum_nil]
    omega
set_option maxRecDepth 100000 in
set_option maxHeartbeats 1000000 in
theorem lacking_any (B cap : Nat) (X : List Nat) (hX : ∀ x ∈ X, x ≤ 15) (hl : X.length = 64) (w : World) (hB : B < w.heap.size) (hc : ∀ i (h : i < X.length), w.cell? ⟨B, i, none⟩ = some (.int .i64 (X[i] : Int))) :
    Calls Tryz.prog 115 #[.slice (some ⟨B, 0, none⟩) 64 cap] w fun e w' => e = .returned (.int .i64 (lakN X : Int)) ∧ Below w.heap.size w w' := by
  have HC := Lib.hid hc
  have HL := Lib.hid hl
  have HX := Lib.hid hX
  have HBB := Lib.hid hB
  clear hc hl hX hB
  go_enter Tryz.func115, Tryz.ntmps115
  go_wp2
  go_loopw [3, 5, 8] (fun v3 v5 v8 wr => ∃ k : Nat, k ≤ 64 ∧ v8 = .int .i64 (k : Int) ∧ v3 = .int .i64 (lakN (X.take k) : Int) ∧ Hid (Below w.heap.size w wr)) (fun _ _ v8 _ => 64 - (intOf v8).toNat)
  case atStart => exact ⟨0, Nat.zero_le _, rfl, rfl, Lib.hid (Below.refl _ _)⟩
  case round =>
    obtain ⟨k, hk, rfl, rfl, HB⟩ := hrel
    by_cases hlt : k < 64
    · have k1 : (k : Int) < 64 := by omega
      have k0 : (0 : Int) ≤ (k : Int) := by omega
      have hkx : k < X.length := by have := HL.out; omega
      have hcell : wr.cell? ⟨B, k, none⟩ = some (.int .i64 (X[k] : Int)) := (HB.out.cell HBB.out).trans (HC.out k hkx)
      have HT := Lib.hid (lakN_take X k hkx)
      have hle := HX.out _ (List.getElem_mem hkx)
      have hsum : lakN (X.take k) ≤ 960 := by
        have := lakN_le (X.take k)
        rw [List.length_take] at this
        omega
      generalize X[k] = x at *
      generalize lakN (X.take k) = S at *
      obtain ⟨y, hy⟩ : ∃ y, y = 15 - x := ⟨_, rfl⟩
      have e1 : (15 : Int) - (x : Int) = (y : Int) := by omega
      have hy15 : y ≤ 15 := by omega
      rw [← hy] at HT
      clear hy hkx
      go_wp2
      go_roundw
      case rel => exact ⟨k + 1, by omega, by go_num, by rw [HT.out]; go_num, HB⟩
      case measure => simp [intOf]; omega
    · have k1 : ¬ (k : Int) < 64 := by omega
      have HT := Lib.hid (show lakN (X.take k) = lakN X by rw [List.take_of_length_le (by have := HL.out; omega)])
      generalize lakN (X.take k) = S at *
      go_wp2
      go_ret
      exact ⟨by rw [← HT.out]; rfl, HB.out⟩
end Go.Proofs.YtmnklonoelpidaaGreatDoor
/- The program's Digits. -/
namespace Go.Proofs.YtmnklonoelpidaaGreatDoor
open Go.RowKit

/-- an array of digits in a block -/
def ArrD (B : Nat) (C : List Nat) (w : World) : Prop := w.heap[B]? = some (.cells (intC C).toArray 156 (0, 0))
theorem ArrD.set {B : Nat} {C : List Nat} {w : World} (h : ArrD B C w) (k v : Nat) : ArrD B (C.set k v) (w.setCell ⟨B, k, none⟩ (.int .i64 (v : Int))) := by
  have h1 := lit_set (k := k) (.int .i64 (v : Int)) h
  have h2 : (intC C).toArray.setIfInBounds k (.int .i64 (v : Int)) = (intC (C.set k v)).toArray := by simp [intC, List.map_set]
  rw [h2] at h1
  exact h1
theorem ArrD.drew {B : Nat} {C : List Nat} {w : World} (h : ArrD B C w) : ArrD B C w.drew := h
theorem ArrD.cell {B : Nat} {C : List Nat} {w : World} (h : ArrD B C w) (k x : Nat) (hk : C[k]? = some x) : w.cell? ⟨B, k, none⟩ = some (.int .i64 (x : Int)) := by
  rw [lit_cell h]
  simp [intC, hk]
theorem ArrD.free {B : Nat} {C : List Nat} {w : World} (h : ArrD B C w) (k : Nat) : w.frozen? ⟨B, k, none⟩ = false := lit_free h k
theorem ArrD.some {B : Nat} {C : List Nat} {w : World} (h : ArrD B C w) (k : Nat) (hk : k < C.length) : ∃ q : Nat, w.cell? ⟨B, k, none⟩ = some (.int .i64 (q : Int)) := ⟨_, h.cell k _ (List.getElem?_eq_getElem hk)⟩
def padI (X : List Nat) : List Nat := X ++ List.replicate (67 - X.length) 0
theorem padI_set (X : List Nat) (h l : Nat) (hX : X.length + 2 ≤ 67) : ((padI X).set X.length h).set (X.length + 1) l = padI (X ++ [h, l]) := by
  obtain ⟨m, hm⟩ : ∃ m, 67 - X.length = m + 2 := ⟨65 - X.length, by omega⟩
  have e : 67 - (X ++ [h, l]).length = m := by rw [List.length_append]; simp; omega
  rw [padI, padI, hm, e, List.replicate_succ, List.replicate_succ, List.set_append_right _ _ (Nat.le_refl _), Nat.sub_self, List.set_cons_zero, List.set_append_right _ _ (by omega), show X.length + 1 - X.length = 1 by omega, List.set_cons_succ, List.set_cons_zero]
  simp
theorem padI_len (X : List Nat) (h : X.length ≤ 67) : (padI X).length = 67 := by rw [padI, List.length_append, List.length_replicate]; omega
def tail3 (S : Nat) : Nat → List Nat
  | 0 => [0, 0, 0]
  | 1 => [0, 0, S % 16]
  | 2 => [0, S / 16 % 16, S % 16]
  | _ => [S / 256, S / 16 % 16, S % 16]
theorem tail3_set (X : List Nat) (S m r : Nat) (hX : X.length = 64) (hm : m < 3) (hS : S ≤ 960) (hr : r = S / 16 ^ m) : (X ++ tail3 S m).set (66 - m) (r % 16) = X ++ tail3 S (m + 1) := by
  subst hr
  rw [List.set_append_right _ _ (by omega), hX]
  obtain rfl | rfl | rfl : m = 0 ∨ m = 1 ∨ m = 2 := by omega
  · simp [tail3]
  · simp [tail3]
  · simp [tail3]; omega
theorem padI_tail (X : List Nat) (S : Nat) (hX : X.length = 64) : padI X = X ++ tail3 S 0 := by rw [padI, hX]; rfl
theorem zero67 (w : World) : (zeroValue 156).run Tryz.prog w = .ok (.agg (intC (padI [])).toArray) w := by kernel_rfl
set_option maxRecDepth 100000 in
set_option maxHeartbeats 1000000 in
theorem digits_any (s : (List UInt8)) (w : World) :
    Calls Tryz.prog 83 #[.string ⟨s.toArray⟩] w fun e w' => ∃ ao cp, e = .returned (.slice ao (digC s).length cp) ∧ Ints ao (digC s) w' ∧ Below w.heap.size w w' := by
  by_cases h32 : s.length = 32
  · have HE := Lib.hid (show digC s = digL s from if_pos h32)
    have HL := Lib.hid (digL_len h32)
    rw [HE.out, HL.out]
    have h32i : (s.length : Int) = 32 := by omega
    have HS := Lib.hid h32
    have HB0 := Lib.hid (by0 w (.cells (intC (padI [])).toArray 156))
    have HN0 := Lib.hid (show ArrD w.heap.size (padI []) (w.alloc (.cells (intC (padI [])).toArray 156)) from heap_alloc_new _ _)
    obtain ⟨B, hB⟩ : ∃ B, B = w.heap.size := ⟨_, rfl⟩
    rw [← hB] at HB0 HN0 ⊢
    have HBB := Lib.hid hB
    clear h32
    go_enter Tryz.func83, Tryz.ntmps83
    have hz0 := zero67 w
    go_wp2
    rw [← hB]
    clear hz0 hB
    generalize w.alloc (.cells (intC (padI [])).toArray 156) = w1 at *
    go_loopw [4, 10] (fun v4 v10 wr => ∃ k : Nat, k ≤ 32 ∧ v10 = .int .i64 (k : Int) ∧ Hid (ArrD B (padI (hvL (s.take k))) wr) ∧ Hid (Below B w wr)) (fun _ v10 _ => 32 - (intOf v10).toNat)
    case atStart => exact ⟨0, Nat.zero_le _, rfl, HN0, HB0⟩
    case round =>
      obtain ⟨k, hk, rfl, HI, HB⟩ := hrel
      by_cases hlt : k < 32
      · have k1 : (k : Int) < 32 := by omega
        have k0 : (0 : Int) ≤ (k : Int) := by omega
        have hks : k < s.length := by have := HS.out; omega
        have hXl : (hvL (s.take k)).length = 2 * k := by rw [hvL_len, List.length_take]; omega
        have hpa := padI_set (hvL (s.take k)) (s[k].toNat / 16) (s[k].toNat % 16) (by omega)
        rw [← hvL_take s k hks, hXl] at hpa
        have HP := Lib.hid hpa
        have hix := fun w => cindex s k hks w
        have hb := b256 s[k]
        have hA1 := HI.out.set (2 * k) (s[k].toNat / 16)
        have hA2 := hA1.set (2 * k + 1) (s[k].toNat % 16)
        rw [hpa] at hA2
        have HA2 := Lib.hid hA2
        have hlk : 2 * k + 1 < (padI (hvL (s.take k))).length := by rw [padI_len _ (by omega)]; omega
        obtain ⟨q1, hc1⟩ := HI.out.some (2 * k) (by omega)
        have hf1 := HI.out.free (2 * k)
        obtain ⟨q2, hc2⟩ := hA1.some (2 * k + 1) (by rw [List.length_set]; omega)
        have hf2 := hA1.free (2 * k + 1)
        have HBk := Lib.hid ((HB.out.setCell (p := ⟨B, 2 * k, none⟩) (Nat.le_refl _) (.int .i64 ((s[k].toNat / 16 : Nat) : Int))).setCell (p := ⟨B, 2 * k + 1, none⟩) (Nat.le_refl _) (.int .i64 ((s[k].toNat % 16 : Nat) : Int)))
        clear hpa hA1 hA2 hlk hXl

        generalize s[k].toNat = b at *
        have e1 : (b : Int) / 16 = ((b / 16 : Nat) : Int) := by omega
        have e2 : (b : Int) % 16 = ((b % 16 : Nat) : Int) := by omega
        have j1 : (2 : Int) * (k : Int) = ((2 * k : Nat) : Int) := by omega
        have jm : 2 * k < 66 := by omega
        generalize b / 16 = t at *
        generalize b % 16 = l at *
        generalize 2 * k = j at *
        go_wp2
        go_roundw
        case rel => exact ⟨k + 1, by omega, by go_num, HA2, HBk⟩
        case measure => simp [intOf]; omega
      · have k1 : ¬ (k : Int) < 32 := by omega
        have ek : s.take k = s := List.take_of_length_le (by have := HS.out; omega)
        rw [ek] at HI
        have hX : (hvL s).length = 64 := by rw [hvL_len]; have := HS.out; omega
        have hI := HI.out
        rw [padI_tail _ (lackL s) hX] at hI
        have HI := Lib.hid hI
        have hBlt := lit_lt hI
        have HLK := Lib.hid (lacking_any B 67 (hvL s) (hvL_le s) hX wr hBlt (fun i h => hI.cell i _ (by rw [List.getElem?_append_left h]; exact List.getElem?_eq_getElem h)))
        rw [lakN_hv] at HLK
        have hS : lackL s ≤ 960 := by have := lackL_le s; have := HS.out; omega
        have HSS := Lib.hid hS
        have HXL := Lib.hid hX
        have HBL := Lib.hid hBlt
        have HD := Lib.hid (show digL s = hvL s ++ tail3 (lackL s) 3 from rfl)
        clear hI hX hlt hk ek hS hBlt
        generalize lackL s = S at *
        generalize hvL s = X at *
        go_upto_region 11 with (go_at_call 115; refine HLK.out.mono ?_; rintro e w2 ⟨rfl, hb2⟩; have HI2 := Lib.hid (show ArrD B (X ++ tail3 S 0) w2 from (hb2.block B HBL.out).trans HI.out); have HB2 := Lib.hid (HB.out.trans (hb2.mono (Nat.le_of_lt HBL.out))); clear hb2)
        go_wp2
        go_loopw [5, 6] (fun v5 v6 wr => ∃ p r : Nat, 63 ≤ p ∧ p ≤ 66 ∧ v6 = .int .i64 (p : Int) ∧ v5 = .int .i64 (r : Int) ∧ Hid (r = S / 16 ^ (66 - p)) ∧ Hid (ArrD B (X ++ tail3 S (66 - p)) wr) ∧ Hid (Below B w wr)) (fun _ v6 _ => (intOf v6).toNat)
        case atStart => exact ⟨66, S, by decide, Nat.le_refl _, rfl, rfl, Lib.hid (by simp), HI2, HB2⟩
        case round =>
          obtain ⟨p, r, hp63, hp66, rfl, rfl, HR, HI3, HB3⟩ := hrel
          by_cases hlt : 64 ≤ p
          · have p0 : (64 : Int) ≤ (p : Int) := by omega
            have p1 : (p : Int) ≤ 66 := by omega
            have hq := tail3_set X S (66 - p) r HXL.out (by omega) HSS.out HR.out
            rw [show 66 - (66 - p) = p by omega] at hq
            have hA := HI3.out.set p (r % 16)
            rw [hq] at hA
            have HA := Lib.hid hA
            have hf := HI3.out.free p
            obtain ⟨q1, hc1⟩ := HI3.out.some p (by
              have h3 : ∀ m, (tail3 S m).length = 3 := fun m => by unfold tail3; split <;> rfl
              rw [List.length_append, h3, HXL.out]; omega)
            have hr : r ≤ 960 := by rw [HR.out]; exact Nat.le_trans (Nat.div_le_self _ _) HSS.out
            have HB4 := Lib.hid (HB3.out.setCell (p := ⟨B, p, none⟩) (Nat.le_refl _) (.int .i64 ((r % 16 : Nat) : Int)))
            have HR2 := Lib.hid (show r / 16 = S / 16 ^ (66 - p + 1) by rw [HR.out, Nat.div_div_eq_div_mul, ← Nat.pow_succ])
            have e1 : (r : Int) % 16 = ((r % 16 : Nat) : Int) := by omega
            have e2 : (r : Int) / 16 = ((r / 16 : Nat) : Int) := by omega
            have e3 : (p : Int) - 1 = ((p - 1 : Nat) : Int) := by omega
            have HPQ := Lib.hid (show 66 - p + 1 = 66 - (p - 1) ∧ 63 ≤ p - 1 ∧ p - 1 ≤ 66 ∧ p - 1 < p by omega)
            clear hq hA hp63 hp66
            generalize r % 16 = l at *
            generalize r / 16 = r2 at *
            generalize 66 - p + 1 = m1 at *
            generalize p - 1 = p2 at *
            go_wp2
            go_roundw
            case rel => exact ⟨p2, r2, HPQ.out.2.1, HPQ.out.2.2.1, rfl, rfl, Lib.hid (by rw [← HPQ.out.1]; exact HR2.out), Lib.hid (by rw [← HPQ.out.1]; exact HA.out), HB4⟩
            case measure => have := HPQ.out.2.2.2; simp [intOf]; omega
          · have p0 : ¬ (64 : Int) ≤ (p : Int) := by omega
            obtain rfl : p = 63 := by omega
            have hI := HI3.out
            rw [← HD.out] at hI
            have HI4 := Lib.hid hI
            have hblt := lit_lt hI
            clear hI hp63 hp66 hlt
            go_wp2
            refine bodyPost_ret (v := .slice (some ⟨B, 0, none⟩) 67 67) (by simp [results, Tryz.results83, go_sem]) rfl ?_
            exact ⟨some ⟨B, 0, none⟩, ⟨67, rfl⟩, .inr ⟨B, 0, rfl, hblt, fun i h => by rw [Nat.zero_add]; exact HI4.out.cell i _ (List.getElem?_eq_getElem h)⟩, HB3.out⟩
  · have HE := Lib.hid (show digC s = [] from if_neg h32)
    rw [HE.out]
    have h32i : ¬ (s.length : Int) = 32 := by omega
    clear h32
    go_enter Tryz.func83, Tryz.ntmps83
    go_wp2
    exact bodyPost_ret (v := .slice none 0 0) (by simp [results, Tryz.results83, go_sem]) rfl ⟨none, 0, rfl, .inl rfl, Below.refl _ _⟩
end Go.Proofs.YtmnklonoelpidaaGreatDoor
/- The steps of a chain, as an iterator that hands them over. -/
namespace Go.Proofs.YtmnklonoelpidaaGreatDoor
open Go.RowKit

/-- what the iterator's boxes hold -/
def StepsOk (bx bb ba bi : Nat) (i a b : Nat) (x : (List UInt8)) (W : World) : Prop :=
  (W.cell? ⟨bx, 0, none⟩ = some (.string ⟨x.toArray⟩) ∧ W.cell? ⟨bb, 0, none⟩ = some (.int .i64 (b : Int)) ∧ W.cell? ⟨ba, 0, none⟩ = some (.int .i64 (a : Int)) ∧ W.cell? ⟨bi, 0, none⟩ = some (.int .i64 (i : Int))) ∧ Glob W
theorem StepsOk.next {bx bb ba bi i a b : Nat} {x : (List UInt8)} {W W' : World} (h : StepsOk bx bb ba bi i a b x W) (hb : Below W.heap.size W W') : StepsOk bx bb ba bi i a b x W' := by
  obtain ⟨⟨h1, h2, h3, h4⟩, hg⟩ := h
  exact ⟨⟨(hb.cell (World.block_lt_of_cell? W _ h1)).trans h1, (hb.cell (World.block_lt_of_cell? W _ h2)).trans h2, (hb.cell (World.block_lt_of_cell? W _ h3)).trans h3, (hb.cell (World.block_lt_of_cell? W _ h4)).trans h4⟩, hg.below hg.size hb⟩
theorem kept_below {W W' : World} (h : Below W.heap.size W W') : Kept (fun _ => True) W W' := ⟨h.os, h.tape, h.output, h.size, fun j hj _ => h.block j hj⟩
set_option maxRecDepth 100000 in
set_option maxHeartbeats 2000000 in
theorem steps_hands (bx bb ba bi : Nat) (i a b : Nat) (x : (List UInt8)) (hi : i ≤ 66) (hab : a ≤ b) (hb : b ≤ 15) (hx : x.length ≤ 10000000) : HandsRead Tryz.prog 156 #[.pointer (some ⟨bx, 0, none⟩), .pointer (some ⟨ba, 0, none⟩), .pointer (some ⟨bb, 0, none⟩), .pointer (some ⟨bi, 0, none⟩)] (fun k => #[.string ⟨(walkF i a (k + 1) x).toArray⟩]) (b - a)
      (StepsOk bx bb ba bi i a b x) := by
  rintro l J W hok hY h0
  have HY := Lib.hid hY
  have HJ0 := Lib.hid h0
  have HOK := Lib.hid hok
  have HWL := Lib.hid (walkF_len i a x hx)
  obtain ⟨⟨c1, c2, c3, c4⟩, -⟩ := hok
  clear hY h0 hx
  refine (callsIn_wide (n := 1)).1 ?_
  refine callsIn_of_wp Tryz.func156 rfl trivial ?_ rfl
  simp only [Tryz.ntmps156, List.size_toArray, List.length_cons, List.length_nil, Nat.reduceAdd, Nat.reduceSub, Array.replicate_succ, Array.replicate_zero, List.push_toArray, List.append_toArray, List.nil_append, List.cons_append]
  gi_wp2
  clear c1 c2 c3 c4
  gi_loopw [6, 7] (fun v6 v7 wr => ∃ n : Nat, a + n ≤ b ∧ v7 = .int .i64 ((a + n : Nat) : Int) ∧ v6 = .string ⟨(walkF i a n x).toArray⟩ ∧ Hid (∃ W1, J n W1 ∧ Kept (fun _ => True) W1 wr) ∧ Hid (StepsOk bx bb ba bi i a b x wr)) (fun _ v7 _ => b - (intOf v7).toNat)
  case atStart => exact ⟨0, hab, rfl, rfl, Lib.hid ⟨W, HJ0.out, Kept.refl _ _⟩, HOK⟩
  case round =>
    obtain ⟨n, hn, rfl, rfl, HJ, HC⟩ := hrel
    obtain ⟨⟨c1, c2, c3, c4⟩, hg⟩ := HC.out
    by_cases hlt : a + n < b
    · have hl : ((a + n : Nat) : Int) < (b : Int) := by omega
      have HL := Lib.hid (HWL.out n)
      have HNX := Lib.hid (show walkF i a (n + 1) x = hashL chainT [[UInt8.ofNat i], [UInt8.ofNat (a + n)], walkF i a n x] from rfl)
      have HLT := Lib.hid (show n < b - a by omega)
      have HGG := Lib.hid hg
      generalize walkF i a n x = X at *
      generalize hK : a + n = K at *
      have HK := Lib.hid hK
      have HO1 := Lib.hid (fun w => oneByte_calls i (by omega) w)
      have HO2 := Lib.hid (fun w => oneByte_calls K (by omega) w)
      clear hK hg
      gi_wp2
      refine ⟨trivial, (callsIn_wide.2 (HO1.out wr)).mono ?_⟩
      rintro e w1 ⟨rfl, hb1⟩
      have HB1 := Lib.hid hb1
      clear hb1 c1 c2 c3 c4
      gi_wp2
      refine ⟨trivial, (callsIn_wide.2 (HO2.out w1)).mono ?_⟩
      rintro e w2 ⟨rfl, hb2⟩
      have HB2 := Lib.hid (below_next HB1.out hb2)
      clear hb2 HB1
      gi_wp2
      have HH := Lib.hid (hash3_any chainT [UInt8.ofNat i] [UInt8.ofNat K] X w2 (HGG.out.below HGG.out.size HB2.out) (by decide) (by simp) (by simp) HL.out)
      rw [← HNX.out] at HH
      refine ⟨trivial, (callsIn_wide.2 HH.out).mono ?_⟩
      rintro e w3 ⟨rfl, hb3⟩
      have HB3 := Lib.hid (below_next HB2.out hb3)
      clear hb3 HB2
      obtain ⟨W1, hj1, hk1⟩ := HJ.out
      have HY2 := HY.out n W1 w3 HLT.out hj1 (hk1.trans (kept_below HB3.out))
      clear hj1 hk1
      obtain ⟨fn, tmps, assign, body, hy, hR⟩ := HY2
      gi_wp2
      refine hR.mono ?_
      rintro e w4 ⟨rfl, hj2, hok2⟩
      have HJ2 := Lib.hid hj2
      have HO2 := Lib.hid hok2
      clear hR hy hj2 hok2
      gi_wp2
      go_roundw
      case rel => exact ⟨n + 1, by have := HK.out; omega, by have := HK.out; rw [← this]; go_num, rfl, Lib.hid ⟨w4, HJ2.out, Kept.refl _ _⟩, HO2⟩
      case measure => have := HK.out; simp [intOf]; omega
    · have hl : ¬ ((a + n : Nat) : Int) < (b : Int) := by omega
      have HJN := Lib.hid (show ∃ W1, J (b - a) W1 ∧ Kept (fun _ => True) W1 wr by rw [show b - a = n by omega]; exact HJ.out)
      clear hg
      gi_wp2
      go_end0
      exact ⟨⟨_, rfl⟩, HJN.out⟩
end Go.Proofs.YtmnklonoelpidaaGreatDoor
/- The program's Walk; all that is asked of its Digits and Walk. -/
namespace Go.Proofs.YtmnklonoelpidaaGreatDoor
open Go.RowKit
attribute [local go_sem] Oper.semAt_some

set_option maxRecDepth 100000 in
theorem steps_calls (i a b : Nat) (x : (List UInt8)) (w : World) : Calls Tryz.prog 129 #[.int .i64 (i : Int), .int .i64 (a : Int), .int .i64 (b : Int), .string ⟨x.toArray⟩] w fun e w' =>
    e = .returned (.func (.func 156) #[] #[.pointer (some ⟨w.heap.size + 1 + 1 + 1, 0, none⟩), .pointer (some ⟨w.heap.size + 1, 0, none⟩), .pointer (some ⟨w.heap.size + 1 + 1, 0, none⟩), .pointer (some ⟨w.heap.size, 0, none⟩)]) ∧
    w' = (((w.alloc (.cells #[.int .i64 (i : Int)] 3)).alloc (.cells #[.int .i64 (a : Int)] 3)).alloc (.cells #[.int .i64 (b : Int)] 3)).alloc (.cells #[.string ⟨x.toArray⟩] 9) := by
  go_enter Tryz.func129, Tryz.ntmps129
  go_wp2
  go_ret
  exact ⟨rfl, rfl⟩
theorem steps_any (i a b : Nat) (x : (List UInt8)) (w : World) (z : Nat) (hz : w.heap.size = z) (hg : Glob w) : Calls Tryz.prog 129 #[.int .i64 (i : Int), .int .i64 (a : Int), .int .i64 (b : Int), .string ⟨x.toArray⟩] w fun e w' =>
    e = .returned (.func (.func 156) #[] #[.pointer (some ⟨z + 3, 0, none⟩), .pointer (some ⟨z + 1, 0, none⟩), .pointer (some ⟨z + 2, 0, none⟩), .pointer (some ⟨z, 0, none⟩)]) ∧ w'.heap.size = z + 4 ∧ StepsOk (z + 3) (z + 2) (z + 1) z i a b x w' ∧ Below z w w' := by
  subst hz
  refine (steps_calls i a b x w).mono ?_
  rintro e w' ⟨h1, rfl⟩
  have hb : Below w.heap.size w ((((w.alloc (.cells #[.int .i64 (i : Int)] 3)).alloc (.cells #[.int .i64 (a : Int)] 3)).alloc (.cells #[.int .i64 (b : Int)] 3)).alloc (.cells #[.string ⟨x.toArray⟩] 9)) := (((by0 w _).alloc (by simp) _).alloc (by simp; omega) _).alloc (by simp; omega) _
  have n1 := heap_alloc_new w (.cells #[.int .i64 (i : Int)] 3)
  have n2 := heap_alloc_new (w.alloc (.cells #[.int .i64 (i : Int)] 3)) (.cells #[.int .i64 (a : Int)] 3)
  have n3 := heap_alloc_new ((w.alloc (.cells #[.int .i64 (i : Int)] 3)).alloc (.cells #[.int .i64 (a : Int)] 3)) (.cells #[.int .i64 (b : Int)] 3)
  have n4 := heap_alloc_new (((w.alloc (.cells #[.int .i64 (i : Int)] 3)).alloc (.cells #[.int .i64 (a : Int)] 3)).alloc (.cells #[.int .i64 (b : Int)] 3)) (.cells #[.string ⟨x.toArray⟩] 9)
  have n1' := lit_old (.cells #[.string ⟨x.toArray⟩] 9) (lit_old (.cells #[.int .i64 (b : Int)] 3) (lit_old (.cells #[.int .i64 (a : Int)] 3) n1))
  have n2' := lit_old (.cells #[.string ⟨x.toArray⟩] 9) (lit_old (.cells #[.int .i64 (b : Int)] 3) n2)
  have n3' := lit_old (.cells #[.string ⟨x.toArray⟩] 9) n3
  simp only [World.size_alloc] at n2' n3' n4
  exact ⟨h1, by simp, ⟨⟨lit_cell n4 0, lit_cell n3' 0, lit_cell n2' 0, lit_cell n1' 0⟩, hg.below hg.size hb⟩, hb⟩
set_option maxRecDepth 100000 in
set_option maxHeartbeats 2000000 in
theorem walk_any (i a b : Int) (x : (List UInt8)) (w : World) (hg : Glob w) (hx : x.length ≤ 10000000) :
    Calls Tryz.prog 94 #[.int .i64 i, .int .i64 a, .int .i64 b, .string ⟨x.toArray⟩] w fun e w' => e = .returned (.string ⟨(walkV i a b x).toArray⟩) ∧ Below w.heap.size w w' := by
  by_cases hin : 0 ≤ i ∧ i ≤ 66 ∧ 0 ≤ a ∧ a ≤ b ∧ b ≤ 15
  · obtain ⟨h1, h2, h3, h4, h5⟩ := hin
    obtain ⟨i, rfl⟩ := Int.eq_ofNat_of_zero_le h1
    obtain ⟨a, rfl⟩ := Int.eq_ofNat_of_zero_le h3
    obtain ⟨b, rfl⟩ := Int.eq_ofNat_of_zero_le (Int.le_trans h3 h4)
    have hab : a ≤ b := by omega
    have hb15 : b ≤ 15 := by omega
    have hi66 : i ≤ 66 := by omega
    have HE := Lib.hid (walkV_nat i a b x hi66 hab hb15)
    rw [HE.out]
    have HIC := Lib.hid (fun w => isChain_yes i hi66 w)
    have HIW := Lib.hid (fun w => isWalk_yes a b hab hb15 w)
    have HSH := Lib.hid (fun bx bb ba bi => steps_hands bx bb ba bi i a b x hi66 hab hb15 hx)
    obtain ⟨z, hz⟩ : ∃ z, w.heap.size = z := ⟨_, rfl⟩
    have HZ := Lib.hid hz
    have HN1 := Lib.hid (heap_alloc_new w (.cells #[.string ⟨x.toArray⟩] 9))
    have HST := Lib.hid (steps_any i a b x (w.alloc (.cells #[.string ⟨x.toArray⟩] 9)) (z + 1) (by rw [World.size_alloc, hz]) (hg.below hg.size (by0 w _)))
    have HB1 := Lib.hid (by0 w (.cells #[.string ⟨x.toArray⟩] 9))
    have HGS := Lib.hid hg.size
    rw [hz] at HN1 HB1 HGS ⊢
    clear h1 h2 h3 h4 h5 hx hg hab hb15 hi66 HE
    refine calls_of_wp_marks Tryz.func94 rfl ?_
    simp only [Tryz.ntmps94, List.size_toArray, List.length_cons, List.length_nil, Nat.reduceAdd, Nat.reduceSub, Array.replicate_succ, Array.replicate_zero, List.push_toArray, List.append_toArray, List.nil_append, List.cons_append]
    go_wp2_with (first | (go_at_call 127; refine (HIC.out _).mono ?_; rintro e w1 ⟨rfl, hw1⟩; have hw1 := hw1.symm; subst hw1) | (go_at_call 128; refine (HIW.out _).mono ?_; rintro e w1 ⟨rfl, hw1⟩; have hw1 := hw1.symm; subst hw1))
    refine HST.out.mono ?_
    rintro e w3 ⟨rfl, hz3, hok3, hb3⟩
    have hn3 := (hb3.block z (Nat.lt_succ_self z)).trans HN1.out
    have HB3 := Lib.hid (HB1.out.trans (hb3.mono (Nat.le_succ z)))
    have HN3 := Lib.hid hn3
    have HZ3 := Lib.hid (show w3.heap.size = z + 5 by rw [hz3])
    have HOK3 := Lib.hid hok3
    clear hb3 hn3 hz3 hok3 HST HN1 HB1 hz
    go_wp2
    refine wp_rangeFunc_read (gf := 156) (lb := #[.pointer (some ⟨z + 1 + 3, 0, none⟩), .pointer (some ⟨z + 1 + 1, 0, none⟩), .pointer (some ⟨z + 1 + 2, 0, none⟩), .pointer (some ⟨z + 1, 0, none⟩)]) rfl (enters_of Tryz.func156 (by kernel_rfl) rfl)
      (HSH.out (z + 1 + 3) (z + 1 + 2) (z + 1 + 1) (z + 1)) (fun _ => rfl) (z + 5) HZ3.out [z] ?ok
      (fun k W => W.heap[z]? = some (.cells #[.string ⟨(walkF i a k x).toArray⟩] 9 (0, 0)) ∧ Kept (fun j => j < z + 5 ∧ j ∉ [z]) w3 W ∧ z + 5 ≤ W.heap.size) ?keep ?start
      (fun k => { tmps := #[.int .i64 (i : Int), .int .i64 (a : Int), .int .i64 (b : Int), .string ⟨x.toArray⟩, undef, undef, undef, undef, .string ⟨#[]⟩, .pointer (some ⟨z, 0, none⟩), .string ⟨(walkF i a (k + 1) x).toArray⟩, .int .i64 (i : Int), .bool true, .bool false, .bool false, .int .i64 (a : Int), .int .i64 (b : Int), .bool true, .bool false, .bool false, .string ⟨x.toArray⟩, .int .i64 (i : Int), .int .i64 (a : Int), .int .i64 (b : Int), .string ⟨x.toArray⟩, .func (.func 156) #[] #[.pointer (some ⟨z + 1 + 3, 0, none⟩), .pointer (some ⟨z + 1 + 1, 0, none⟩), .pointer (some ⟨z + 1 + 2, 0, none⟩), .pointer (some ⟨z + 1, 0, none⟩)], .string ⟨(walkF i a (k + 1) x).toArray⟩, undef, undef], defers := [] }) ?assign ?body ?done
    case ok =>
      intro W' hW'
      obtain ⟨⟨h1, h2, h3, h4⟩, hg⟩ := HOK3.out
      have hz5 := HZ3.out
      have hzz := HGS.out
      exact ⟨⟨(World.cell?_of_block (a := ⟨z + 1 + 3, 0, none⟩) (hW'.block (z + 1 + 3) (by omega) ⟨by omega, by simp; omega⟩)).trans h1, (World.cell?_of_block (a := ⟨z + 1 + 2, 0, none⟩) (hW'.block (z + 1 + 2) (by omega) ⟨by omega, by simp; omega⟩)).trans h2, (World.cell?_of_block (a := ⟨z + 1 + 1, 0, none⟩) (hW'.block (z + 1 + 1) (by omega) ⟨by omega, by simp; omega⟩)).trans h3, (World.cell?_of_block (a := ⟨z + 1, 0, none⟩) (hW'.block (z + 1) (by omega) ⟨by omega, by simp⟩)).trans h4⟩,
        hg.below (B := z) hzz ⟨hW'.os, hW'.tape, hW'.output, hW'.size, fun j hj => hW'.block j (by omega) ⟨by omega, by simp; omega⟩⟩⟩
    case keep =>
      rintro k W W' ⟨h, h2, hz⟩ hk
      exact ⟨(hk.block z (by omega) (.inl (by omega))).trans h, h2.trans (hk.less fun j _ hj => .inl hj.1), by have := hk.size; omega⟩
    case start => exact ⟨HN3.out, Kept.refl _ _, by rw [HZ3.out]; omega⟩
    case assign =>
      intro l k W K hK
      generalize walkF i a (k + 1) x = X at *
      gi_wp2
      exact hK
    case body =>
      rintro l' k W hkm hWz ⟨hcell, hkp3, hz⟩
      have hc0 : W.cell? ⟨z, 0, none⟩ = some (.string ⟨(walkF i a k x).toArray⟩) := by rw [lit_cell hcell]; rfl
      have hf0 := lit_free hcell 0
      have HFIN := Lib.hid (show Kept (fun j => (j < z + 5 ∧ j ∉ [z]) ∨ (z + 5 ≤ j ∧ j < z + 5 + 2)) W (W.setCell ⟨z, 0, none⟩ (.string ⟨(walkF i a (k + 1) x).toArray⟩)) from (Kept.refl _ W).setCell z 0 _ (fun _ => by simp; omega))
      have HSET := Lib.hid (lit_set (k := 0) (.string ⟨(walkF i a (k + 1) x).toArray⟩) hcell)
      have HKP := Lib.hid hkp3
      clear hcell hkp3
      generalize walkF i a (k + 1) x = X at *
      generalize walkF i a k x = Y at *
      gi_wp2
      refine ⟨HFIN.out, HSET.out, HKP.out.trans (HFIN.out.less fun j _ hj => .inl hj), by have := HFIN.out.size; omega⟩
    case done =>
      rintro W ⟨hcell, hkp3, hz⟩ hkept hdef
      have hc0 : W.cell? ⟨z, 0, none⟩ = some (.string ⟨(walkF i a (b - a) x).toArray⟩) := by rw [lit_cell hcell]; rfl
      have HKP := Lib.hid hkp3
      clear hcell hkept hkp3
      go_wp2
      refine ⟨by simp, .inl ⟨_, _, rfl, run_takeDeferred hdef, ?_⟩⟩
      have kp : Kept (fun j => j ≠ z + 5) W (W.putObj (z + 5) (.deferred none)) := Kept.putObj _ _ _ _ (by simp)
      have hbw := (HKP.out.trans (kp.less (T := fun j => j < z + 5 ∧ j ∉ [z]) fun j _ h => by omega)).below (B := z) (by rw [HZ3.out]; omega) (fun j h => ⟨by omega, by simp; omega⟩)
      exact ⟨_, results_tmp rfl _ _ _, rfl, HB3.out.trans hbw⟩
  · have HE := Lib.hid (show walkV i a b x = [] from if_neg hin)
    rw [HE.out]
    by_cases h1 : 0 ≤ i ∧ i ≤ 66
    · obtain ⟨i, rfl⟩ := Int.eq_ofNat_of_zero_le h1.1
      have HIC := Lib.hid (fun w => isChain_yes i (by omega) w)
      have HIW := Lib.hid (fun w => isWalk_no a b (by omega) w)
      clear h1 hin hg hx HE
      go_enter Tryz.func94, Tryz.ntmps94
      go_wp2_with (first | (go_at_call 127; refine (HIC.out _).mono ?_; rintro e w1 ⟨rfl, hw1⟩; have hw1 := hw1.symm; subst hw1) | (go_at_call 128; refine (HIW.out _).mono ?_; rintro e w1 ⟨rfl, hw1⟩; have hw1 := hw1.symm; subst hw1))
      go_wp2
      exact bodyPost_ret (v := .string ⟨#[]⟩) (by simp [results, Tryz.results94, go_sem]) rfl ⟨rfl, Below.refl _ _⟩
    · have HIC := Lib.hid (fun w => isChain_no i h1 w)
      clear h1 hin hg hx HE
      go_enter Tryz.func94, Tryz.ntmps94
      go_wp2_with (go_at_call 127; refine (HIC.out _).mono ?_; rintro e w1 ⟨rfl, hw1⟩; have hw1 := hw1.symm; subst hw1)
      go_wp2
      exact bodyPost_ret (v := .string ⟨#[]⟩) (by simp [results, Tryz.results94, go_sem]) rfl ⟨rfl, Below.refl _ _⟩
theorem chainC : ChainC := ⟨fun s w _ _ => digits_any s w, fun i a b x w hg hx => walk_any i a b x w hg hx⟩
end Go.Proofs.YtmnklonoelpidaaGreatDoor
