/- The program's ladder: what is asked alone; its rounds. -/
import Derived.Test.YtmnklonoelpidaaGreatDoorJ35
import Derived.Test.YtmnklonoelpidaaGreatDoorJ20
import Derived.Laws.Externs
import Derived.Test.YtmnklonoelpidaaGreatDoorJ26
import Derived.Test.YtmnklonoelpidaaGreatDoorJ8
namespace Go.Proofs.YtmnklonoelpidaaGreatDoor
open Go.RowKit

/-- an error, unless it holds -/
def unlE (t : Bool) (e : Nat) : Nat := if t then 0 else e
theorem unless_any (t : Bool) (e : Nat) (w : World) : Calls Tryz.prog 32 #[.bool t, .int .i64 (e : Int)] w fun x w' => x = .returned (.int .i64 (unlE t e : Nat)) ∧ w = w' := by
  cases t
  · go_enter Tryz.func32, Tryz.ntmps32
    go_wp2
    go_ret
    exact ⟨rfl, rfl⟩
  · go_enter Tryz.func32, Tryz.ntmps32
    go_wp2
    go_ret
    exact ⟨rfl, rfl⟩
def digB (x : (List UInt8)) : Bool := decide (x.length = 32)
theorem isdig_any (x : (List UInt8)) (w : World) : Calls Tryz.prog 33 #[.string ⟨x.toArray⟩] w fun e w' => e = .returned (.bool (digB x)) ∧ w = w' := by
  have HE := Lib.hid (show digB x = ((x.length : Int) == 32) by
    unfold digB
    by_cases h : x.length = 32
    · simp [h]
    · have : (x.length : Int) ≠ 32 := by omega
      simp [h, this])
  go_enter Tryz.func33, Tryz.ntmps33
  go_wp2
  go_ret
  exact ⟨by rw [HE.out]; rfl, rfl⟩
def mayB (l n : Nat) : Bool := decide (0 < l ∧ 0 < n ∧ n ≤ 64)
theorem may14_any (f l n : Nat) (w : World) : Calls Tryz.prog 34 #[.agg #[.int .u64 (f : Int), .int .u64 (l : Int), .int .u64 (n : Int)]] w fun e w' => e = .returned (.bool (mayB l n)) ∧ Below w.heap.size w w' := by
  have HB := Lib.hid (by0 w (.cells #[.int .u64 (f : Int), .int .u64 (l : Int), .int .u64 (n : Int)] 66))
  have hx := heap_alloc_new w (.cells #[.int .u64 (f : Int), .int .u64 (l : Int), .int .u64 (n : Int)] 66)
  have c1 : (w.alloc (.cells #[.int .u64 (f : Int), .int .u64 (l : Int), .int .u64 (n : Int)] 66)).cell? ⟨w.heap.size, 1, none⟩ = some (.int .u64 (l : Int)) := (lit_cell hx 1).trans rfl
  have c2 : (w.alloc (.cells #[.int .u64 (f : Int), .int .u64 (l : Int), .int .u64 (n : Int)] 66)).cell? ⟨w.heap.size, 2, none⟩ = some (.int .u64 (n : Int)) := (lit_cell hx 2).trans rfl
  clear hx
  by_cases h1 : 0 < l
  · have g1 : (0 : Int) < (l : Int) := by omega
    by_cases h2 : 0 < n
    · have g2 : (0 : Int) < (n : Int) := by omega
      by_cases h3 : n ≤ 64
      · have g3 : (n : Int) ≤ 64 := by omega
        have HE := Lib.hid (show mayB l n = true from decide_eq_true ⟨h1, h2, h3⟩)
        rw [HE.out]
        clear HE h1 h2 h3
        go_enter Tryz.func34, Tryz.ntmps34
        go_wp2
        go_ret
        exact ⟨rfl, HB.out⟩
      · have g3 : ¬ (n : Int) ≤ 64 := by omega
        have HE := Lib.hid (show mayB l n = false from decide_eq_false (by omega))
        rw [HE.out]
        clear HE h1 h2 h3
        go_enter Tryz.func34, Tryz.ntmps34
        go_wp2
        go_ret
        exact ⟨rfl, HB.out⟩
    · have g2 : ¬ (0 : Int) < (n : Int) := by omega
      have HE := Lib.hid (show mayB l n = false from decide_eq_false (by omega))
      rw [HE.out]
      clear HE h1 h2
      go_enter Tryz.func34, Tryz.ntmps34
      go_wp2
      go_ret
      exact ⟨rfl, HB.out⟩
  · have g1 : ¬ (0 : Int) < (l : Int) := by omega
    have HE := Lib.hid (show mayB l n = false from decide_eq_false (by omega))
    rw [HE.out]
    clear HE h1
    go_enter Tryz.func34, Tryz.ntmps34
    go_wp2
    go_ret
    exact ⟨rfl, HB.out⟩
theorem add64i (x y c : Int) (hx : 0 ≤ x) (hy : 0 ≤ y) (hc0 : 0 ≤ c) (hc : c ≤ 1) (w : World) : (callFunc 71 #[.int .u64 x, .int .u64 y, .int .u64 c]).run Tryz.prog w =
    .ok (.value (.tuple #[.int .u64 ((x + y + c) % 18446744073709551616), .int .u64 ((x + y + c) / 18446744073709551616)])) w := by
  obtain ⟨x, rfl⟩ := Int.eq_ofNat_of_zero_le hx
  obtain ⟨y, rfl⟩ := Int.eq_ofNat_of_zero_le hy
  obtain ⟨c, rfl⟩ := Int.eq_ofNat_of_zero_le hc0
  rw [run_callFunc_extern Tryz.func71 (by kernel_rfl) (by kernel_rfl) (by kernel_rfl) (e := add64Entry) (by kernel_rfl), run_add64 x y c (by omega) (by omega) (by omega) (by omega)]
  rfl
theorem add64n (x y : Nat) (w : World) : (callFunc 71 #[.int .u64 (x : Int), .int .u64 (y : Int), .int .u64 0]).run Tryz.prog w =
    .ok (.value (.tuple #[.int .u64 (((x + y) % 18446744073709551616 : Nat) : Int), .int .u64 (((x + y) / 18446744073709551616 : Nat) : Int)])) w := by
  have h := add64i x y 0 (by omega) (by omega) (by omega) (by omega) w
  rw [show ((x : Int) + (y : Int) + 0) % 18446744073709551616 = (((x + y) % 18446744073709551616 : Nat) : Int) by omega, show ((x : Int) + (y : Int) + 0) / 18446744073709551616 = (((x + y) / 18446744073709551616 : Nat) : Int) by omega] at h
  exact h
def overB (f l n : Nat) : Bool := decide (18446744073709551615 < f + l * n)
theorem over_parts (f p H L s c : Nat) (hH : H = p / 18446744073709551616) (hL : L = p % 18446744073709551616) (hs : s = (f + L) % 18446744073709551616) (hc : c = (f + L) / 18446744073709551616) : (18446744073709551615 < f + p) ↔ (0 < H ∨ 0 < c) := by omega
set_option maxRecDepth 100000 in
theorem over14_any (f l n : Nat) (w : World) (hl : l < 18446744073709551616) (hn : n < 18446744073709551616) : Calls Tryz.prog 36 #[.agg #[.int .u64 (f : Int), .int .u64 (l : Int), .int .u64 (n : Int)]] w fun e w' => e = .returned (.bool (overB f l n)) ∧ Below w.heap.size w w' := by
  have HB := Lib.hid (by0 w (.cells #[.int .u64 (f : Int), .int .u64 (l : Int), .int .u64 (n : Int)] 66))
  have hx := heap_alloc_new w (.cells #[.int .u64 (f : Int), .int .u64 (l : Int), .int .u64 (n : Int)] 66)
  have c0 : (w.alloc (.cells #[.int .u64 (f : Int), .int .u64 (l : Int), .int .u64 (n : Int)] 66)).cell? ⟨w.heap.size, 0, none⟩ = some (.int .u64 (f : Int)) := (lit_cell hx 0).trans rfl
  have c1 : (w.alloc (.cells #[.int .u64 (f : Int), .int .u64 (l : Int), .int .u64 (n : Int)] 66)).cell? ⟨w.heap.size, 1, none⟩ = some (.int .u64 (l : Int)) := (lit_cell hx 1).trans rfl
  have c2 : (w.alloc (.cells #[.int .u64 (f : Int), .int .u64 (l : Int), .int .u64 (n : Int)] 66)).cell? ⟨w.heap.size, 2, none⟩ = some (.int .u64 (n : Int)) := (lit_cell hx 2).trans rfl
  clear hx
  have HM := Lib.hid (fun wz => Tryz.bits_Mul64 l n hl hn wz)
  obtain ⟨H, hH⟩ : ∃ H, H = l * n / 18446744073709551616 := ⟨_, rfl⟩
  obtain ⟨L, hL⟩ : ∃ L, L = l * n % 18446744073709551616 := ⟨_, rfl⟩
  rw [← hH, ← hL] at HM
  have hA := fun wz => add64n f L wz
  obtain ⟨s, hs⟩ : ∃ s, s = (f + L) % 18446744073709551616 := ⟨_, rfl⟩
  obtain ⟨c, hc⟩ : ∃ c, c = (f + L) / 18446744073709551616 := ⟨_, rfl⟩
  rw [← hs, ← hc] at hA
  have hE := over_parts f (l * n) H L s c hH hL hs hc
  by_cases h1 : 0 < H
  · have g1 : (0 : Int) < (H : Int) := by omega
    have HE := Lib.hid (show overB f l n = true from decide_eq_true (hE.2 (.inl h1)))
    rw [HE.out]
    clear HE hE h1 hH hL hs hc hl hn
    go_enter Tryz.func36, Tryz.ntmps36
    go_wp2_with (go_at_call 70; with_reducible refine (HM.out _).mono ?_; rintro e w1 ⟨rfl, hw1⟩; subst hw1)
    go_ret
    exact ⟨rfl, HB.out⟩
  · have g1 : ¬ (0 : Int) < (H : Int) := by omega
    by_cases h2 : 0 < c
    · have g2 : (0 : Int) < (c : Int) := by omega
      have g3 : decide (0 < c) = true := decide_eq_true h2
      have HE := Lib.hid (show overB f l n = true from decide_eq_true (hE.2 (.inr h2)))
      rw [HE.out]
      clear HE hE h1 h2 hH hL hs hc hl hn
      go_enter Tryz.func36, Tryz.ntmps36
      go_wp2_with (go_at_call 70; with_reducible refine (HM.out _).mono ?_; rintro e w1 ⟨rfl, hw1⟩; subst hw1)
      go_ret
      exact ⟨rfl, HB.out⟩
    · have g2 : ¬ (0 : Int) < (c : Int) := by omega
      have g3 : decide (0 < c) = false := decide_eq_false h2
      have HE := Lib.hid (show overB f l n = false from decide_eq_false (fun h => (hE.1 h).elim h1 h2))
      rw [HE.out]
      clear HE hE h1 h2 hH hL hs hc hl hn
      go_enter Tryz.func36, Tryz.ntmps36
      go_wp2_with (go_at_call 70; with_reducible refine (HM.out _).mono ?_; rintro e w1 ⟨rfl, hw1⟩; subst hw1)
      go_ret
      exact ⟨rfl, HB.out⟩
theorem pkey_any (f l n r : Nat) (w : World) (hl : 0 < l) (hr : r < 18446744073709551616) : Calls Tryz.prog 46 #[.agg #[.int .u64 (f : Int), .int .u64 (l : Int), .int .u64 (n : Int)], .int .u64 (r : Int)] w fun e w' => e = .returned (.tuple #[.int .u64 ((keyF f l n r).1 : Nat), .bool (keyF f l n r).2]) ∧ Below w.heap.size w w' := by
  have HB := Lib.hid (by0 w (.cells #[.int .u64 (f : Int), .int .u64 (l : Int), .int .u64 (n : Int)] 66))
  have hx := heap_alloc_new w (.cells #[.int .u64 (f : Int), .int .u64 (l : Int), .int .u64 (n : Int)] 66)
  have c0 : (w.alloc (.cells #[.int .u64 (f : Int), .int .u64 (l : Int), .int .u64 (n : Int)] 66)).cell? ⟨w.heap.size, 0, none⟩ = some (.int .u64 (f : Int)) := (lit_cell hx 0).trans rfl
  have c1 : (w.alloc (.cells #[.int .u64 (f : Int), .int .u64 (l : Int), .int .u64 (n : Int)] 66)).cell? ⟨w.heap.size, 1, none⟩ = some (.int .u64 (l : Int)) := (lit_cell hx 1).trans rfl
  have c2 : (w.alloc (.cells #[.int .u64 (f : Int), .int .u64 (l : Int), .int .u64 (n : Int)] 66)).cell? ⟨w.heap.size, 2, none⟩ = some (.int .u64 (n : Int)) := (lit_cell hx 2).trans rfl
  clear hx
  by_cases h1 : r < f
  · rw [keyF_no (.inl h1)]
    have h2 : (r : Int) < (f : Int) := by omega
    clear h1 hl hr
    go_enter Tryz.func46, Tryz.ntmps46
    go_wp2
    exact bodyPost_ret (v := .tuple #[.int .u64 0, .bool false]) (by simp [results, Tryz.results46, go_sem]) rfl ⟨rfl, HB.out⟩
  · have h2 : ¬ (r : Int) < (f : Int) := by omega
    have hl0 : ¬ (l : Int) = 0 := by omega
    obtain ⟨m, hm⟩ : ∃ m, m = r - f := ⟨_, rfl⟩
    have hs1 : (r : Int) - (f : Int) = (m : Int) := by omega
    have hs : IntKind.u64.wrap ((r : Int) - (f : Int)) = (m : Int) := by rw [hs1, IntKind.wrap_u64]; omega
    obtain ⟨q, hq⟩ : ∃ q, q = m / l := ⟨_, rfl⟩
    have hqm : q ≤ m := by rw [hq]; exact Nat.div_le_self _ _
    have hq1 : (m : Int).tdiv (l : Int) = (q : Int) := by rw [Int.tdiv_eq_ediv_of_nonneg (by omega), hq]; simp
    have hq2 : IntKind.u64.wrap ((m : Int).tdiv (l : Int)) = (q : Int) := by rw [hq1, IntKind.wrap_u64]; omega
    have hq3 : (m : Int) / (l : Int) = (q : Int) := by rw [hq]; simp
    have hwq : IntKind.u64.wrap (q : Int) = (q : Int) := by rw [IntKind.wrap_u64]; omega
    have hwm : IntKind.u64.wrap (m : Int) = (m : Int) := by rw [IntKind.wrap_u64]; omega
    by_cases h3 : n ≤ q
    · rw [keyF_no (.inr (by rw [← hm, ← hq]; exact h3))]
      have h4 : (n : Int) ≤ (q : Int) := by omega
      clear h1 hl hm hq h3 hqm hr
      go_enter Tryz.func46, Tryz.ntmps46
      go_wp2
      exact bodyPost_ret (v := .tuple #[.int .u64 0, .bool false]) (by simp [results, Tryz.results46, go_sem]) rfl ⟨rfl, HB.out⟩
    · rw [keyF_yes (by omega) (by rw [← hm, ← hq]; omega), ← hm, ← hq]
      have h4 : ¬ (n : Int) ≤ (q : Int) := by omega
      clear h1 hl hm hq h3 hqm hr
      go_enter Tryz.func46, Tryz.ntmps46
      go_wp2
      exact bodyPost_ret (v := .tuple #[.int .u64 (q : Int), .bool true]) (by simp [results, Tryz.results46, go_sem]) rfl ⟨rfl, HB.out⟩
theorem pkeyErr_any (f l n r : Nat) (w : World) (hl : 0 < l) (hr : r < 18446744073709551616) : Calls Tryz.prog 50 #[.agg #[.int .u64 (f : Int), .int .u64 (l : Int), .int .u64 (n : Int)], .int .u64 (r : Int)] w fun e w' => e = .returned (.tuple #[.int .u64 ((keyF f l n r).1 : Nat), .int .i64 (unlE (keyF f l n r).2 16 : Nat)]) ∧ Below w.heap.size w w' := by
  obtain ⟨w1, hw1⟩ : ∃ w1, w1 = w.alloc (.cells #[.int .u64 (f : Int), .int .u64 (l : Int), .int .u64 (n : Int)] 66) := ⟨_, rfl⟩
  have HB := Lib.hid (show Below w.heap.size w w1 by rw [hw1]; exact by0 w _)
  have hx := heap_alloc_new w (.cells #[.int .u64 (f : Int), .int .u64 (l : Int), .int .u64 (n : Int)] 66)
  rw [← hw1] at hx
  have c0 : w1.cell? ⟨w.heap.size, 0, none⟩ = some (.int .u64 (f : Int)) := (lit_cell hx 0).trans rfl
  have c1 : w1.cell? ⟨w.heap.size, 1, none⟩ = some (.int .u64 (l : Int)) := (lit_cell hx 1).trans rfl
  have c2 : w1.cell? ⟨w.heap.size, 2, none⟩ = some (.int .u64 (n : Int)) := (lit_cell hx 2).trans rfl
  have HK := Lib.hid (pkey_any f l n r w1 hl hr)
  generalize (keyF f l n r).1 = k at *
  generalize (keyF f l n r).2 = t at *
  have HU := Lib.hid (fun wz => show Calls Tryz.prog 32 #[.bool t, .int .i64 16] wz fun x w' => x = .returned (.int .i64 (unlE t 16 : Nat)) ∧ wz = w' from unless_any t 16 wz)
  clear hx hl hr
  go_enter Tryz.func50, Tryz.ntmps50
  go_upto_region 1 with fail
  rw [← hw1]
  clear hw1
  go_wp2_with (first
    | (go_at_call 46; with_reducible refine HK.out.mono ?_; rintro e w2 ⟨rfl, hb2⟩; have HB2 := Lib.hid (below_next HB.out hb2); clear hb2)
    | (go_at_call 32; with_reducible refine (HU.out _).mono ?_; rintro e w3 ⟨rfl, rfl⟩))
  exact bodyPost_ret (v := .tuple #[.int .u64 (k : Int), .int .i64 (unlE t 16 : Nat)]) (by simp [results, Tryz.results50, go_sem]) rfl ⟨rfl, HB2.out⟩
end Go.Proofs.YtmnklonoelpidaaGreatDoor
/- The program's ladder: one question behind the other; its rungs. -/
namespace Go.Proofs.YtmnklonoelpidaaGreatDoor
open Go.RowKit

def Ent14 (F : FuncId) : Prop := ∀ (args : Array Value) (w : World), (callFunc F args).run Tryz.prog w = .ok (.enter F args) w
/-- what an answer says: no error, and what is so then; or an error, and what is so then -/
def Said14 (K : World → Prop) (Q : Nat → World → Prop) (e : Ending) (w' : World) : Prop := (e = .returned (.int .i64 0) ∧ K w') ∨ ∃ x : Nat, x ≠ 0 ∧ e = .returned (.int .i64 (x : Int)) ∧ Q x w'
/-- what is asked, one behind the other: K i is so where i were asked, and Q x where the last one answered the error x -/
structure Asks (fs : List (FuncId × Array Value)) (X : Nat) (K : Nat → World → Prop) (Q : Nat → World → Prop) : Prop where
  ent : ∀ f ∈ fs, Ent14 f.1
  cell : ∀ i w, K i w → ∀ k f, fs[k]? = some f → w.cell? ⟨X, k, none⟩ = some (.func (.func f.1) #[] f.2)
  ask : ∀ i f w, fs[i]? = some f → K i w → Calls Tryz.prog f.1 f.2 w (Said14 (K (i + 1)) Q)
theorem ask_cells {fs : List (FuncId × Array Value)} {X : Nat} {T : TypeId} {w : World} (h : w.heap[X]? = some (.cells (fs.map fun f => Value.func (.func f.1) #[] f.2).toArray T (0, 0))) (k : Nat) (f : FuncId × Array Value) (hf : fs[k]? = some f) : w.cell? ⟨X, k, none⟩ = some (.func (.func f.1) #[] f.2) := by
  rw [lit_cell h k]
  simp [hf]
set_option maxRecDepth 100000 in
set_option maxHeartbeats 2000000 in
theorem first_any {fs : List (FuncId × Array Value)} {X : Nat} {K : Nat → World → Prop} {Q : Nat → World → Prop} (H : Asks fs X K Q) (cp : Nat) (w : World) (hn : fs.length ≤ 10) (h0 : K 0 w) :
    Calls Tryz.prog 30 #[.slice (some ⟨X, 0, none⟩) fs.length cp] w (Said14 (K fs.length) Q) := by
  have HH := Lib.hid H
  have H0 := Lib.hid h0
  have n1 : (fs.length : Int) ≤ 10 := by omega
  clear H h0 hn
  go_enter Tryz.func30, Tryz.ntmps30
  go_wp2
  go_loopw [8] (fun i wr => ∃ k : Nat, k ≤ fs.length ∧ i = .int .i64 (k : Int) ∧ Hid (K k wr)) (fun i _ => (fs.length : Int).toNat - (intOf i).toNat)
  case atStart => exact ⟨0, Nat.zero_le _, rfl, H0⟩
  case round =>
    obtain ⟨k, hk, rfl, HK⟩ := hrel
    by_cases hke : k = fs.length
    · have HE := Lib.hid (show K fs.length wr by rw [← hke]; exact HK.out)
      have hl : ¬ (k : Int) < (fs.length : Int) := by omega
      clear hk hke
      go_wp2
      go_ret
      exact Or.inl ⟨rfl, HE.out⟩
    · have hkl : k < fs.length := by omega
      obtain ⟨f, hf⟩ : ∃ f, fs[k]? = some f := ⟨_, List.getElem?_eq_getElem hkl⟩
      have hent := HH.out.ent f (List.mem_of_getElem? hf)
      simp only [Ent14] at hent
      have ck := HH.out.cell k wr HK.out k f hf
      have HC := Lib.hid (HH.out.ask k f wr hf HK.out)
      have hl : (k : Int) < (fs.length : Int) := by omega
      have i0 : (0 : Int) ≤ (k : Int) := by omega
      clear hf hke
      obtain ⟨F, C⟩ := f
      simp only at ck hent HC
      go_wp2
      refine HC.out.mono ?_
      rintro e w1 (⟨rfl, hk1⟩ | ⟨x, hx, rfl, hq⟩)
      · have HK1 := Lib.hid hk1
        clear hk1
        go_wp2
        go_roundw
        case rel => exact ⟨k + 1, hkl, by go_num, HK1⟩
        case measure => simp [intOf] <;> omega
      · have HQ := Lib.hid (And.intro hx hq)
        have hx1 : ((x : Int) != 0) = true := by simp; omega
        have hx2 : ¬ (x : Int) = 0 := by omega
        clear hx hq
        go_wp2
        go_ret
        exact Or.inr ⟨x, HQ.out.1, rfl, HQ.out.2⟩
theorem prung_any (k : Nat) (x : (List UInt8)) (w : World) (hx : x.length ≤ 1000000) : Calls Tryz.prog 72 #[.int .u64 (k : Int), .string ⟨x.toArray⟩] w fun e w' => e = .returned (.string ⟨(numL k ++ x).toArray⟩) ∧ Below w.heap.size w w' := by
  have HN := Lib.hid (num_any k w)
  have hct := fun w => run_cat (numL k) x (by rw [numL_length]; omega) w
  generalize numL k ++ x = y at *
  generalize numL k = z at *
  go_enter Tryz.func72, Tryz.ntmps72
  go_wp2_with (go_at_call 26; refine HN.out.mono ?_; rintro e w1 ⟨rfl, hb⟩; have HB := Lib.hid hb; clear hb)
  go_ret
  exact ⟨rfl, HB.out⟩
/-- a tree hangs on no block of another kind -/
theorem TreeM.off {L : List (List UInt8)} {w w' : World} {t X : Nat} {C : Array Value} {T : TypeId} (h : TreeM L w t) (hx : w.heap[X]? = some (.cells C T (0, 0))) (h1 : T ≠ 107) (h2 : T ≠ 103) (hk : Kept (fun j => j ≠ X) w w') : TreeM L w' t := by
  obtain ⟨r, hb, hi⟩ := h.blk
  refine ⟨h.le, r, (hk.block t (lit_lt hb) (fun e => ?_)).trans hb, hi.keep (fun b C' hc => hk.block b (lit_lt hc) (fun e => ?_))⟩
  · rw [e, hx] at hb
    cases hb
    exact h2 rfl
  · rw [e, hx] at hc
    cases hc
    exact h1 rfl
theorem made_strs14 (n : Nat) : madeCells (Value.string ⟨#[]⟩).cells n = ((List.replicate n ([] : (List UInt8))).map fun x => Value.string ⟨x.toArray⟩).toArray := by
  apply Array.ext
  · simp [madeCells]
  · intro i h1 h2
    simp [madeCells, Value.cells, Nat.mod_one]
theorem make_strs14 (n : Nat) (hn : n ≤ 100000) (w : World) : (Instr.makeSlice 41 (.int .i64 (n : Int)) (.int .i64 (n : Int))).run Tryz.prog w = .ok (.slice (some ⟨w.heap.size, 0, none⟩) n n) (w.alloc (.cells ((List.replicate n ([] : (List UInt8))).map fun x => Value.string ⟨x.toArray⟩).toArray 9)) := by
  obtain ⟨i0, hi, hz0, hz1, hz2⟩ := info_parts info_str
  have h := run_make (P := Tryz.prog) w 41 9 i0 (.string ⟨#[]⟩) Tryz.underlying41 hi hz0 .i64 .i64 (n : Int) (n : Int) (by omega) (by omega) (by rw [hz2]; omega) (by omega)
  rw [h, hz1, Int.toNat_natCast, Nat.mul_one, made_strs14]
/-- k rungs of n, and noughts -/
def rowR (s : (List UInt8)) (n k : Nat) : List (List UInt8) := rungsL s k ++ List.replicate (n - k) []
def rowC (R : List (List UInt8)) : Array Value := (R.map fun x => Value.string ⟨x.toArray⟩).toArray
theorem rowR_len {s : (List UInt8)} {n k : Nat} (h : k ≤ n) : (rowR s n k).length = n := by rw [rowR, List.length_append, rungsL_len, List.length_replicate]; omega
theorem rowR_set {s : (List UInt8)} {n k : Nat} (h : k < n) : (rowR s n k).set k (rungF s k) = rowR s n (k + 1) := by
  obtain ⟨m, hm⟩ : ∃ m, n - k = m + 1 := ⟨n - k - 1, by omega⟩
  rw [rowR, rowR, hm, List.set_append_right _ _ (by rw [rungsL_len]; exact Nat.le_refl _), rungsL_len, Nat.sub_self, List.replicate_succ, List.set_cons_zero, show n - (k + 1) = m by omega, rungsL_more, List.append_assoc]
  rfl
theorem rowR_0 (s : (List UInt8)) (n : Nat) : rowR s n 0 = List.replicate n [] := by simp [rowR, rungsL]
theorem rowR_n (s : (List UInt8)) (n : Nat) : rowR s n n = rungsL s n := by simp [rowR]
theorem rowC_set (R : List (List UInt8)) (k : Nat) (t : (List UInt8)) : (rowC R).setIfInBounds k (.string ⟨t.toArray⟩) = rowC (R.set k t) := by simp [rowC, List.map_set]
theorem rowC_get {s : (List UInt8)} {n k : Nat} (h : k < n) : ∃ q : ByteArray, (rowC (rowR s n k))[k]? = some (.string q) := by
  have hl : k < (rowR s n k).length := by rw [rowR_len (Nat.le_of_lt h)]; exact h
  exact ⟨⟨(rowR s n k)[k].toArray⟩, by simp [rowC, hl]⟩
theorem rowC_strs {R : List (List UInt8)} {b : Nat} {w : World} (h : w.heap[b]? = some (.cells (rowC R) 9 (0, 0))) : Strs (some ⟨b, 0, none⟩) R w := .inr ⟨b, 0, rfl, lit_lt h, fun i hi => by
  rw [Nat.zero_add, lit_cell h i]
  simp [rowC, hi]⟩
set_option maxRecDepth 100000 in
set_option maxHeartbeats 4000000 in
theorem rungsOf_any (C : WotsC) (s : (List UInt8)) (N : Nat) (w : World) (hg : Glob w) (hs : s.length ≤ 1000) (hN : N ≤ 64) : Calls Tryz.prog 38 #[.string ⟨s.toArray⟩, .int .i64 (N : Int)] w fun e w' => ∃ t, e = .returned (.tuple #[.agg #[.pointer (some ⟨t, 0, none⟩)], .int .i64 0]) ∧ TreeM (rungsL s N) w' t ∧ Below w.heap.size w w' := by
  have HGB := Lib.hid (fun wz (h : Below w.heap.size w wz) => hg.below hg.size h)
  have HPU := Lib.hid (fun (k : Nat) (hk : k < N) wz (h : Below w.heap.size w wz) => C.p s k wz (HGB.out wz h) hs (by omega))
  have HRU := Lib.hid (fun (k : Nat) wz => show Calls Tryz.prog 72 #[.int .u64 (k : Int), .string ⟨(pubF s k).toArray⟩] wz fun e w' => e = .returned (.string ⟨(rungF s k).toArray⟩) ∧ Below wz.heap.size wz w' from prung_any k (pubF s k) wz (by have : (pubF s k).length ≤ 32 := hashL_len _ _; omega))
  have HBU := Lib.hid (fun b wz (h : Below w.heap.size w wz) (hS : Strs (some ⟨b, 0, none⟩) (rungsL s N) wz) => show Calls Tryz.prog 28 #[.slice (some ⟨b, 0, none⟩) N N] wz fun e w' => ∃ t, e = .returned (.tuple #[.pointer (some ⟨t, 0, none⟩), .int .i64 0]) ∧ TreeM (rungsL s N) w' t ∧ Below wz.heap.size wz w' by
    have h1 := build_any (some ⟨b, 0, none⟩) N (rungsL s N) wz (HGB.out wz h) hS (by rw [rungsL_len]; omega) (fun i hi => Nat.le_trans (rungsL_short s N _ (List.getElem_mem hi)) (by decide))
    rw [rungsL_len] at h1
    refine h1.mono ?_
    rintro e w' ⟨t, h2, h3, _, h4⟩
    exact ⟨t, h2, h3, h4⟩)
  have HRS := Lib.hid (fun k (h : k < N) => rowR_set (s := s) h)
  have HRN := Lib.hid (rowR_n s N)
  obtain ⟨R, hR⟩ : ∃ R, R = w.heap.size := ⟨_, rfl⟩
  have HRR := Lib.hid hR
  obtain ⟨w1, hw1⟩ : ∃ w1, w1 = w.alloc (.cells #[.pointer none] 68) := ⟨_, rfl⟩
  have hb1 : Below R w w1 := by rw [hw1, hR]; exact by0 w _
  have hx1 : w1.heap[R]? = some (.cells #[.pointer none] 68 (0, 0)) := by rw [hw1, hR]; exact heap_alloc_new w _
  have hz1 : w1.heap.size = R + 1 := by rw [hw1, hR, World.size_alloc]
  have hmk := make_strs14 N (by omega) w1
  rw [show ((List.replicate N ([] : (List UInt8))).map fun x => Value.string ⟨x.toArray⟩).toArray = rowC (rowR s N 0) by rw [rowR_0]; rfl, hz1] at hmk
  obtain ⟨w2, hw2⟩ : ∃ w2, w2 = w1.alloc (.cells (rowC (rowR s N 0)) 9) := ⟨_, rfl⟩
  rw [← hw2] at hmk
  have HB2 := Lib.hid (show Below R w w2 by rw [hw2]; exact hb1.alloc (by omega) _)
  have HX2 := Lib.hid (show w2.heap[R]? = some (.cells #[.pointer none] 68 (0, 0)) by rw [hw2]; exact lit_old _ hx1)
  have HY2 := Lib.hid (show w2.heap[R + 1]? = some (.cells (rowC (rowR s N 0)) 9 (0, 0)) by rw [hw2, ← hz1]; exact heap_alloc_new w1 _)
  have HW1 := Lib.hid hw1
  have hni : (N : Int) ≤ 64 := by omega
  clear hg hs hN hR hb1 hx1 hz1 hw1 hw2
  go_enter Tryz.func38, Tryz.ntmps38
  go_upto_region 1 with fail
  rw [← HW1.out, ← HRR.out]
  go_upto_region 3 with fail
  clear hmk
  go_loopw [15] (fun v15 wr => ∃ k : Nat, k ≤ N ∧ v15 = .int .i64 (k : Int) ∧ Hid (wr.heap[R]? = some (.cells #[.pointer none] 68 (0, 0))) ∧ Hid (wr.heap[R + 1]? = some (.cells (rowC (rowR s N k)) 9 (0, 0))) ∧ Hid (Below R w wr)) (fun v15 _ => N - (intOf v15).toNat)
  case atStart => exact ⟨0, Nat.zero_le _, rfl, HX2, HY2, HB2⟩
  case round =>
    obtain ⟨k, hk, rfl, HX, HY, HB⟩ := hrel
    by_cases hlt : k < N
    · have k0 : (0 : Int) ≤ (k : Int) := by omega
      have k1 : (k : Int) < (N : Int) := by omega
      have hwk : IntKind.u64.wrap (k : Int) = (k : Int) := by rw [IntKind.wrap_u64]; omega
      have HLT := Lib.hid hlt
      have HPk := Lib.hid (HPU.out k hlt wr (by rw [← HRR.out]; exact HB.out))
      have HRk := Lib.hid (fun wz => HRU.out k wz)
      have HSk := Lib.hid (HRS.out k hlt)
      obtain ⟨q, hq⟩ := rowC_get (s := s) hlt
      have HQ := Lib.hid hq
      clear hq
      clear hlt hk
      generalize pubF s k = p at *
      generalize rungF s k = r at *
      go_upto_region 7 with (first
        | (go_at_call 27; with_reducible refine HPk.out.mono ?_; rintro e w3 ⟨rfl, hb3⟩; have HX3 := Lib.hid ((hb3.block _ (lit_lt HX.out)).trans HX.out); have HY3 := Lib.hid ((hb3.block _ (lit_lt HY.out)).trans HY.out); have HB3 := Lib.hid (HB.out.trans (hb3.mono (by rw [HRR.out]; exact HB.out.size))); clear hb3)
        | (go_at_call 72; with_reducible refine (HRk.out _).mono ?_; rintro e w4 ⟨rfl, hb4⟩; have HX4 := Lib.hid ((hb4.block _ (lit_lt HX3.out)).trans HX3.out); have HY4 := Lib.hid ((hb4.block _ (lit_lt HY3.out)).trans HY3.out); have HB4 := Lib.hid (HB3.out.trans (hb4.mono (by rw [HRR.out]; exact HB3.out.size))); have ck := (lit_cell HY4.out k).trans HQ.out; have fk := lit_free HY4.out k; clear hb4))
      have hset := lit_set (k := k) (.string ⟨r.toArray⟩) HY4.out
      rw [rowC_set, HSk.out] at hset
      have HYn := Lib.hid hset
      have HXn := Lib.hid (((Kept.refl (fun j => j ≠ R + 1) w4).setCell (R + 1) k (.string ⟨r.toArray⟩) (fun _ h => h rfl)).block R (lit_lt HX4.out) (by omega) |>.trans HX4.out)
      have HBn := Lib.hid (HB4.out.setCell (p := ⟨R + 1, k, none⟩) (show R ≤ R + 1 by omega) (.string ⟨r.toArray⟩))
      clear hset ck fk
      go_wp2
      go_roundw
      case rel => exact ⟨k + 1, HLT.out, by go_num, HXn, HYn, HBn⟩
      case measure => have := HLT.out; simp [intOf]; omega
    · have k1 : ¬ (k : Int) < (N : Int) := by omega
      obtain rfl : k = N := by omega
      rw [HRN.out] at HY
      have HS := Lib.hid (rowC_strs HY.out)
      have HBUk := Lib.hid (HBU.out (R + 1) wr (by rw [← HRR.out]; exact HB.out) HS.out)
      clear hlt hk
      go_upto_region 9 with (go_at_call 28; with_reducible refine HBUk.out.mono ?_; rintro e w5 ⟨t, rfl, ht, hb5⟩; have HT := Lib.hid ht; have HX5 := Lib.hid ((hb5.block _ (lit_lt HX.out)).trans HX.out); have HB5 := Lib.hid (HB.out.trans (hb5.mono (by rw [HRR.out]; exact HB.out.size))); clear ht hb5)
      have r0 := (lit_cell HX5.out 0).trans rfl
      have f0 := lit_free HX5.out 0
      have HT6 := Lib.hid (HT.out.off HX5.out (by decide) (by decide) ((Kept.refl (fun j => j ≠ R) w5).setCell R 0 (.pointer (some ⟨t, 0, none⟩)) (fun _ h => h rfl)))
      have HB6 := Lib.hid (HB5.out.setCell (p := ⟨R, 0, none⟩) (Nat.le_refl _) (.pointer (some ⟨t, 0, none⟩)))
      have v0 := (lit_cell (lit_set (k := 0) (.pointer (some ⟨t, 0, none⟩)) HX5.out) 0).trans rfl
      go_wp2
      clear r0 f0
      refine bodyPost_ret (v := .tuple #[.agg #[.pointer (some ⟨t, 0, none⟩)], .int .i64 0]) (by simp [results, Tryz.results38, go_sem, v0]) rfl ⟨t, rfl, HT6.out, by rw [← HRR.out]; exact HB6.out⟩
end Go.Proofs.YtmnklonoelpidaaGreatDoor
