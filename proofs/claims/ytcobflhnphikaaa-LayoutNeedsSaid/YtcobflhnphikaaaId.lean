/- Choosing a pivot of fewer than fifty. -/
import Derived.Test.YtcobflhnphikaaaIc
namespace Go.Proofs.Ytcobflhnphikaaa
open Go.RowKit Go.Sort

/-- block l holds how often two were exchanged -/
structure Sw (w0 : World) (l s : Nat) (w : World) : Prop where
  c : w.cell? ⟨l, 0, none⟩ = some (.int .i64 (s : Int))
  f : w.frozen? ⟨l, 0, none⟩ = false
  new : w0.heap.size ≤ l
/-- what order2 answers -/
structure Two (w0 : World) (b n l s i j : Nat) (c0 : Array Value) (d : Array Nat) (e : Ending) (w' : World) (x y s' : Nat) : Prop where
  ret : e = .returned (.tuple #[.int .i64 (x : Int), .int .i64 (y : Int)])
  xy : (x = i ∧ y = j) ∨ (x = j ∧ y = i)
  s : s' ≤ s + 1
  row : Rw w0 b c0 n d w'
  sw : Sw w0 l s' w'
theorem setCell_get {w : World} {l o : Nat} {v u : Value} (h : w.cell? ⟨l, o, none⟩ = some u) : (w.setCell ⟨l, o, none⟩ v).cell? ⟨l, o, none⟩ = some v := by
  exact World.cell?_setCell_same w _ v (by rw [h])
set_option maxRecDepth 100000 in
set_option maxHeartbeats 2000000 in
theorem order2_any (w0 : World) (b n cap : Nat) (c0 : Array Value) (d : Array Nat) (i j l s : Nat) (hi : i < n) (hj : j < n) (hs : s ≤ 1000) (w : World) (hR : Rw w0 b c0 n d w) (hS : Sw w0 l s w) :
    Calls Try.prog 58 #[.slice (some ⟨b, 0, none⟩) n cap, .int .i64 (i : Int), .int .i64 (j : Int), .pointer (some ⟨l, 0, none⟩)] w fun e w' => ∃ x y s', Two w0 b n l s i j c0 d e w' x y s' := by
  obtain ⟨y0, hy0⟩ : ∃ y, y = d[i]! := ⟨_, rfl⟩
  obtain ⟨y1, hy1⟩ : ∃ y, y = d[j]! := ⟨_, rfl⟩
  have f0 : w.cell? ⟨b, i, none⟩ = some (.int .u64 (y0 : Int)) := by rw [hy0]; exact hR.cell i hi
  have f1 : w.cell? ⟨b, j, none⟩ = some (.int .u64 (y1 : Int)) := by rw [hy1]; exact hR.cell j hj
  have b0 : (0 : Int) ≤ (i : Int) ∧ (i : Int) < (n : Int) := by omega
  have b1 : (0 : Int) ≤ (j : Int) ∧ (j : Int) < (n : Int) := by omega
  have fs := hS.c
  have gs := hS.f
  have HR := Lib.hid hR
  have HS := Lib.hid hS
  have hs1 : (s : Int) ≤ 1000 := by omega
  clear hy0 hy1 hR hS
  go_enter Try.func58, Try.ntmps58
  go_wp2
  go_quiet (first | (go_at_call 49; refine Calls.quiet_of_same ((less_any _ _ _).mono (fun e w' h => ⟨h.1, h.2.symm⟩))))
  have HR2 := Lib.hid (HR.out.drewN nq)
  have hs2 : (w.drewN nq).cell? ⟨l, 0, none⟩ = some (.int .i64 (s : Int)) := fs
  have gs2 : (w.drewN nq).frozen? ⟨l, 0, none⟩ = false := gs
  generalize w.drewN nq = v1 at *
  go_wp2
  · go_ret2
    refine ⟨j, i, s + 1, ⟨rfl, .inr ⟨rfl, rfl⟩, Nat.le_refl _, HR2.out.store HS.out.new 0 _, ⟨?_, ?_, HS.out.new⟩⟩⟩
    · rw [setCell_get hs2]; rfl
    · rw [World.frozen?_setCell]; exact gs2
  · go_ret2
    exact ⟨i, j, s, ⟨rfl, .inl ⟨rfl, rfl⟩, by omega, HR2.out, ⟨hs2, gs2, HS.out.new⟩⟩⟩
set_option maxRecDepth 100000 in
set_option maxHeartbeats 2000000 in
theorem median_any (w0 : World) (b n cap : Nat) (c0 : Array Value) (d : Array Nat) (i j k l s : Nat) (hi : i < n) (hj : j < n) (hk : k < n) (hs : s ≤ 900) (w : World) (hR : Rw w0 b c0 n d w) (hS : Sw w0 l s w) :
    Calls Try.prog 56 #[.slice (some ⟨b, 0, none⟩) n cap, .int .i64 (i : Int), .int .i64 (j : Int), .int .i64 (k : Int), .pointer (some ⟨l, 0, none⟩)] w fun e w' => ∃ x s' : Nat, e = .returned (.int .i64 (x : Int)) ∧ (x = i ∨ x = j ∨ x = k) ∧ s' ≤ s + 3 ∧ Rw w0 b c0 n d w' ∧ Sw w0 l s' w' := by
  have HC1 := Lib.hid (order2_any w0 b n cap c0 d i j l s hi hj (by omega) w hR hS)
  have HC2 := Lib.hid (fun x s' w (hx : x < n) (h1 : s' ≤ 1000) h2 h3 => order2_any w0 b n cap c0 d x k l s' hx hk h1 w h2 h3)
  have HC3 := Lib.hid (fun x y s' w (hx : x < n) (hy : y < n) (h1 : s' ≤ 1000) h2 h3 => order2_any w0 b n cap c0 d x y l s' hx hy h1 w h2 h3)
  clear hR hS
  go_enter Try.func56, Try.ntmps56
  go_wp2_with fail
  refine HC1.out.mono ?_
  rintro e w1 ⟨x1, y1, s1, h1⟩
  obtain rfl := h1.ret
  have H1 := Lib.hid h1
  have m1 : x1 < n ∧ y1 < n := by rcases h1.xy with h | h <;> omega
  have t1 := h1.s
  clear h1
  go_wp2_with fail
  refine (HC2.out y1 s1 w1 m1.2 (by omega) H1.out.row H1.out.sw).mono ?_
  rintro e w2 ⟨x2, y2, s2, h2⟩
  obtain rfl := h2.ret
  have H2 := Lib.hid h2
  have m2 : x2 < n ∧ y2 < n := by rcases h2.xy with h | h <;> omega
  have t2 := h2.s
  clear h2
  go_wp2_with fail
  refine (HC3.out x1 x2 s2 w2 m1.1 m2.1 (by omega) H2.out.row H2.out.sw).mono ?_
  rintro e w3 ⟨x3, y3, s3, h3⟩
  obtain rfl := h3.ret
  have H3 := Lib.hid h3
  have t3 := h3.s
  clear h3
  go_wp2
  go_ret
  refine ⟨y3, s3, rfl, ?_, by omega, H3.out.row, H3.out.sw⟩
  have a1 := H1.out.xy
  have a2 := H2.out.xy
  have a3 := H3.out.xy
  omega
set_option maxRecDepth 100000 in
set_option maxHeartbeats 2000000 in
theorem pivot_any (w0 : World) (b n cap : Nat) (c0 : Array Value) (hn : n ≤ 100000) (d : Array Nat) (lo hi : Nat) (hlo : lo + 12 < hi) (hh : hi ≤ n) (h50 : hi < lo + 50) (w : World) (hR : Rw w0 b c0 n d w) :
    Calls Try.prog 46 #[.slice (some ⟨b, 0, none⟩) n cap, .int .i64 (lo : Int), .int .i64 (hi : Int)] w fun e w' => ∃ (x : Nat) (h : Int), e = .returned (.tuple #[.int .i64 (x : Int), .int .i64 h]) ∧ lo ≤ x ∧ x < hi ∧ (h = 0 ∨ h = 1) ∧ Rw w0 b c0 n d w' := by
  obtain ⟨m, hm⟩ : ∃ m, m = hi - lo := ⟨_, rfl⟩
  obtain ⟨q, hq⟩ : ∃ q, q = m / 4 := ⟨_, rfl⟩
  have e1 : (hi : Int) - (lo : Int) = (m : Int) := by omega
  have e2 : (m : Int) / 4 = (q : Int) := by omega
  have e3 : (lo : Int) + (q : Int) = ((lo + q : Nat) : Int) := by omega
  have e4 : (lo : Int) + (q : Int) * 2 = ((lo + 2 * q : Nat) : Int) := by omega
  have e5 : (lo : Int) + (q : Int) * 3 = ((lo + 3 * q : Nat) : Int) := by omega
  have hm8 : 8 ≤ (m : Int) := by omega
  have hm50 : ¬ 50 ≤ (m : Int) := by omega
  have hl1 : lo + 2 * q < hi := by omega
  have hl2 : lo + 3 * q < hi := by omega
  obtain ⟨l, hl⟩ : ∃ l, l = w.heap.size := ⟨_, rfl⟩
  obtain ⟨wa, hwa⟩ : ∃ wa, w.alloc (.cells #[.int .i64 0] 3) = wa := ⟨_, rfl⟩
  have hha : wa.heap[l]? = some (.cells #[.int .i64 0] 3 (0, 0)) := by rw [← hwa]; exact alloc_new _ _ hl
  have hS : Sw w0 l 0 wa := ⟨by rw [lit_cell hha]; rfl, lit_free hha 0, by rw [hl]; exact hR.kept.size⟩
  have hRa : Rw w0 b c0 n d wa := by rw [← hwa]; exact hR.alloc _
  have HC := Lib.hid (median_any w0 b n cap c0 d (lo + q) (lo + 2 * q) (lo + 3 * q) l 0 (by omega) (by omega) (by omega) (by omega) wa hRa hS)
  have HL := Lib.hid hl
  have HWA := Lib.hid hwa
  clear hm hq hl hwa hS hRa hR hha
  generalize lo + q = p1 at *
  generalize lo + 2 * q = p2 at *
  generalize lo + 3 * q = p3 at *
  go_enter Try.func46, Try.ntmps46
  go_wp2_with fail
  rw [HWA.out, ← HL.out]
  refine HC.out.mono ?_
  rintro e w1 ⟨x, s1, rfl, hx, hs1, hR1, hS1⟩
  have c1 := hS1.c
  have HR1 := Lib.hid hR1
  clear hR1 hS1
  by_cases hz : s1 = 0
  · subst hz
    rw [show (((0 : Nat) : Int)) = 0 from rfl] at c1
    go_wp2
    go_ret2
    exact ⟨x, 1, rfl, by omega, by omega, .inr rfl, HR1.out⟩
  · have z1 : ((s1 : Int) == 0) = false := by rw [beq_eq_false_iff_ne]; omega
    have z2 : ((s1 : Int) == 12) = false := by rw [beq_eq_false_iff_ne]; omega
    clear hz
    go_wp2
    go_ret2
    exact ⟨x, 0, rfl, by omega, by omega, .inl rfl, HR1.out⟩
end Go.Proofs.Ytcobflhnphikaaa
