/- Sorting by a heap: the whole. -/
import Derived.Test.YtfghggfoncfhgaaGreatDoorJ11
namespace Go.Proofs.YtfghggfoncfhgaaGreatDoor
open Go.RowKit Go.Sort

theorem siftDown_perm {hi first root n : Nat} {d : Array Nat} (h : d.size = n) : (siftDown ltN hi first root d).size = n := by
  induction root, d using siftDown.induct (lt := ltN) (hi := hi) (first := first) with
  | case1 root d h1 => rw [siftDown, dif_pos h1]; exact h
  | case2 root d h1 h2 h3 => rw [siftDown, dif_neg h1, if_pos h2, if_pos h3]; exact h
  | case3 root d h1 h2 h3 h4 ih => rw [siftDown, dif_neg h1, if_pos h2, if_neg h3, dif_pos h4]; exact ih (by rw [swp_size]; exact h)
  | case4 root d h1 h2 h3 h4 => rw [siftDown, dif_neg h1, if_pos h2, if_neg h3, dif_neg h4]; exact h
  | case5 root d h1 h2 h3 => rw [siftDown, dif_neg h1, if_neg h2, if_pos h3]; exact h
  | case6 root d h1 h2 h3 ih => rw [siftDown, dif_neg h1, if_neg h2, if_neg h3]; exact ih (by rw [swp_size]; exact h)
set_option maxRecDepth 100000 in
set_option maxHeartbeats 2000000 in
theorem heap_any (w0 : World) (b n cap : Nat) (c0 : Array Value) (hn : n ≤ 100000) (lo hi : Nat) (d : Array Nat) (w : World) (hR : Rw w0 b c0 n d w) (hlo : lo < hi) (hh : hi ≤ n) :
    Calls Tryz.prog 102 #[.slice (some ⟨b, 0, none⟩) n cap, .int .i64 (lo : Int), .int .i64 (hi : Int)] w fun e w' => e = .returned (.tuple #[]) ∧ Rw w0 b c0 n (heapSort ltN d lo hi) w' := by
  obtain ⟨h, hh'⟩ : ∃ h, h = hi - lo := ⟨_, rfl⟩
  obtain ⟨m, hm⟩ : ∃ m, m = (h - 1) / 2 := ⟨_, rfl⟩
  have e1 : (hi : Int) - (lo : Int) = (h : Int) := by omega
  have e2 : ((h : Int) - 1) / 2 = (m : Int) := by omega
  have e3 : IntKind.i64.wrap (((h : Int) - 1).tdiv 2) = (m : Int) := by rw [Int.tdiv_eq_ediv_of_nonneg (by omega), e2, IntWalk.i64_in _ (by omega)]
  have HR := Lib.hid hR
  have HS := Lib.hid (show heapSort ltN d lo hi = heapPop ltN lo h (heapBuild ltN h lo (m + 1) d) by rw [heapSort, ← hh', hm])
  have n1 : (n : Int) ≤ 100000 := by omega
  have n2 : lo + h ≤ n := by omega
  have n3 : 0 < h := by omega
  have hmb : m < h := by omega
  clear hR hh' hm
  go_enter Tryz.func102, Tryz.ntmps102
  go_wp2
  clear e1 e2 e3
  go_loopw [9] (fun v wr => ∃ (k : Nat) (dk : Array Nat), v = .int .i64 ((k : Int) - 1) ∧ k ≤ m + 1 ∧ Hid (Rw w0 b c0 n dk wr) ∧ Hid (heapBuild ltN h lo k dk = heapBuild ltN h lo (m + 1) d)) (fun v _ => (intOf v + 1).toNat)
  case atStart => exact ⟨m + 1, d, by congr 1; omega, Nat.le_refl _, HR, Lib.hid rfl⟩
  case round =>
    obtain ⟨k, dk, rfl, hk, HD, HE⟩ := hrel
    cases k with
    | zero =>
      rw [show (((0 : Nat) : Int)) - 1 = -1 from rfl]
      have HE0 := Lib.hid (show dk = heapBuild ltN h lo (m + 1) d from HE.out)
      have HR3 := Lib.hid (show Rw w0 b c0 n (heapBuild ltN h lo (m + 1) d) wr from HE0.out ▸ HD.out)
      generalize heapBuild ltN h lo (m + 1) d = d1 at *
      clear HD HE HE0 HR hk
      go_wp2
      go_loopw [10] (fun v wr2 => ∃ (k : Nat) (dk : Array Nat), v = .int .i64 ((k : Int) - 1) ∧ k ≤ h ∧ Hid (Rw w0 b c0 n dk wr2) ∧ Hid (heapPop ltN lo k dk = heapPop ltN lo h d1)) (fun v _ => (intOf v + 1).toNat)
      case atStart => exact ⟨h, d1, rfl, Nat.le_refl _, HR3, Lib.hid rfl⟩
      case round =>
        obtain ⟨k, dk, rfl, hk, HD, HE⟩ := hrel
        cases k with
        | zero =>
          rw [show (((0 : Nat) : Int)) - 1 = -1 from rfl]
          have HE0 := Lib.hid (show dk = heapPop ltN lo h d1 from HE.out)
          go_wp2
          go_end0
          exact ⟨rfl, by rw [HS.out, ← HE0.out]; exact HD.out⟩
        | succ j =>
          have ej : (((j + 1 : Nat) : Int)) - 1 = (j : Int) := by omega
          rw [ej]
          obtain ⟨x, hx⟩ : ∃ x, x = lo + j := ⟨_, rfl⟩
          have wx : IntKind.i64.wrap ((lo : Int) + (j : Int)) = (x : Int) := by rw [IntWalk.i64_in _ (by omega)]; omega
          obtain ⟨y0, hy0⟩ : ∃ y, y = dk[lo]! := ⟨_, rfl⟩
          obtain ⟨y1, hy1⟩ : ∃ y, y = dk[x]! := ⟨_, rfl⟩
          have f0 : wr.cell? ⟨b, lo, none⟩ = some (.int .u64 (y0 : Int)) := by rw [hy0]; exact HD.out.cell lo (by omega)
          have f1 : wr.cell? ⟨b, x, none⟩ = some (.int .u64 (y1 : Int)) := by rw [hy1]; exact HD.out.cell x (by omega)
          have g0 := HD.out.free lo
          have g1 := HD.out.free x
          have b0 : (0 : Int) ≤ (lo : Int) ∧ (lo : Int) < (n : Int) := by omega
          have b1 : (0 : Int) ≤ (x : Int) ∧ (x : Int) < (n : Int) := by omega
          have hS := HD.out.drew.swap lo x (by omega) (by omega)
          rw [← hy0, ← hy1] at hS
          have HS1 := Lib.hid hS
          have hjb : (j : Int) ≤ 100000 := by omega
          have HC := Lib.hid (fun w hw => show Calls Tryz.prog 110 #[.slice (some ⟨b, 0, none⟩) n cap, .int .i64 0, .int .i64 (j : Int), .int .i64 (lo : Int)] w _ from sift_any w0 b n cap c0 hn 0 j lo (swp dk lo x) w hw (by omega) (by omega))
          have HEj := Lib.hid (show heapPop ltN lo j (siftDown ltN j lo 0 (swp dk lo x)) = heapPop ltN lo h d1 by rw [hx]; exact HE.out)
          have HX := Lib.hid hx
          have HYY := Lib.hid (And.intro hy0 hy1)
          clear hy0 hy1 hx hS ej
          by_cases hj0 : j = 0
          · have hx0 : x = lo := by have := HX.out; omega
            have hyy : y1 = y0 := by rw [HYY.out.2, HYY.out.1, hx0]
            subst hx0
            subst hyy
            clear hj0
            have HS2 := Lib.hid (show Rw w0 b c0 n (swp dk x x) (((wr.setCell ⟨b, x, none⟩ (.int .u64 (y1 : Int))).setCell ⟨b, x, none⟩ (.int .u64 (y1 : Int))).drew) by
              have := (HD.out.swap x x (by omega) (by omega)).drew
              rw [← HYY.out.1] at this
              exact this)
            go_wp2
            go_region
            go_wp2_with (go_at_call 110; (with_reducible refine (HC.out _ HS2.out).mono ?_); rintro e w2 ⟨rfl, hr2⟩; have HR2 := Lib.hid hr2; clear hr2)
            go_roundw
            case rel => exact ⟨j, _, by go_num, by omega, HR2, HEj⟩
            case measure => simp [intOf] <;> omega
          · have ne1 : ¬ lo = x := by have := HX.out; omega
            have ne2 : ¬ x = lo := fun h => ne1 h.symm
            go_wp2
            go_region
            go_wp2_with (go_at_call 110; refine (HC.out _ HS1.out).mono ?_; rintro e w2 ⟨rfl, hr2⟩; have HR2 := Lib.hid hr2; clear hr2)
            go_roundw
            case rel => exact ⟨j, _, by go_num, by omega, HR2, HEj⟩
            case measure => simp [intOf] <;> omega
    | succ j =>
      have ej : (((j + 1 : Nat) : Int)) - 1 = (j : Int) := by omega
      rw [ej]
      have HC := Lib.hid (sift_any w0 b n cap c0 hn j h lo dk wr HD.out (by omega) n2)
      have HEj := Lib.hid (show heapBuild ltN h lo j (siftDown ltN h lo j dk) = heapBuild ltN h lo (m + 1) d from HE.out)
      have hjb : (j : Int) ≤ 100000 := by omega
      clear ej
      go_wp2_with (go_at_call 110; refine HC.out.mono ?_; rintro e w2 ⟨rfl, hr2⟩; have HR2 := Lib.hid hr2; clear hr2)
      go_roundw
      case rel => exact ⟨j, _, by go_num, by omega, HR2, HEj⟩
      case measure => simp [intOf] <;> omega
end Go.Proofs.YtfghggfoncfhgaaGreatDoor
/- Choosing a pivot of fewer than fifty. -/
namespace Go.Proofs.YtfghggfoncfhgaaGreatDoor
open Go.RowKit Go.Sort

/-- block l holds how often two were exchanged -/
structure Sw (w0 : World) (l s : Nat) (w : World) : Prop where
  c : w.cell? ⟨l, 0, none⟩ = some (.int .i64 (s : Int))
  f : w.frozen? ⟨l, 0, none⟩ = false
  new : w0.heap.size ≤ l
/-- what order2 answers -/
structure Two (w0 : World) (b n l s i j : Nat) (c0 : Array Value) (d : Array Nat) (e : Ending) (w' : World) (x y s' : Nat) : Prop where
  ret : e = .returned (.tuple #[.int .i64 (x : Int), .int .i64 (y : Int)])
  xy : (x = i ∧ y = j) ∨ (x = j ∧ y = i)
  s : s' ≤ s + 1
  row : Rw w0 b c0 n d w'
  sw : Sw w0 l s' w'
theorem setCell_get {w : World} {l o : Nat} {v u : Value} (h : w.cell? ⟨l, o, none⟩ = some u) : (w.setCell ⟨l, o, none⟩ v).cell? ⟨l, o, none⟩ = some v := by
  exact World.cell?_setCell_same w _ v (by rw [h])
set_option maxRecDepth 100000 in
set_option maxHeartbeats 2000000 in
theorem order2_any (w0 : World) (b n cap : Nat) (c0 : Array Value) (d : Array Nat) (i j l s : Nat) (hi : i < n) (hj : j < n) (hs : s ≤ 1000) (w : World) (hR : Rw w0 b c0 n d w) (hS : Sw w0 l s w) :
    Calls Tryz.prog 116 #[.slice (some ⟨b, 0, none⟩) n cap, .int .i64 (i : Int), .int .i64 (j : Int), .pointer (some ⟨l, 0, none⟩)] w fun e w' => ∃ x y s', Two w0 b n l s i j c0 d e w' x y s' := by
  obtain ⟨y0, hy0⟩ : ∃ y, y = d[i]! := ⟨_, rfl⟩
  obtain ⟨y1, hy1⟩ : ∃ y, y = d[j]! := ⟨_, rfl⟩
  have f0 : w.cell? ⟨b, i, none⟩ = some (.int .u64 (y0 : Int)) := by rw [hy0]; exact hR.cell i hi
  have f1 : w.cell? ⟨b, j, none⟩ = some (.int .u64 (y1 : Int)) := by rw [hy1]; exact hR.cell j hj
  have b0 : (0 : Int) ≤ (i : Int) ∧ (i : Int) < (n : Int) := by omega
  have b1 : (0 : Int) ≤ (j : Int) ∧ (j : Int) < (n : Int) := by omega
  have fs := hS.c
  have gs := hS.f
  have HR := Lib.hid hR
  have HS := Lib.hid hS
  have hs1 : (s : Int) ≤ 1000 := by omega
  clear hy0 hy1 hR hS
  go_enter Tryz.func116, Tryz.ntmps116
  go_wp2
  go_quiet (first | (go_at_call 107; refine Calls.quiet_of_same ((less_any _ _ _).mono (fun e w' h => ⟨h.1, h.2.symm⟩))))
  have HR2 := Lib.hid (HR.out.drewN nq)
  have hs2 : (w.drewN nq).cell? ⟨l, 0, none⟩ = some (.int .i64 (s : Int)) := fs
  have gs2 : (w.drewN nq).frozen? ⟨l, 0, none⟩ = false := gs
  generalize w.drewN nq = v1 at *
  go_wp2
  · go_ret2
    refine ⟨j, i, s + 1, ⟨rfl, .inr ⟨rfl, rfl⟩, Nat.le_refl _, HR2.out.store HS.out.new 0 _, ⟨?_, ?_, HS.out.new⟩⟩⟩
    · rw [setCell_get hs2]; rfl
    · rw [World.frozen?_setCell]; exact gs2
  · go_ret2
    exact ⟨i, j, s, ⟨rfl, .inl ⟨rfl, rfl⟩, by omega, HR2.out, ⟨hs2, gs2, HS.out.new⟩⟩⟩
set_option maxRecDepth 100000 in
set_option maxHeartbeats 2000000 in
theorem median_any (w0 : World) (b n cap : Nat) (c0 : Array Value) (d : Array Nat) (i j k l s : Nat) (hi : i < n) (hj : j < n) (hk : k < n) (hs : s ≤ 900) (w : World) (hR : Rw w0 b c0 n d w) (hS : Sw w0 l s w) :
    Calls Tryz.prog 114 #[.slice (some ⟨b, 0, none⟩) n cap, .int .i64 (i : Int), .int .i64 (j : Int), .int .i64 (k : Int), .pointer (some ⟨l, 0, none⟩)] w fun e w' => ∃ x s' : Nat, e = .returned (.int .i64 (x : Int)) ∧ (x = i ∨ x = j ∨ x = k) ∧ s' ≤ s + 3 ∧ Rw w0 b c0 n d w' ∧ Sw w0 l s' w' := by
  have HC1 := Lib.hid (order2_any w0 b n cap c0 d i j l s hi hj (by omega) w hR hS)
  have HC2 := Lib.hid (fun x s' w (hx : x < n) (h1 : s' ≤ 1000) h2 h3 => order2_any w0 b n cap c0 d x k l s' hx hk h1 w h2 h3)
  have HC3 := Lib.hid (fun x y s' w (hx : x < n) (hy : y < n) (h1 : s' ≤ 1000) h2 h3 => order2_any w0 b n cap c0 d x y l s' hx hy h1 w h2 h3)
  clear hR hS
  go_enter Tryz.func114, Tryz.ntmps114
  go_wp2_with fail
  refine HC1.out.mono ?_
  rintro e w1 ⟨x1, y1, s1, h1⟩
  obtain rfl := h1.ret
  have H1 := Lib.hid h1
  have m1 : x1 < n ∧ y1 < n := by rcases h1.xy with h | h <;> omega
  have t1 := h1.s
  clear h1
  go_wp2_with fail
  refine (HC2.out y1 s1 w1 m1.2 (by omega) H1.out.row H1.out.sw).mono ?_
  rintro e w2 ⟨x2, y2, s2, h2⟩
  obtain rfl := h2.ret
  have H2 := Lib.hid h2
  have m2 : x2 < n ∧ y2 < n := by rcases h2.xy with h | h <;> omega
  have t2 := h2.s
  clear h2
  go_wp2_with fail
  refine (HC3.out x1 x2 s2 w2 m1.1 m2.1 (by omega) H2.out.row H2.out.sw).mono ?_
  rintro e w3 ⟨x3, y3, s3, h3⟩
  obtain rfl := h3.ret
  have H3 := Lib.hid h3
  have t3 := h3.s
  clear h3
  go_wp2
  go_ret
  refine ⟨y3, s3, rfl, ?_, by omega, H3.out.row, H3.out.sw⟩
  have a1 := H1.out.xy
  have a2 := H2.out.xy
  have a3 := H3.out.xy
  omega
set_option maxRecDepth 100000 in
set_option maxHeartbeats 2000000 in
theorem pivot_any (w0 : World) (b n cap : Nat) (c0 : Array Value) (hn : n ≤ 100000) (d : Array Nat) (lo hi : Nat) (hlo : lo + 12 < hi) (hh : hi ≤ n) (h50 : hi < lo + 50) (w : World) (hR : Rw w0 b c0 n d w) :
    Calls Tryz.prog 104 #[.slice (some ⟨b, 0, none⟩) n cap, .int .i64 (lo : Int), .int .i64 (hi : Int)] w fun e w' => ∃ (x : Nat) (h : Int), e = .returned (.tuple #[.int .i64 (x : Int), .int .i64 h]) ∧ lo ≤ x ∧ x < hi ∧ (h = 0 ∨ h = 1) ∧ Rw w0 b c0 n d w' := by
  obtain ⟨m, hm⟩ : ∃ m, m = hi - lo := ⟨_, rfl⟩
  obtain ⟨q, hq⟩ : ∃ q, q = m / 4 := ⟨_, rfl⟩
  have e1 : (hi : Int) - (lo : Int) = (m : Int) := by omega
  have e2 : (m : Int) / 4 = (q : Int) := by omega
  have e3 : (lo : Int) + (q : Int) = ((lo + q : Nat) : Int) := by omega
  have e4 : (lo : Int) + (q : Int) * 2 = ((lo + 2 * q : Nat) : Int) := by omega
  have e5 : (lo : Int) + (q : Int) * 3 = ((lo + 3 * q : Nat) : Int) := by omega
  have hm8 : 8 ≤ (m : Int) := by omega
  have hm50 : ¬ 50 ≤ (m : Int) := by omega
  have hl1 : lo + 2 * q < hi := by omega
  have hl2 : lo + 3 * q < hi := by omega
  obtain ⟨l, hl⟩ : ∃ l, l = w.heap.size := ⟨_, rfl⟩
  obtain ⟨wa, hwa⟩ : ∃ wa, w.alloc (.cells #[.int .i64 0] 3) = wa := ⟨_, rfl⟩
  have hha : wa.heap[l]? = some (.cells #[.int .i64 0] 3 (0, 0)) := by rw [← hwa]; exact alloc_new _ _ hl
  have hS : Sw w0 l 0 wa := ⟨by rw [lit_cell hha]; rfl, lit_free hha 0, by rw [hl]; exact hR.kept.size⟩
  have hRa : Rw w0 b c0 n d wa := by rw [← hwa]; exact hR.alloc _
  have HC := Lib.hid (median_any w0 b n cap c0 d (lo + q) (lo + 2 * q) (lo + 3 * q) l 0 (by omega) (by omega) (by omega) (by omega) wa hRa hS)
  have HL := Lib.hid hl
  have HWA := Lib.hid hwa
  clear hm hq hl hwa hS hRa hR hha
  generalize lo + q = p1 at *
  generalize lo + 2 * q = p2 at *
  generalize lo + 3 * q = p3 at *
  go_enter Tryz.func104, Tryz.ntmps104
  go_wp2_with fail
  rw [HWA.out, ← HL.out]
  refine HC.out.mono ?_
  rintro e w1 ⟨x, s1, rfl, hx, hs1, hR1, hS1⟩
  have c1 := hS1.c
  have HR1 := Lib.hid hR1
  clear hR1 hS1
  by_cases hz : s1 = 0
  · subst hz
    rw [show (((0 : Nat) : Int)) = 0 from rfl] at c1
    go_wp2
    go_ret2
    exact ⟨x, 1, rfl, by omega, by omega, .inr rfl, HR1.out⟩
  · have z1 : ((s1 : Int) == 0) = false := by rw [beq_eq_false_iff_ne]; omega
    have z2 : ((s1 : Int) == 12) = false := by rw [beq_eq_false_iff_ne]; omega
    clear hz
    go_wp2
    go_ret2
    exact ⟨x, 0, rfl, by omega, by omega, .inl rfl, HR1.out⟩
end Go.Proofs.YtfghggfoncfhgaaGreatDoor
/- Parting a row by a pivot: the numbers; a row that is in order already. -/
namespace Go.Proofs.YtfghggfoncfhgaaGreatDoor
open Go.RowKit Go.Sort

/-- between lo and hi, the pivot p at lo: those ahead of i are left ones, those behind j are right ones -/
structure Prt (f : Nat → Bool) (lo hi p : Nat) (d0 : Array Nat) (i j : Nat) (dk : Array Nat) : Prop where
  size : dk.size = d0.size
  hs : hi ≤ d0.size
  perm : PermIn lo hi d0 dk
  piv : dk[lo]! = p
  left : ∀ t, lo < t → t < i → f dk[t]! = true
  right : ∀ t, j < t → t < hi → f dk[t]! = false
  li : lo < i
  ij : i ≤ j + 1
  jh : j < hi
theorem Prt.up {f : Nat → Bool} {lo hi p i j : Nat} {d0 dk : Array Nat} (h : Prt f lo hi p d0 i j dk) (hij : i ≤ j) (hl : f dk[i]! = true) : Prt f lo hi p d0 (i + 1) j dk :=
  ⟨h.size, h.hs, h.perm, h.piv, fun t h1 h2 => (Nat.lt_or_ge t i).elim (fun e => h.left t h1 e) (fun e => by rw [show t = i by omega]; exact hl), h.right, by have := h.li; omega, by omega, h.jh⟩
theorem Prt.down {f : Nat → Bool} {lo hi p i j : Nat} {d0 dk : Array Nat} (h : Prt f lo hi p d0 i j dk) (hij : i ≤ j) (hl : f dk[j]! = false) : Prt f lo hi p d0 i (j - 1) dk :=
  ⟨h.size, h.hs, h.perm, h.piv, h.left, fun t h1 h2 => (Nat.lt_or_ge j t).elim (fun e => h.right t e h2) (fun e => by rw [show t = j by omega]; exact hl), h.li, by have := h.li; omega, by have := h.jh; omega⟩
theorem Prt.swap {f : Nat → Bool} {lo hi p i j : Nat} {d0 dk : Array Nat} (h : Prt f lo hi p d0 i j dk) (hij : i ≤ j) (h1 : f dk[i]! = false) (h2 : f dk[j]! = true) : i < j ∧ Prt f lo hi p d0 (i + 1) (j - 1) (swp dk i j) := by
  have hne : i ≠ j := fun e => by rw [e, h2] at h1; cases h1
  have hl := h.li
  have hj := h.jh
  have hs := h.hs
  have hz := h.size
  have hg := fun k => swp_get dk (i := i) (j := j) (by omega) (by omega) k
  refine ⟨by omega, by rw [swp_size]; exact h.size, hs, permIn_trans _ _ _ _ _ h.perm (swp_permIn _ _ _ _ _ (by omega) (by omega) (by omega) (by omega) (by omega)), ?_, fun t t1 t2 => ?_, fun t t1 t2 => ?_, by omega, by omega, by omega⟩
  · rw [hg, if_neg (by omega), if_neg (by omega)]; exact h.piv
  · rw [hg, if_neg (by omega)]
    by_cases e : t = i
    · rw [if_pos e]; exact h2
    · rw [if_neg e]; exact h.left t t1 (by omega)
  · rw [hg]
    by_cases e : t = j
    · rw [if_pos e]; exact h1
    · rw [if_neg e, if_neg (by omega)]; exact h.right t (by omega) t2
/-- the pivot, brought between both -/
theorem Prt.last {f : Nat → Bool} {lo hi p i j : Nat} {d0 dk : Array Nat} (h : Prt f lo hi p d0 i j dk) (hij : j < i) :
    lo ≤ j ∧ PermIn lo hi d0 (swp dk j lo) ∧ (swp dk j lo)[j]! = p ∧ (∀ t, lo ≤ t → t < j → f (swp dk j lo)[t]! = true) ∧ (∀ t, j < t → t < hi → f (swp dk j lo)[t]! = false) := by
  have hl := h.li
  have hj := h.jh
  have hs := h.hs
  have hz := h.size
  have hq := h.ij
  have hg := fun k => swp_get dk (i := j) (j := lo) (by omega) (by omega) k
  refine ⟨by omega, permIn_trans _ _ _ _ _ h.perm (swp_permIn _ _ _ _ _ (by omega) (by omega) (by omega) (by omega) (by omega)), ?_, fun t t1 t2 => ?_, fun t t1 t2 => ?_⟩
  · rw [hg]
    by_cases e : j = lo
    · rw [if_pos e, e]; exact h.piv
    · rw [if_neg e, if_pos rfl]; exact h.piv
  · rw [hg]
    by_cases e : t = lo
    · rw [if_pos e]; exact h.left j (by omega) (by omega)
    · rw [if_neg e, if_neg (by omega)]; exact h.left t (by omega) (by omega)
  · rw [hg, if_neg (by omega), if_neg (by omega)]; exact h.right t t1 t2
/-- the beginning: the pivot is brought to lo -/
theorem Prt.start {f : Nat → Bool} {lo hi pv : Nat} {d : Array Nat} (h1 : lo ≤ pv) (h2 : pv < hi) (hs : hi ≤ d.size) : Prt f lo hi d[pv]! d (lo + 1) (hi - 1) (swp d lo pv) := by
  refine ⟨swp_size _ _ _, hs, swp_permIn _ _ _ _ _ (Nat.le_refl _) (by omega) h1 h2 hs, ?_, fun t t1 t2 => by omega, fun t t1 t2 => by omega, by omega, by omega, by omega⟩
  rw [swp_get d (by omega) (by omega)]
  by_cases e : lo = pv
  · rw [if_pos e, e]
  · rw [if_neg e, if_pos rfl]
theorem Srt.one (lo : Nat) (d : Array Nat) : Srt lo (lo + 1) d := fun p q h1 h2 h3 => by omega
theorem Srt.snoc {lo i : Nat} {d : Array Nat} (h : Srt lo i d) (hi : lo < i) (hl : d[i - 1]! ≤ d[i]!) : Srt lo (i + 1) d := fun p q h1 h2 h3 => by
  by_cases e : q = i
  · subst e
    by_cases e2 : p = q - 1
    · subst e2; exact hl
    · exact Nat.le_trans (h p (q - 1) h1 (by omega) (by omega)) hl
  · exact h p q h1 h2 (by omega)
set_option maxRecDepth 100000 in
set_option maxHeartbeats 2000000 in
theorem partial_any (w0 : World) (b n cap : Nat) (c0 : Array Value) (hn : n ≤ 100000) (d : Array Nat) (lo hi : Nat) (hlo : lo + 12 < hi) (hh : hi ≤ n) (h50 : hi < lo + 50) (w : World) (hR : Rw w0 b c0 n d w) :
    Calls Tryz.prog 106 #[.slice (some ⟨b, 0, none⟩) n cap, .int .i64 (lo : Int), .int .i64 (hi : Int)] w fun e w' => ∃ r : Bool, e = .returned (.bool r) ∧ (r = true → Srt lo hi d) ∧ Rw w0 b c0 n d w' := by
  have HR := Lib.hid hR
  have e50 : (hi : Int) - (lo : Int) < 50 := by omega
  have n1 : (n : Int) ≤ 100000 := by omega
  clear hR
  go_enter Tryz.func106, Tryz.ntmps106
  go_wp2
  refine wp_loop_rounds 1 ?_
  rw [rounds_succ]
  go_wp2
  go_loopw [7] (fun v wr => ∃ i : Nat, v = .int .i64 (i : Int) ∧ lo < i ∧ i ≤ hi ∧ Hid (Srt lo i d) ∧ Hid (Rw w0 b c0 n d wr)) (fun v _ => hi - (intOf v).toNat)
  case atStart => exact ⟨lo + 1, by go_num, by omega, by omega, Lib.hid (Srt.one lo d), HR⟩
  case round =>
    obtain ⟨i, rfl, hi1, hi2, HS, HD⟩ := hrel
    by_cases hie : i = hi
    · have hl : decide (i < hi) = false := by rw [decide_eq_false_iff_not]; omega
      have he : ((i : Int) == (hi : Int)) = true := by rw [hie]; simp
      have HE := Lib.hid (show Srt lo hi d from hie ▸ HS.out)
      clear hie
      go_wp2
      go_quiet (fail)
      have HD2 := Lib.hid (HD.out.drewN nq)
      generalize wr.drewN nq = v1 at *
      go_wp2
      go_ret
      exact ⟨true, rfl, fun _ => HE.out, HD2.out⟩
    · have hih : i < hi := by omega
      have hl : decide (i < hi) = true := by rw [decide_eq_true_iff]; omega
      have he : ((i : Int) == (hi : Int)) = false := by rw [beq_eq_false_iff_ne]; omega
      obtain ⟨x, hx⟩ : ∃ x, x = i - 1 := ⟨_, rfl⟩
      have e1 : IntKind.i64.wrap ((i : Int) - 1) = (x : Int) := by rw [IntWalk.i64_in _ (by omega)]; omega
      obtain ⟨y0, hy0⟩ : ∃ y, y = d[i]! := ⟨_, rfl⟩
      obtain ⟨y1, hy1⟩ : ∃ y, y = d[x]! := ⟨_, rfl⟩
      have f0 : wr.cell? ⟨b, i, none⟩ = some (.int .u64 (y0 : Int)) := by rw [hy0]; exact HD.out.cell i (by omega)
      have f1 : wr.cell? ⟨b, x, none⟩ = some (.int .u64 (y1 : Int)) := by rw [hy1]; exact HD.out.cell x (by omega)
      have b0 : (0 : Int) ≤ (i : Int) ∧ (i : Int) < (n : Int) := by omega
      have b1 : (0 : Int) ≤ (x : Int) ∧ (x : Int) < (n : Int) := by omega
      have HY0 := Lib.hid hy0
      have HY1 := Lib.hid hy1
      have HX := Lib.hid hx
      clear hy0 hy1 hx hie
      go_wp2
      go_quiet (first | (go_at_call 107; refine Calls.quiet_of_same ((less_any _ _ _).mono (fun e w' h => ⟨h.1, h.2.symm⟩))))
      have HD2 := Lib.hid (HD.out.drewN nq)
      generalize wr.drewN nq = v1 at *
      go_wp2
      · have hlt : ¬ y0 < y1 := by simpa using (‹(!decide (y0 < y1)) = true›)
        go_roundw
        case rel => exact ⟨i + 1, by go_num, by omega, by omega, Lib.hid (HS.out.snoc hi1 (by rw [← HX.out, ← HY0.out, ← HY1.out]; omega)), HD2⟩
        case measure => simp [intOf] <;> omega
      · go_ret
        exact ⟨false, rfl, (fun h => by cases h), HD2.out⟩
end Go.Proofs.YtfghggfoncfhgaaGreatDoor
