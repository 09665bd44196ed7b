/- The law's texts and slot: short lists, cut into new memory. -/
import Derived.Test.YtbkiijndhjmkdaaGreatDoorJ26
import Derived.Test.YtbkiijndhjmkdaaGreatDoorJ22
import Derived.Deep.RegionHeld3
import Derived.Deep.AppendLies
import Derived.Deep.RegionLaw
import Derived.Deep.Cut
import Derived.Test.YtbkiijndhjmkdaaGreatDoorJ25
namespace Go.Proofs.YtbkiijndhjmkdaaGreatDoor
open Go.RowKit

theorem Tryz.info9 : (Tryz.prog.info? 9).map (fun i => (i.zero, i.size, i.bytes)) = some (some (.string ⟨#[]⟩), 1, 16) := by kernel_rfl
def txtCells (L : List (List UInt8)) : List Value := L.map fun x => .string ⟨x.toArray⟩
def textsTo (L : List (List UInt8)) (k : Nat) : List (List UInt8) := (L.take k).map (·.take 40)
theorem text_cut (X : (List UInt8)) : (∃ m : Nat, min (X.length : Int) 40 = (m : Int) ∧ m ≤ X.length ∧ (⟨X.toArray⟩ : ByteArray).extract 0 m = ⟨(X.take 40).toArray⟩) := by
  refine ⟨min X.length 40, by omega, by omega, ?_⟩
  rw [extract_list, List.drop_zero]
  congr 2
  by_cases h : X.length ≤ 40
  · rw [Nat.min_eq_left h, List.take_of_length_le (Nat.le_refl _), List.take_of_length_le h]
  · rw [Nat.min_eq_right (by omega)]
theorem texts_snoc (L : List (List UInt8)) (k : Nat) (X : (List UInt8)) (h : k < L.length) (hX : L[k] = X) : txtCells (textsTo L k) ++ [.string ⟨(X.take 40).toArray⟩] = txtCells (textsTo L (k + 1)) := by
  subst hX
  rw [textsTo, textsTo, List.take_succ_eq_append_getElem h, List.map_append, txtCells, txtCells, List.map_append]
  rfl
theorem txt_of_owns {w : World} {B n : Nat} {v : Value} {TS : List (List UInt8)} (h : w.ownsRow B 9 1 v n (txtCells TS)) (hn : TS.length = n) : ∃ ao cp, v = .slice ao n cp ∧ Fresh B ao TS w := by
  obtain ⟨h1, h2⟩ := h
  rcases h2 with ⟨rfl, rfl⟩ | ⟨g, cap, cur, rfl, hg, hh, _, _, _, hc⟩
  · exact ⟨none, 0, rfl, .inl (List.eq_nil_of_length_eq_zero hn)⟩
  · refine ⟨_, cap, rfl, .inr ⟨g, rfl, hg, (Array.getElem?_eq_some_iff.1 hh).1, fun i hi => ?_⟩⟩
    have e : (cur.toList.take (n * 1))[i]? = (txtCells TS)[i]? := by rw [hc]
    rw [List.getElem?_take, if_pos (by omega), Array.getElem?_toList] at e
    rw [cell_of_row w g i cur 9 _ hh, e]
    simp [txtCells, hi]

theorem news_new (w : World) (l : List Value) (t : TypeId) : ∀ j u, l[j]? = some u → (w.alloc (.cells l.toArray t)).cell? ((⟨w.heap.size, 0, none⟩ : Addr).add j) = some u := by
  intro j u h
  rw [Addr.add_mid, Nat.zero_add, World.cell?_alloc_at (hn := rfl)]
  simpa using h
theorem Fresh.strs {lo : Nat} {ao : Option Addr} {L : List (List UInt8)} {w : World} (h : Fresh lo ao L w) : Strs ao L w := by
  rcases h with h | ⟨b, h1, h2, h3, h4⟩
  · exact .inl h
  · exact .inr ⟨b, 0, h1, h3, fun i hi => by rw [Nat.zero_add]; exact h4 i hi⟩
theorem Fresh.to {lo : Nat} {ao : Option Addr} {L : List (List UInt8)} {w w' : World} (h : Fresh lo ao L w) (hk : ∀ k, lo ≤ k → k < w.heap.size → w'.heap[k]? = w.heap[k]?) (hs : w.heap.size ≤ w'.heap.size) : Fresh lo ao L w' := by
  rcases h with h | ⟨b, h1, h2, h3, h4⟩
  · exact .inl h
  · exact .inr ⟨b, h1, h2, by omega, fun i hi => (World.cell?_of_block (a := ⟨b, i, none⟩) (hk b h2 h3)).trans (h4 i hi)⟩

set_option maxHeartbeats 400000 in
theorem texts_none (ao : Option Addr) (cap N : Nat) (w : World) :
    Calls Tryz.prog 51 #[.slice ao 0 cap, .int .i64 (N : Int)] w fun e w' => e = .returned (.slice none 0 0) ∧ w = w' := by
  go_enter Tryz.func51, Tryz.ntmps51
  go_wp2
  refine wp_loop_rounds 1 ?_
  rw [rounds_succ]
  go_wp2
  go_ret
  exact ⟨rfl, rfl⟩

set_option maxRecDepth 100000 in
set_option maxHeartbeats 1000000 in
theorem texts_some (b off cap N : Nat) (L : List (List UInt8)) (w : World) (hN : N ≤ 1000) (hL : L.length ≤ maxLen) (hl : ∀ i (h : i < L.length), L[i].length ≤ maxLen) (hb : b < w.heap.size)
    (hc : ∀ i (h : i < L.length), w.cell? ⟨b, off + i, none⟩ = some (.string ⟨L[i].toArray⟩)) :
    Calls Tryz.prog 51 #[.slice (some ⟨b, off, none⟩) L.length cap, .int .i64 (N : Int)] w fun e w' => ∃ v, e = .returned v ∧ w'.ownsRow w.heap.size 9 1 v (textsTo L N).length (txtCells (textsTo L N)) ∧ Below w.heap.size w w' := by
  obtain ⟨i0, hi, hz0, hz1, hz2⟩ := info_parts Tryz.info9
  unfold maxLen at hL
  have HC := Lib.hid hc
  have HL := Lib.hid hl
  clear hc hl
  go_enter Tryz.func51, Tryz.ntmps51
  go_wp2
  go_loopw [5, 6] (fun v i wr => ∃ k : Nat, k ≤ L.length ∧ k ≤ N ∧ i = .int .i64 (k : Int) ∧ wr.ownsRow w.heap.size 9 1 v k (txtCells (textsTo L k)) ∧ Below w.heap.size w wr)
    (fun _ i _ => L.length - (intOf i).toNat)
  case atStart => exact ⟨0, by omega, by omega, rfl, World.ownsRow_nil _ _ _ _, Below.refl _ _⟩
  case round =>
    obtain ⟨k, hk, hk20, rfl, hown, hbe⟩ := hrel
    have hz := hbe.size
    by_cases hlt : k < L.length ∧ k < N
    · obtain ⟨hlt1, hlt2⟩ := hlt
      have hlk := HL.out k hlt1
      unfold maxLen at hlk
      have hcell := (hbe.cell (p := ⟨b, off + k, none⟩) hb).trans (HC.out k hlt1)
      obtain ⟨X, hX⟩ : ∃ X, L[k] = X := ⟨_, rfl⟩
      have HO := Lib.hid (texts_snoc L k X hlt1 hX)
      rw [hX] at hlk hcell
      have HX := Lib.hid hX
      clear hX
      have k0 : (0 : Int) ≤ (k : Int) := by omega
      have k1 : (k : Int) < (L.length : Int) := by omega
      have k2 : (k : Int) < (N : Int) := by omega
      obtain ⟨m, hm1, hm2, hm3⟩ := text_cut X
      have m0 : (0 : Int) ≤ (m : Int) := by omega
      have m1 : (m : Int) ≤ (X.length : Int) := by omega
      have Hm3 := Lib.hid hm3
      clear hm3
      go_wp2
      have q1 : k + 1 ≤ maxLen := by unfold maxLen; omega
      have q2 : (k + 1) * 16 ≤ 140737488355328 := by omega
      have q3 : w.heap.size ≤ ((wr.alloc (Obj.cells #[Value.string ((⟨X.toArray⟩ : ByteArray).extract 0 m)] 9)).drew).heap.size := by simp; omega
      have q4 : ((wr.alloc (Obj.cells #[Value.string ((⟨X.toArray⟩ : ByteArray).extract 0 m)] 9)).drew).heap.size = wr.heap.size + 1 := by simp
      have Q1 := Lib.hid q1
      have Q2 := Lib.hid q2
      have Q3 := Lib.hid q3
      have Q4 := Lib.hid q4
      clear q1 q2 q3 q4
      go_region_law (refine step_append_lies _ (by rfl) (.tmp 18) (.tmp 30) 44 (by rfl) w.heap.size 9 i0 _ 1 16 Tryz.underlying44 hi hz0 hz1 hz2 rfl (by omega) u5 k _ (by rfl) ((hown.alloc _).drew) ⟨wr.heap.size, 0, none⟩ 1 1 [.string ((⟨X.toArray⟩ : ByteArray).extract 0 m)] (by rfl) (by rfl) (news_new wr _ _) (by simp [Value.oneCell']) (by omega) Q1.out Q2.out Q3.out (wr.heap.size + 1) Q4.out ?_; intro gg cp w1 hown1 hgrow hat hgl)
      all_goals
        rw [Hm3.out, HO.out] at hown1
        have hbe1 : Below w.heap.size w w1 := ((hbe.alloc hz _).drew).grown hgrow (by simp; omega) (fun k' e => (hown.lt k' e).1)
        clear hown hgrow hat
        go_wp2
        go_roundw
        case rel => exact ⟨k + 1, by omega, by omega, by go_num, hown1, hbe1⟩
        case measure => simp [intOf]; omega
    · have hfin : textsTo L N = textsTo L k := by
        by_cases h : k < N
        · have : k = L.length := by omega
          subst this
          rw [textsTo, textsTo, List.take_of_length_le (by omega), List.take_of_length_le (Nat.le_refl _)]
        · have : k = N := by omega
          rw [this]
      have hln : (textsTo L k).length = k := by rw [textsTo, List.length_map, List.length_take]; omega
      have HF := Lib.hid hfin
      have HN := Lib.hid hln
      clear hfin hln
      by_cases hlt1 : k < L.length
      · have hlt2 : ¬ (k : Int) < (N : Int) := by omega
        have k1 : (k : Int) < (L.length : Int) := by omega
        clear hlt
        go_wp2
        go_ret
        exact ⟨u5, rfl, by rw [HF.out, HN.out]; exact hown, hbe⟩
      · have k1 : ¬ (k : Int) < (L.length : Int) := by omega
        clear hlt
        go_wp2
        go_ret
        exact ⟨u5, rfl, by rw [HF.out, HN.out]; exact hown, hbe⟩
theorem texts_any (ao : Option Addr) (cap N : Nat) (L : List (List UInt8)) (w : World) (hN : N ≤ 1000) (hL : L.length ≤ maxLen) (hl : ∀ i (h : i < L.length), L[i].length ≤ maxLen) (hs : Strs ao L w) :
    Calls Tryz.prog 51 #[.slice ao L.length cap, .int .i64 (N : Int)] w fun e w' => ∃ ao' cp, e = .returned (.slice ao' (textsTo L N).length cp) ∧ Fresh w.heap.size ao' (textsTo L N) w' ∧ Below w.heap.size w w' := by
  rcases hs with rfl | ⟨b, off, rfl, hb, hc⟩
  · exact (texts_none ao cap N w).mono fun e w' ⟨he, hw⟩ => ⟨none, 0, by rw [he]; simp [textsTo], .inl (by simp [textsTo]), hw ▸ Below.refl _ _⟩
  · refine (texts_some b off cap N L w hN hL hl hb hc).mono fun e w' ⟨v, he, ho, hB⟩ => ?_
    obtain ⟨ao', cp, rfl, hr⟩ := txt_of_owns ho rfl
    exact ⟨ao', cp, he, hr, hB⟩

/-- a slot whose lists are short -/
def slotTo (x : SlotR) : SlotR := ⟨x.l, x.signed, ⟨x.sig.index, textsTo x.sig.wots 70, textsTo x.sig.path 20⟩⟩
set_option maxRecDepth 100000 in
set_option maxHeartbeats 1000000 in
theorem cutslot_any (x : SlotE) (w : World) (hM : SlotM x w) (hwl : x.r.sig.wots.length ≤ maxLen) (hwe : ∀ i (h : i < x.r.sig.wots.length), x.r.sig.wots[i].length ≤ maxLen) (hpl : x.r.sig.path.length ≤ maxLen) (hpe : ∀ i (h : i < x.r.sig.path.length), x.r.sig.path[i].length ≤ maxLen) :
    Calls Tryz.prog 18 #[slotV x] w fun e w' => (∃ y : SlotE, y.r = slotTo x.r ∧ e = .returned (slotV y) ∧ SlotM y w') ∧ Below w.heap.size w w' := by
  obtain ⟨⟨l, sg, ⟨ix, ws, ps⟩⟩, wa, wc, pa, pc⟩ := x
  obtain ⟨hws, hps⟩ := hM
  simp only at hws hps hwl hwe hpl hpe
  have hb0 : Below w.heap.size w ((w.alloc (.cells #[.int .u64 (l : Int), .bool sg, .int .u64 (ix : Int), .slice wa ws.length wc, .slice pa ps.length pc] 48)).alloc (.cells #[.int .u64 0, .bool false, .int .u64 0, .slice none 0 0, .slice none 0 0] 48)) := (by0 w _).alloc (by simp) _
  have hz0 : ((w.alloc (.cells #[.int .u64 (l : Int), .bool sg, .int .u64 (ix : Int), .slice wa ws.length wc, .slice pa ps.length pc] 48)).alloc (.cells #[.int .u64 0, .bool false, .int .u64 0, .slice none 0 0, .slice none 0 0] 48)).heap.size = w.heap.size + 1 + 1 := by simp
  have hx0 : ((w.alloc (.cells #[.int .u64 (l : Int), .bool sg, .int .u64 (ix : Int), .slice wa ws.length wc, .slice pa ps.length pc] 48)).alloc (.cells #[.int .u64 0, .bool false, .int .u64 0, .slice none 0 0, .slice none 0 0] 48)).heap[w.heap.size]? = some (.cells #[.int .u64 (l : Int), .bool sg, .int .u64 (ix : Int), .slice wa ws.length wc, .slice pa ps.length pc] 48 (0, 0)) := lit_old _ (heap_alloc_new w _)
  have hr0 : ((w.alloc (.cells #[.int .u64 (l : Int), .bool sg, .int .u64 (ix : Int), .slice wa ws.length wc, .slice pa ps.length pc] 48)).alloc (.cells #[.int .u64 0, .bool false, .int .u64 0, .slice none 0 0, .slice none 0 0] 48)).heap[w.heap.size + 1]? = some (.cells #[.int .u64 0, .bool false, .int .u64 0, .slice none 0 0, .slice none 0 0] 48 (0, 0)) := by
    rw [show w.heap.size + 1 = (w.alloc (.cells #[.int .u64 (l : Int), .bool sg, .int .u64 (ix : Int), .slice wa ws.length wc, .slice pa ps.length pc] 48)).heap.size by simp]; exact heap_alloc_new _ _
  have HB := Lib.hid hb0
  have HZ := Lib.hid hz0
  have HX := Lib.hid hx0
  have HR := Lib.hid hr0
  have HT1 := Lib.hid (fun (wz : World) (h : Strs wa ws wz) => texts_any wa wc 70 ws wz (by decide) hwl hwe h)
  have HT2 := Lib.hid (fun (wz : World) (h : Strs pa ps wz) => texts_any pa pc 20 ps wz (by decide) hpl hpe h)
  have HWS := Lib.hid hws
  have HPS := Lib.hid hps
  clear hb0 hz0 hx0 hr0 hwl hwe hpl hpe hws hps
  go_enter Tryz.func18, Tryz.ntmps18
  go_upto_region 1 with fail
  change Code.wp _ _ _ _ ((w.alloc (.cells #[.int .u64 (l : Int), .bool sg, .int .u64 (ix : Int), .slice wa ws.length wc, .slice pa ps.length pc] 48)).alloc (.cells #[.int .u64 0, .bool false, .int .u64 0, .slice none 0 0, .slice none 0 0] 48))
  generalize (w.alloc (.cells #[.int .u64 (l : Int), .bool sg, .int .u64 (ix : Int), .slice wa ws.length wc, .slice pa ps.length pc] 48)).alloc (.cells #[.int .u64 0, .bool false, .int .u64 0, .slice none 0 0, .slice none 0 0] 48) = w1 at *
  have hz := HZ.out
  have p3 := (lit_cell HX.out 3).trans rfl
  go_upto_region 2 with (go_at_call 51; refine (HT1.out _ (HWS.out.below (Nat.le_refl _) HB.out)).mono ?_; rintro e w2 ⟨ao, cp, rfl, hS1, hb2⟩; have hX2 := (hb2.block w.heap.size (by omega)).trans HX.out; have q3 := (lit_cell hX2 3).trans rfl; have f3 := lit_free hX2 3)
  have hz2 := hb2.size
  have hb02 := HB.out.trans (hb2.mono (by omega))
  have hR2 := (hb2.block (w.heap.size + 1) (by omega)).trans HR.out
  have hx3 := lit_set (k := 3) (.slice ao (textsTo ws 70).length cp) hX2
  have ho3 := Only.set w.heap.size 3 (.slice ao (textsTo ws 70).length cp) w2
  have hb03 := hb02.trans (ho3.below (Nat.le_refl _) hb02.size)
  have hS3 := hS1.to (fun k hk hl => ho3.block k hl (by omega)) ho3.size
  have hR3 := (ho3.block (w.heap.size + 1) (by omega) (by omega)).trans hR2
  have hz3 : (w2.setCell ⟨w.heap.size, 3, none⟩ (.slice ao (textsTo ws 70).length cp)).heap.size = w2.heap.size := by simp
  generalize w2.setCell ⟨w.heap.size, 3, none⟩ (.slice ao (textsTo ws 70).length cp) = w3 at *
  have p4 := (lit_cell hx3 4).trans rfl
  clear hS1 ho3 hX2 hR2 q3 f3 p3
  go_upto_region 3 with (go_at_call 51; refine (HT2.out _ (HPS.out.below (Nat.le_refl _) hb03)).mono ?_; rintro e w4 ⟨bo, dp, rfl, hS2, hb4⟩; have hX4 := (hb4.block w.heap.size (by omega)).trans hx3; have q4 := (lit_cell hX4 4).trans rfl; have f4 := lit_free hX4 4)
  have hz4 := hb4.size
  have hb04 := hb03.trans (hb4.mono (by omega))
  have hS4 := hS3.to (fun k hk hl => hb4.block k (by omega)) hb4.size
  have hR4 := (hb4.block (w.heap.size + 1) (by omega)).trans hR3
  have hx5 := lit_set (k := 4) (.slice bo (textsTo ps 20).length dp) hX4
  have ho5 := Only.set w.heap.size 4 (.slice bo (textsTo ps 20).length dp) w4
  have hb05 := hb04.trans (ho5.below (Nat.le_refl _) hb04.size)
  have hS5 := hS4.to (fun k hk hl => ho5.block k hl (by omega)) ho5.size
  have hT5 := hS2.to (fun k hk hl => ho5.block k hl (by omega)) ho5.size
  have hR5 := (ho5.block (w.heap.size + 1) (by omega) (by omega)).trans hR4
  have hz5 : (w4.setCell ⟨w.heap.size, 4, none⟩ (.slice bo (textsTo ps 20).length dp)).heap.size = w4.heap.size := by simp
  generalize w4.setCell ⟨w.heap.size, 4, none⟩ (.slice bo (textsTo ps 20).length dp) = w5 at *
  have a0 := (lit_cell hx5 0).trans rfl; have a1 := (lit_cell hx5 1).trans rfl; have a2 := (lit_cell hx5 2).trans rfl; have a3 := (lit_cell hx5 3).trans rfl; have a4 := (lit_cell hx5 4).trans rfl
  have b0 := (lit_cell hR5 0).trans rfl; have b1 := (lit_cell hR5 1).trans rfl; have b2 := (lit_cell hR5 2).trans rfl; have b3 := (lit_cell hR5 3).trans rfl; have b4 := (lit_cell hR5 4).trans rfl
  have f0 := lit_free hR5 0; have f1 := lit_free hR5 1; have f2 := lit_free hR5 2; have f3 := lit_free hR5 3; have f4' := lit_free hR5 4
  clear hS2 hS3 hS4 hR3 hR4 hX4 q4 f4 p4 ho5 HT1 HT2
  go_wp2
  have hx7 := lit_set (k := 4) (.slice bo (textsTo ps 20).length dp) (lit_set (k := 3) (.slice ao (textsTo ws 70).length cp) (lit_set (k := 2) (.int .u64 (ix : Int)) (lit_set (k := 1) (.bool sg) (lit_set (k := 0) (.int .u64 (l : Int)) (hR5)))))
  have ho7 := ((((Only.set (w.heap.size + 1) 0 (.int .u64 (l : Int)) w5).trans (Only.set (w.heap.size + 1) 1 (.bool sg) _)).trans (Only.set (w.heap.size + 1) 2 (.int .u64 (ix : Int)) _)).trans (Only.set (w.heap.size + 1) 3 (.slice ao (textsTo ws 70).length cp) _)).trans (Only.set (w.heap.size + 1) 4 (.slice bo (textsTo ps 20).length dp) _)
  have hb07 := hb05.trans (ho7.below (by omega) hb05.size)
  have hS7 := (hS5.to (fun k hk hl => ho7.block k hl (by omega)) ho7.size).strs
  have hT7 := (hT5.to (fun k hk hl => ho7.block k hl (by omega)) ho7.size).strs
  generalize (((((w5).setCell ⟨w.heap.size + 1, 0, none⟩ (.int .u64 (l : Int))).setCell ⟨w.heap.size + 1, 1, none⟩ (.bool sg)).setCell ⟨w.heap.size + 1, 2, none⟩ (.int .u64 (ix : Int))).setCell ⟨w.heap.size + 1, 3, none⟩ (.slice ao (textsTo ws 70).length cp)).setCell ⟨w.heap.size + 1, 4, none⟩ (.slice bo (textsTo ps 20).length dp) = w7 at *
  have z0 := (lit_cell hx7 0).trans rfl; have z1 := (lit_cell hx7 1).trans rfl; have z2 := (lit_cell hx7 2).trans rfl; have z3 := (lit_cell hx7 3).trans rfl; have z4 := (lit_cell hx7 4).trans rfl
  refine bodyPost_ret (v := slotV ⟨slotTo ⟨l, sg, ⟨ix, ws, ps⟩⟩, ao, cp, bo, dp⟩) (by simp [results, Tryz.results18, go_sem, z0, z1, z2, z3, z4, slotTo]) rfl ⟨⟨_, rfl, rfl, ⟨hS7, hT7⟩⟩, hb07⟩
end Go.Proofs.YtbkiijndhjmkdaaGreatDoor
/- Reading, as the law asks: what was laid, and any bytes. -/
namespace Go.Proofs.YtbkiijndhjmkdaaGreatDoor
open Go.RowKit

theorem ErrV.shape0 {lo : Nat} {c a : Int} {v : Value} {w : World} (h : ErrV lo c a v w) (hc : c ≠ 0) : ∃ g, v = .iface 106 (.pointer (some ⟨g, 0, none⟩)) := by
  unfold ErrV at h
  rw [if_neg hc] at h
  obtain ⟨g, _, h1, _⟩ := h
  exact ⟨g, h1⟩

theorem rpart_back (p : PartR) (w : World) (hG : GlobW w) (hI : PartIn p) (h : (layPartP p).2 = 0) (hgl : 4 ≤ w.heap.size) :
    Calls Tryz.prog 14 #[.string ⟨(layPartP p).1.toArray⟩] w fun e w' => e = .returned (.tuple #[partV p, .nilIface]) ∧ Below w.heap.size w w' := by
  refine (wreadPart_any _ w hG (by have := part_len p; omega) hgl).mono fun e w' hA => ?_
  rw [AnsPart, part_again hI h] at hA
  exact hA
theorem rpart_any (S : (List UInt8)) (w : World) (hG : GlobW w) (hS : S.length ≤ 1000000) (hgl : 4 ≤ w.heap.size) :
    Calls Tryz.prog 14 #[.string ⟨S.toArray⟩] w fun e w' => Below w.heap.size w w' ∧ ∃ p, (e = .returned (.tuple #[partV p, .nilIface]) ∧ PartIn p ∧ layPartP p = (S, 0)) ∨ ∃ g, e = .returned (.tuple #[partV p, .iface 106 (.pointer (some ⟨g, 0, none⟩))]) := by
  refine (wreadPart_any _ w hG hS hgl).mono fun e w' hA => ?_
  rw [AnsPart] at hA
  rcases hr : wholeG partC.get S with ⟨c, b⟩ | q
  · rw [hr] at hA
    obtain ⟨hc, ⟨v, rfl, hv⟩, hb⟩ := hA
    obtain ⟨g, rfl⟩ := hv.shape0 (by omega)
    exact ⟨hb, zPart, .inr ⟨g, rfl⟩⟩
  · rw [hr] at hA
    obtain ⟨rfl, hb⟩ := hA
    exact ⟨hb, q, .inl ⟨rfl, part_laid hr⟩⟩
theorem rmsg_back (p : MsgR) (w : World) (hG : GlobW w) (hI : MsgIn p) (h : (layMsgP p).2 = 0) (hgl : 4 ≤ w.heap.size) :
    Calls Tryz.prog 34 #[.string ⟨(layMsgP p).1.toArray⟩] w fun e w' => e = .returned (.tuple #[msgV p, .nilIface]) ∧ Below w.heap.size w w' := by
  refine (wreadMsg_any _ w hG (by have := msg_len p; omega) hgl).mono fun e w' hA => ?_
  rw [AnsMsg, msg_again hI h] at hA
  exact hA
theorem rmsg_any (S : (List UInt8)) (w : World) (hG : GlobW w) (hS : S.length ≤ 1000000) (hgl : 4 ≤ w.heap.size) :
    Calls Tryz.prog 34 #[.string ⟨S.toArray⟩] w fun e w' => Below w.heap.size w w' ∧ ∃ p, (e = .returned (.tuple #[msgV p, .nilIface]) ∧ MsgIn p ∧ layMsgP p = (S, 0)) ∨ ∃ g, e = .returned (.tuple #[msgV p, .iface 106 (.pointer (some ⟨g, 0, none⟩))]) := by
  refine (wreadMsg_any _ w hG hS hgl).mono fun e w' hA => ?_
  rw [AnsMsg] at hA
  rcases hr : wholeG msgC.get S with ⟨c, b⟩ | q
  · rw [hr] at hA
    obtain ⟨hc, ⟨v, rfl, hv⟩, hb⟩ := hA
    obtain ⟨g, rfl⟩ := hv.shape0 (by omega)
    exact ⟨hb, zMsg, .inr ⟨g, rfl⟩⟩
  · rw [hr] at hA
    obtain ⟨rfl, hb⟩ := hA
    exact ⟨hb, q, .inl ⟨rfl, msg_laid hr⟩⟩
theorem rhdr_back (p : HdrR) (w : World) (hG : GlobW w) (hI : p.round < 18446744073709551616) (h : (layHdrP p).2 = 0) (hgl : 4 ≤ w.heap.size) :
    Calls Tryz.prog 36 #[.string ⟨(layHdrP p).1.toArray⟩] w fun e w' => e = .returned (.tuple #[hdrV p, .nilIface]) ∧ Below w.heap.size w w' := by
  refine (wreadHeader_any _ w hG (by have := hdr_len p; omega) hgl).mono fun e w' hA => ?_
  rw [AnsHeader, hdr_again hI h] at hA
  exact hA
theorem rhdr_any (S : (List UInt8)) (w : World) (hG : GlobW w) (hS : S.length ≤ 1000000) (hgl : 4 ≤ w.heap.size) :
    Calls Tryz.prog 36 #[.string ⟨S.toArray⟩] w fun e w' => Below w.heap.size w w' ∧ ∃ p, (e = .returned (.tuple #[hdrV p, .nilIface]) ∧ p.round < 18446744073709551616 ∧ layHdrP p = (S, 0)) ∨ ∃ g, e = .returned (.tuple #[hdrV p, .iface 106 (.pointer (some ⟨g, 0, none⟩))]) := by
  refine (wreadHeader_any _ w hG hS hgl).mono fun e w' hA => ?_
  rw [AnsHeader] at hA
  rcases hr : wholeG hdrC.get S with ⟨c, b⟩ | q
  · rw [hr] at hA
    obtain ⟨hc, ⟨v, rfl, hv⟩, hb⟩ := hA
    obtain ⟨g, rfl⟩ := hv.shape0 (by omega)
    exact ⟨hb, zHdr, .inr ⟨g, rfl⟩⟩
  · rw [hr] at hA
    obtain ⟨rfl, hb⟩ := hA
    exact ⟨hb, q, .inl ⟨rfl, hdr_laid hr⟩⟩
theorem rslot_back (x : SlotR) (w : World) (hG : GlobW w) (hI : SlotIn x) (h : (laySlotP x).2 = 0) (hgl : 4 ≤ w.heap.size) :
    Calls Tryz.prog 21 #[.string ⟨(laySlotP x).1.toArray⟩] w fun e w' => (∃ y : SlotE, y.r = x ∧ e = .returned (.tuple #[slotV y, .nilIface]) ∧ SlotM y w') ∧ Below w.heap.size w w' := by
  refine (wreadSlot_any _ w hG (by have := slot_len x; omega) hgl).mono fun e w' hA => ?_
  rw [AnsSlot, slot_again hI h] at hA
  obtain ⟨⟨y, hy, he, h1, h2⟩, hb⟩ := hA
  exact ⟨⟨y, hy, he, ⟨hy ▸ h1.strs, hy ▸ h2.strs⟩⟩, hb⟩
theorem rslot_any (S : (List UInt8)) (w : World) (hG : GlobW w) (hS : S.length ≤ 1000000) (hgl : 4 ≤ w.heap.size) :
    Calls Tryz.prog 21 #[.string ⟨S.toArray⟩] w fun e w' => Below w.heap.size w w' ∧ ∃ y : SlotE, (e = .returned (.tuple #[slotV y, .nilIface]) ∧ SlotIn y.r ∧ laySlotP y.r = (S, 0) ∧ SlotM y w') ∨ ∃ g, e = .returned (.tuple #[slotV y, .iface 106 (.pointer (some ⟨g, 0, none⟩))]) := by
  refine (wreadSlot_any _ w hG hS hgl).mono fun e w' hA => ?_
  rw [AnsSlot] at hA
  rcases hr : wholeG slotC.get S with ⟨c, b⟩ | q
  · rw [hr] at hA
    obtain ⟨hc, ⟨v, rfl, hv⟩, hb⟩ := hA
    obtain ⟨g, rfl⟩ := hv.shape0 (by omega)
    exact ⟨hb, ⟨zSlot, none, 0, none, 0⟩, .inr ⟨g, rfl⟩⟩
  · rw [hr] at hA
    obtain ⟨⟨y, hy, he, h1, h2⟩, hb⟩ := hA
    subst hy
    obtain ⟨h3, h4⟩ := slot_laid hr
    exact ⟨hb, y, .inl ⟨he, h3, h4, ⟨h1.strs, h2.strs⟩⟩⟩
end Go.Proofs.YtbkiijndhjmkdaaGreatDoor
