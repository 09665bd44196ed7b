/- A tree's places: a leaf, a node, a side. -/
import Derived.Test.YtfghggfoncfhgaaGreatDoorJ17
import Derived.Deep.Cut
import Derived.Deep.RegionHeld3
import Derived.Shelf.Bits.Mul64
import Derived.Test.YtfghggfoncfhgaaGreatDoorProg
import Derived.Laws.MakeOwn
import Derived.Laws.CopyOwn
import Derived.Test.YtfghggfoncfhgaaGreatDoorJ4
namespace Go.Proofs.YtfghggfoncfhgaaGreatDoor
open Go.RowKit

theorem tleaf_any (e : (List UInt8)) (w : World) (hg : Glob w) (he : e.length ≤ 10000000) :
    Calls Tryz.prog 31 #[.string ⟨e.toArray⟩] w fun r w' => ∃ b, r = .returned (.pointer (some ⟨b, 0, none⟩)) ∧ w'.heap[b]? = some (.cells #[.string ⟨(hashL leafT [e]).toArray⟩, .pointer none, .pointer none] 65 (0, 0)) ∧ w.heap.size ≤ b ∧ Below w.heap.size w w' := by
  have hsz := hg.size
  have HH := Lib.hid (fun w' hg' hs' => hash_any leafT (some ⟨w.heap.size, 0, none⟩) 1 [e] w' hg' hs' (by decide) (Nat.lt_of_lt_of_le (framed_short leafT [e] (by decide) (by simpa using he) (by simp)) (by decide)))
  clear he
  go_enter Tryz.func31, Tryz.ntmps31
  go_wp2_with fail
  have hb0 : Below w.heap.size w (w.alloc (.cells #[.string ⟨e.toArray⟩] 9)) := by0 w _
  refine (HH.out _ (hg.below (by omega) hb0) (strs_new w [e] _ rfl)).mono ?_
  rintro r w1 ⟨rfl, hb1⟩
  have hB1 : Below w.heap.size w w1 := hb0.trans (hb1.mono (by simp))
  have s1 := hB1.size
  clear hb0 hb1 HH
  go_wp2
  go_ret
  exact ⟨w1.heap.size, rfl, heap_alloc_new w1 _, s1, hB1.alloc s1 _⟩

/-- a place's digest, and the rest of it -/
def PlaceAt (w : World) (b : Nat) (D : (List UInt8)) : Prop := ∃ x y, w.heap[b]? = some (.cells #[.string ⟨D.toArray⟩, .pointer x, .pointer y] 65 (0, 0))
/-- what stands while a node is made -/
abbrev NdS (B x y : Nat) (D E : (List UInt8)) (w1 wz : World) : Prop := wz.cell? ⟨B, 0, none⟩ = some (.pointer (some ⟨x, 0, none⟩)) ∧ wz.cell? ⟨B, 1, none⟩ = some (.pointer (some ⟨y, 0, none⟩)) ∧ wz.cell? ⟨x, 0, none⟩ = some (.string ⟨D.toArray⟩) ∧ wz.cell? ⟨y, 0, none⟩ = some (.string ⟨E.toArray⟩) ∧ Below w1.heap.size w1 wz
theorem nd_next {B x y : Nat} {D E : (List UInt8)} {w1 wz wa : World} (h : NdS B x y D E w1 wz) (hb : Below wz.heap.size wz wa) : NdS B x y D E w1 wa := by
  obtain ⟨h1, h2, h3, h4, h5⟩ := h
  have k : ∀ {c o : Nat} {v : Value}, wz.cell? ⟨c, o, none⟩ = some v → wa.cell? ⟨c, o, none⟩ = some v := fun hc => (World.cell?_of_block (hb.block _ (World.block_lt_of_cell? wz _ hc))).trans hc
  exact ⟨k h1, k h2, k h3, k h4, h5.trans (hb.mono h5.size)⟩
theorem nd_alloc {B x y : Nat} {D E : (List UInt8)} {w1 wz : World} (h : NdS B x y D E w1 wz) (o : Obj) : NdS B x y D E w1 (wz.alloc o) := nd_next h (by0 wz o)
theorem nd_drew {B x y : Nat} {D E : (List UInt8)} {w1 wz : World} (h : NdS B x y D E w1 wz) : NdS B x y D E w1 wz.drew := nd_next h (Below.refl _ _).drew
theorem strs_drew {ao : Option Addr} {L : List (List UInt8)} {w : World} (h : Strs ao L w) : Strs ao L w.drew := h.below (Nat.le_refl _) (Below.refl _ _).drew
set_option maxHeartbeats 1000000 in
theorem tnode_any (x y : Nat) (D E : (List UInt8)) (w : World) (hg : Glob w) (hx : PlaceAt w x D) (hy : PlaceAt w y E) (hD : D.length ≤ 32) (hE : E.length ≤ 32) :
    Calls Tryz.prog 34 #[.agg #[.pointer (some ⟨x, 0, none⟩), .pointer (some ⟨y, 0, none⟩)]] w fun r w' => ∃ b, r = .returned (.pointer (some ⟨b, 0, none⟩)) ∧ w'.heap[b]? = some (.cells #[.string ⟨(hashL nodeT [D, E]).toArray⟩, .pointer (some ⟨x, 0, none⟩), .pointer (some ⟨y, 0, none⟩)] 65 (0, 0)) ∧ w.heap.size ≤ b ∧ Below w.heap.size w w' := by
  have hsz := hg.size
  obtain ⟨x1, x2, hx⟩ := hx
  obtain ⟨y1, y2, hy⟩ := hy
  have HH := Lib.hid (fun b w' hg' hs' => hash_any nodeT (some ⟨b, 0, none⟩) 2 [D, E] w' hg' hs' (by decide) (Nat.lt_of_lt_of_le (framed_short nodeT [D, E] (by decide) (by intro z hz; simp at hz; rcases hz with rfl | rfl <;> omega) (by simp)) (by decide)))
  have HG := Lib.hid hg
  have hp := heap_alloc_new w (.cells #[.pointer (some ⟨x, 0, none⟩), .pointer (some ⟨y, 0, none⟩)] 63)
  have hb0 := by0 w (.cells #[.pointer (some ⟨x, 0, none⟩), .pointer (some ⟨y, 0, none⟩)] 63)
  have hxw := (hb0.block x (lit_lt hx)).trans hx
  have hyw := (hb0.block y (lit_lt hy)).trans hy
  have HZ : Hid ((w.alloc (.cells #[.pointer (some ⟨x, 0, none⟩), .pointer (some ⟨y, 0, none⟩)] 63)).heap.size = w.heap.size + 1) := Lib.hid (by simp)
  have HB := Lib.hid hb0
  clear hx hy hD hE hb0
  go_enter Tryz.func34, Tryz.ntmps34
  go_upto_region 1 with fail
  change Code.wp _ _ _ _ (w.alloc (.cells #[.pointer (some ⟨x, 0, none⟩), .pointer (some ⟨y, 0, none⟩)] 63))
  generalize w.alloc (.cells #[.pointer (some ⟨x, 0, none⟩), .pointer (some ⟨y, 0, none⟩)] 63) = w1 at *
  have p0 := (lit_cell hp 0).trans rfl
  have p1 := (lit_cell hp 1).trans rfl
  have c0 := (lit_cell hxw 0).trans rfl
  have d0 := (lit_cell hyw 0).trans rfl
  have hS0 : NdS w.heap.size x y D E w1 w1 := ⟨p0, p1, c0, d0, Below.refl _ _⟩

  have HG1 := Lib.hid (fun wz (h : NdS w.heap.size x y D E w1 wz) => HG.out.below (w' := wz) (B := 2) (by omega) ((HB.out.mono (by omega)).trans (h.2.2.2.2.mono (by have := HZ.out; omega))))
  clear HG
  go_region_held3 (fun w' => w'.cell? ⟨w.heap.size, 0, none⟩ = some (.pointer (some ⟨x, 0, none⟩)) ∧ w'.cell? ⟨w.heap.size, 1, none⟩ = some (.pointer (some ⟨y, 0, none⟩)) ∧ w'.cell? ⟨x, 0, none⟩ = some (.string ⟨D.toArray⟩) ∧ w'.cell? ⟨y, 0, none⟩ = some (.string ⟨E.toArray⟩) ∧ Below w1.heap.size w1 w')
    (first | (with_reducible assumption) | (with_reducible refine nd_alloc ?_ _; with_reducible assumption) | (with_reducible refine nd_drew ?_; with_reducible assumption) | (with_reducible refine nd_drew (nd_alloc ?_ _); with_reducible assumption) | (with_reducible refine nd_next ?_ hb2; with_reducible assumption) | (with_reducible refine nd_drew (nd_next ?_ hb2); with_reducible assumption))
    (first
      | (go_at_call 26; refine (HH.out _ _ (HG1.out _ (by with_reducible assumption)) (by first | exact strs_new _ [D, E] _ rfl | exact strs_drew (strs_new _ [D, E] _ rfl))).mono ?_; rintro r w2 ⟨rfl, hb2⟩))
  all_goals
    go_wp2
    go_ret
    refine ⟨w2.heap.size, rfl, heap_alloc_new w2 _, ?_, ?_⟩
    · have h5 : NdS w.heap.size x y D E w1 (w2.alloc (.cells #[.string ⟨(hashL nodeT [D, E]).toArray⟩, .pointer (some ⟨x, 0, none⟩), .pointer (some ⟨y, 0, none⟩)] 65)) := by with_reducible assumption
      have hq := h5.2.2.2.2.size
      have := HZ.out
      simp only [World.size_alloc] at hq
      omega
    · have h5 : NdS w.heap.size x y D E w1 (w2.alloc (.cells #[.string ⟨(hashL nodeT [D, E]).toArray⟩, .pointer (some ⟨x, 0, none⟩), .pointer (some ⟨y, 0, none⟩)] 65)) := by with_reducible assumption
      exact HB.out.trans (h5.2.2.2.2.mono (by have := HZ.out; omega))
theorem side_any (k below : Nat) (hk : k < 18446744073709551616) (hb : below < 64) (w : World) : Calls Tryz.prog 38 #[.int .u64 (k : Int), .int .i64 (below : Int)] w fun e w' => e = .returned (.int .u64 ((k / 2 ^ below % 2 : Nat) : Int)) ∧ w = w' := by
  have hlt : k / 2 ^ below < 18446744073709551616 := Nat.lt_of_le_of_lt (Nat.div_le_self _ _) hk
  have h1 : bits .and .u64 ((k / 2 ^ below : Nat) : Int) ((1 : Nat) : Int) = ((k / 2 ^ below &&& 1 : Nat) : Int) := u64_and_nat _ 1 hlt (by decide)
  rw [Nat.and_one_is_mod] at h1
  have h2 : (k : Int) / (2 : Int) ^ below = ((k / 2 ^ below : Nat) : Int) := by simp
  have HE := Lib.hid h1
  have HE2 := Lib.hid h2
  clear h1 h2 hlt
  go_enter Tryz.func38, Tryz.ntmps38
  go_wp2
  go_ret
  refine ⟨?_, rfl⟩
  rw [← HE.out, ← HE2.out]
  simp
end Go.Proofs.YtfghggfoncfhgaaGreatDoor
/- The library's contract of Mul64, laid at this program by name. -/
namespace Go.Proofs
open Go.Shelf
def Tryz.lays264_ren : Go.Shelf.Ren := ⟨fun | 264 => 75 | n => n, fun | 53 => 23 | 46 => 82 | n => n, fun | n => n⟩
theorem Tryz.lays264 : Go.Proofs.Lays.n264 Tryz.prog Tryz.lays264_ren := {
  mixed := by kernel_rfl
  f264 := Tryz.func75.trans (congrArg some (by kernel_rfl))
  t46 := Tryz.underlying82
  a46 := Tryz.isAgg82
  z46 := Tryz.sizeOf82
  v46 := Tryz.zeroValue82
  t53 := Tryz.underlying23
  a53 := Tryz.isAgg23
  z53 := Tryz.sizeOf23
  v53 := Tryz.zeroValue23 }
open Go.RowKit Go.Lib in
theorem Tryz.bits_Mul64 (x y : Nat) (hx : x < 18446744073709551616) (hy : y < 18446744073709551616) (w : World) :
    Calls Tryz.prog 75 #[.int .u64 x, .int .u64 y] w fun e w' => e = .returned (.tuple #[.int .u64 ((x * y / 18446744073709551616 : Nat) : Int), .int .u64 ((x * y % 18446744073709551616 : Nat) : Int)]) ∧ w' = w := Any.bits_Mul64 Tryz.lays264 x y hx hy w
end Go.Proofs
/- slices.Repeat of one place. -/
namespace Go.Proofs.YtfghggfoncfhgaaGreatDoor
open Go.RowKit

theorem bmul_any (x y : Nat) (h : x * y < 18446744073709551616) (hx : x < 18446744073709551616) (hy : y < 18446744073709551616) (w : World) : Calls Tryz.prog 51 #[.int .u64 (x : Int), .int .u64 (y : Int)] w fun e w' => e = .returned (.tuple #[.int .u64 0, .int .u64 ((x * y : Nat) : Int)]) ∧ w = w' := by
  have HC := Lib.hid (show Calls Tryz.prog 75 #[.int .u64 x, .int .u64 y] w fun e w' => e = .returned (.tuple #[.int .u64 0, .int .u64 ((x * y : Nat) : Int)]) ∧ w' = w from by
    have h1 := Tryz.bits_Mul64 x y hx hy w
    rw [Nat.div_eq_of_lt h, Nat.mod_eq_of_lt h] at h1
    exact h1)
  clear h hx hy
  generalize ((x * y : Nat) : Int) = z at *
  go_enter Tryz.func51, Tryz.ntmps51
  go_wp2_with (go_at_call 75; refine HC.out.mono ?_; rintro e w' ⟨rfl, rfl⟩)
  exact bodyPost_ret (v := .tuple #[.int .u64 0, .int .u64 z]) (by simp [results, Tryz.results51, go_sem]) rfl ⟨rfl, rfl⟩

theorem made_nil (n : Nat) (p : Value) : madeCells (Value.pointer none).cells n = (List.replicate 0 p ++ List.replicate (n - 0) (Value.pointer none)).toArray := by
  apply Array.ext
  · simp [madeCells]
  · intro i h1 h2
    simp [madeCells, Value.cells, Nat.mod_one]
def repL (n m : Nat) (p : Value) : List Value := List.replicate m p ++ List.replicate (n - m) (.pointer none)
theorem repL_len {n m : Nat} (h : m ≤ n) (p : Value) : (repL n m p).length = n := by simp [repL]; omega
theorem repL_splice {n m c : Nat} (p : Value) (h : m + c ≤ n) : splice (repL n m p) m (List.replicate c p) = repL n (m + c) p := by
  unfold splice repL
  rw [List.take_append_of_le_length (by simp), List.take_of_length_le (by simp), List.length_replicate, List.drop_append, List.drop_of_length_le (by simp), List.length_replicate, List.nil_append, List.drop_replicate, ← List.append_assoc, List.replicate_append_replicate]
  all_goals (congr 2; omega)
theorem repL_get {n m j : Nat} (p : Value) (h : j < m) : (repL n m p)[j]? = some p := by
  unfold repL
  rw [List.getElem?_append_left (by simpa using h)]
  simp [h]
theorem rep_step {B n k p : Nat} {w wr : World} (h : wr.heap[B]? = some (.cells (repL n k (.pointer (some ⟨p, 0, none⟩))).toArray 43 (0, 0))) (hb : Below B w wr) (h1 : 1 ≤ k) (h2 : k < n) :
    ∃ (c : Nat) (w3 : World), 1 ≤ c ∧ k + c ≤ n ∧ (Builtin.copy_ #[40, 40] 3 #[.slice (some ⟨B, k, none⟩) (n - k) (n - k), .slice (some ⟨B, 0, none⟩) k n]).run Tryz.prog wr = .ok (.int .i64 (c : Int)) w3 ∧ Hid (w3.heap[B]? = some (.cells (repL n (k + c) (.pointer (some ⟨p, 0, none⟩))).toArray 43 (0, 0)) ∧ Below B w w3) := by
  have hsz : (Tryz.prog.info? 43).map (·.size) = some 1 := by kernel_rfl
  have hrun := run_copy_row (P := Tryz.prog) wr 40 40 3 43 B k (n - k) (n - k) ⟨B, 0, none⟩ k n (repL n k (.pointer (some ⟨p, 0, none⟩))).toArray 43 (List.replicate (min k (n - k)) (.pointer (some ⟨p, 0, none⟩))) Tryz.underlying40 hsz h (by rw [List.length_replicate]) (fun j v hj => by
    have hlt := (List.getElem?_eq_some_iff.1 hj).1
    rw [List.length_replicate] at hlt
    rw [List.getElem?_replicate, if_pos hlt] at hj
    cases hj
    rw [Addr.add_mid, lit_cell h, Nat.zero_add, List.getElem?_toArray]
    exact repL_get _ (by omega)) (by rw [List.size_toArray, repL_len (by omega), List.length_replicate]; omega) (by intro v hv; rw [List.eq_of_mem_replicate hv]; rfl)
  rw [List.append_assoc] at hrun
  have hrow := setRow_heap wr B _ (splice (repL n k (.pointer (some ⟨p, 0, none⟩))) k (List.replicate (min k (n - k)) (.pointer (some ⟨p, 0, none⟩)))).toArray 43 _ h
  have hbl := below_setRow hb (Nat.le_refl _) (splice (repL n k (.pointer (some ⟨p, 0, none⟩))) k (List.replicate (min k (n - k)) (.pointer (some ⟨p, 0, none⟩)))).toArray
  have hsp := repL_splice (n := n) (m := k) (c := min k (n - k)) (.pointer (some ⟨p, 0, none⟩)) (by omega)
  rw [hsp] at hrow hbl
  refine ⟨min k (n - k), _, by omega, by omega, ?_, Lib.hid ⟨hrow, hbl⟩⟩
  rw [← hsp]
  unfold splice
  simp only [List.length_replicate] at hrun ⊢
  exact hrun
set_option maxRecDepth 100000 in
set_option maxHeartbeats 1000000 in
theorem repeat_any (sb p n : Nat) (w : World) (hn : 1 ≤ n ∧ n ≤ 65536) (hc : w.cell? ⟨sb, 0, none⟩ = some (.pointer (some ⟨p, 0, none⟩))) :
    Calls Tryz.prog 30 #[.slice (some ⟨sb, 0, none⟩) 1 1, .int .i64 (n : Int)] w fun e w' => ∃ B, e = .returned (.slice (some ⟨B, 0, none⟩) n n) ∧ w.heap.size ≤ B ∧ w'.heap[B]? = some (.cells (repL n n (.pointer (some ⟨p, 0, none⟩))).toArray 43 (0, 0)) ∧ Below w.heap.size w w' := by
  obtain ⟨i0, hi, hz0, hz1, hz2⟩ := info_parts (show (Tryz.prog.info? 43).map (fun i => (i.zero, i.size, i.bytes)) = some (some (.pointer none), 1, 8) by kernel_rfl)
  have hsz : (Tryz.prog.info? 43).map (·.size) = some 1 := by kernel_rfl
  have hm : (Instr.makeSlice 40 (.int .i64 (n : Int)) (.int .i64 (n : Int))).run Tryz.prog w = .ok (.slice (some ⟨w.heap.size, 0, none⟩) n n) (w.alloc (.cells (repL n 0 (.pointer (some ⟨p, 0, none⟩))).toArray 43)) := by
    have h := run_make (P := Tryz.prog) w 40 43 i0 (.pointer none) Tryz.underlying40 hi hz0 .i64 .i64 (n : Int) (n : Int) (by omega) (by omega) (by rw [hz2]; omega) (by omega)
    rw [h, hz1]
    rw [made_nil, Int.toNat_natCast, Nat.mul_one]
    rfl
  have HB := Lib.hid (fun w => bmul_any 1 n (by omega) (by omega) (by omega) w)
  simp only [Nat.one_mul] at HB
  have HM := Lib.hid hm
  have hpos := hn.1
  have hle := hn.2
  have HB0 := Lib.hid (by0 w (.cells (repL n 0 (.pointer (some ⟨p, 0, none⟩))).toArray 43))
  have HN0 := Lib.hid (heap_alloc_new w (.cells (repL n 0 (.pointer (some ⟨p, 0, none⟩))).toArray 43))
  have HC := Lib.hid hc
  clear hm hn hc
  go_enter Tryz.func30, Tryz.ntmps30
  go_upto_region 6 with (go_at_call 51; refine (HB.out _).mono ?_; rintro e w' ⟨rfl, rfl⟩)
  have hmm := HM.out
  go_upto_region 7 with fail
  have hn0 := HN0.out
  have hb0 := HB0.out
  generalize w.alloc (.cells (repL n 0 (.pointer (some ⟨p, 0, none⟩))).toArray 43) = w1 at *
  have hc1 : w1.cell? ⟨sb, 0, none⟩ = some (.pointer (some ⟨p, 0, none⟩)) := (World.cell?_of_block (hb0.block _ (World.block_lt_of_cell? w _ HC.out))).trans HC.out
  generalize hB : w.heap.size = B at *
  clear hmm HM HB HB0 HN0
  have hcp := run_copy_row (P := Tryz.prog) w1 40 40 3 43 B 0 n n ⟨sb, 0, none⟩ 1 1 (repL n 0 (.pointer (some ⟨p, 0, none⟩))).toArray 43 [.pointer (some ⟨p, 0, none⟩)] Tryz.underlying40 hsz hn0 (show 1 = min 1 n by omega) (fun j v hj => by
    obtain rfl : j = 0 := by have := (List.getElem?_eq_some_iff.1 hj).1; simp at this; exact this
    cases hj
    exact hc1) (by rw [List.size_toArray, repL_len (Nat.zero_le _)]; exact hpos) (by simp [Value.oneCell'])
  rw [List.append_assoc] at hcp
  have hrow := setRow_heap w1 B _ (splice (repL n 0 (.pointer (some ⟨p, 0, none⟩))) 0 [.pointer (some ⟨p, 0, none⟩)]).toArray 43 _ hn0
  have hbl := below_setRow hb0 (Nat.le_refl _) (splice (repL n 0 (.pointer (some ⟨p, 0, none⟩))) 0 [.pointer (some ⟨p, 0, none⟩)]).toArray
  have hsp := repL_splice (n := n) (m := 0) (c := 1) (.pointer (some ⟨p, 0, none⟩)) (by omega)
  rw [List.replicate_one, Nat.zero_add] at hsp
  have HW : Hid (∃ w2, Hid (w2.heap[B]? = some (.cells (repL n 1 (.pointer (some ⟨p, 0, none⟩))).toArray 43 (0, 0)) ∧ Below B w w2) ∧ (Builtin.copy_ #[40, 40] 3 #[.slice (some ⟨B, 0, none⟩) n n, .slice (some ⟨sb, 0, none⟩) 1 1]).run Tryz.prog w1 = .ok (.int .i64 1) w2) := by
    rw [hsp] at hrow hbl
    exact Lib.hid ⟨_, Lib.hid ⟨hrow, hbl⟩, by rw [← hsp]; exact hcp⟩
  clear hcp hrow hbl hsp
  obtain ⟨w2, H2, hcp⟩ := HW.out
  go_wp2_with fail
  clear hcp HW hn0 hb0 hc1
  go_loopw [8] (fun m wr => ∃ k : Nat, 1 ≤ k ∧ k ≤ n ∧ m = .int .i64 (k : Int) ∧ Hid (wr.heap[B]? = some (.cells (repL n k (.pointer (some ⟨p, 0, none⟩))).toArray 43 (0, 0)) ∧ Below B w wr)) (fun m _ => n - (intOf m).toNat)
  case atStart => exact ⟨1, by omega, hpos, rfl, H2⟩
  case round =>
    obtain ⟨k, hk1, hkn, rfl, HK⟩ := hrel
    by_cases hlt : k < n
    · have k0 : (0 : Int) ≤ (k : Int) := by omega
      have k1 : (k : Int) < (n : Int) := by omega
      have k2 : (k : Int) ≤ (n : Int) := by omega
      have hne : ¬ n = k := by omega
      obtain ⟨c, w3, c1, c2, hcp, H3⟩ := rep_step (w := w) (wr := wr.drew) HK.out.1 HK.out.2.drew hk1 hlt
      clear HK
      go_wp2
      go_region
      go_wp2
      go_roundw
      case rel => exact ⟨k + c, by omega, c2, by go_num, H3⟩
      case measure => simp [intOf]; omega
    · have k1 : ¬ (k : Int) < (n : Int) := by omega
      obtain rfl : k = n := by omega
      go_wp2
      go_ret
      exact ⟨B, rfl, by omega, HK.out.1, HK.out.2⟩
end Go.Proofs.YtfghggfoncfhgaaGreatDoor
/- A tree's leaves, in a row. -/
namespace Go.Proofs.YtfghggfoncfhgaaGreatDoor
open Go.RowKit

theorem below_next {w wz wa : World} (h : Below w.heap.size w wz) (hb : Below wz.heap.size wz wa) : Below w.heap.size w wa := h.trans (hb.mono h.size)
theorem below_alloc {w wz : World} (h : Below w.heap.size w wz) (o : Obj) : Below w.heap.size w (wz.alloc o) := below_next h (by0 wz o)
/-- a level in a row of its own -/
structure RowT (g : Nat → (List UInt8)) (w : World) (l n B : Nat) : Prop where
  blk : ∃ cs : Array Value, w.heap[B]? = some (Obj.cells cs 43 (0, 0)) ∧ n ≤ cs.size
  at_ : ∀ k, k < n → ∃ b, w.cell? ⟨B, k, none⟩ = some (.pointer (some ⟨b, 0, none⟩)) ∧ InT g w l k b
theorem RowT.lt {g : Nat → (List UInt8)} {w : World} {l n B : Nat} (h : RowT g w l n B) : B < w.heap.size := by
  obtain ⟨cs, h1, _⟩ := h.blk
  exact lit_lt h1
theorem RowT.below {g : Nat → (List UInt8)} {w w' : World} {l n B : Nat} (h : RowT g w l n B) (hb : Below w.heap.size w w') : RowT g w' l n B := by
  have e := hb.block B h.lt
  refine ⟨?_, fun k hk => ?_⟩
  · obtain ⟨cs, h1, h2⟩ := h.blk
    exact ⟨cs, e.trans h1, h2⟩
  · obtain ⟨b, h1, h2⟩ := h.at_ k hk
    exact ⟨b, (World.cell?_of_block (a := ⟨B, k, none⟩) e).trans h1, h2.below hb⟩
theorem place_type {w : World} {b B : Nat} {C cs : Array Value} (h : w.heap[b]? = some (Obj.cells C 65 (0, 0))) (k : w.heap[B]? = some (Obj.cells cs 43 (0, 0))) : b ≠ B := by
  rintro rfl
  rw [h] at k
  cases k
theorem RowT.put {g g' : Nat → (List UInt8)} {w : World} {n B j b : Nat} (h : RowT g w 0 n B) (hj : j < n) (hb : w.heap[b]? = some (Obj.cells #[.string ⟨(g' j).toArray⟩, .pointer none, .pointer none] 65 (0, 0))) (hg : ∀ k, k < n → k ≠ j → g k = g' k) :
    RowT g' (w.setCell ⟨B, j, none⟩ (.pointer (some ⟨b, 0, none⟩))) 0 n B := by
  obtain ⟨cs, h1, h2⟩ := h.blk
  have hk : ∀ (c : Nat) (C : Array Value), w.heap[c]? = some (Obj.cells C 65 (0, 0)) → (w.setCell ⟨B, j, none⟩ (.pointer (some ⟨b, 0, none⟩))).heap[c]? = w.heap[c]? := fun c C e => lit_far _ (place_type e h1)
  refine ⟨⟨_, lit_set _ h1, by simp [h2]⟩, fun k hkn => ?_⟩
  by_cases e : k = j
  · subst e
    exact ⟨b, World.cell?_setCell_same _ _ _ ((lit_cell h1 k).trans (Array.getElem?_eq_getElem (by omega))), (hk _ _ hb).trans hb⟩
  · obtain ⟨c, h3, h4⟩ := h.at_ k hkn
    refine ⟨c, (World.cell?_setCell_other _ ⟨B, j, none⟩ ⟨B, k, none⟩ _ (fun e2 => e (by cases e2; rfl))).trans h3, ?_⟩
    have h5 := h4.keep hk
    unfold InT at h5 ⊢
    rw [← hg k hkn e]
    exact h5
theorem RowT.first {w : World} {n B b : Nat} {g : Nat → (List UInt8)} (h : w.heap[B]? = some (.cells (repL n n (.pointer (some ⟨b, 0, none⟩))).toArray 43 (0, 0))) {D : (List UInt8)} (hg : ∀ k, k < n → g k = D) (hb : w.heap[b]? = some (Obj.cells #[.string ⟨D.toArray⟩, .pointer none, .pointer none] 65 (0, 0))) : RowT g w 0 n B := by
  refine ⟨⟨_, h, by rw [List.size_toArray, repL_len (Nat.le_refl _)]; exact Nat.le_refl _⟩, fun k hk => ⟨b, ?_, ?_⟩⟩
  · rw [lit_cell h, List.getElem?_toArray]
    exact repL_get _ hk
  · unfold InT
    rw [hg k hk]
    exact hb
theorem turnB_in {d k : Nat} (hd : d ≤ 16) (hk : k < 2 ^ d) : turnB k (d : Int) = turn d 0 k := if_pos (by simp [standsB, hk]; omega)
theorem turnB_lt {d k : Nat} (hd : d ≤ 16) (hk : k < 2 ^ d) : turnB k (d : Int) < 2 ^ d := by rw [turnB_in hd hk]; exact turn_lt d k
theorem turnB_turnB {d k : Nat} (hd : d ≤ 16) (hk : k < 2 ^ d) : turnB (turnB k (d : Int)) (d : Int) = k := by rw [turnB_in hd (turnB_lt hd hk), turnB_in hd hk, turn_turn hk]
theorem gl_none (L : List (List UInt8)) (d k : Nat) : gl (L.take 0) d k = hashL noneT [] := by simp [gl]
theorem gl_same {L : List (List UInt8)} {d i : Nat} (hd : d ≤ 16) (hi : i < L.length) (hid : i < 2 ^ d) : gl (L.take (i + 1)) d (turnB i d) = hashL leafT [L[i]] := by
  unfold gl
  have h : turnB (turnB i (d : Int)) (d : Int) < (L.take (i + 1)).length := by rw [turnB_turnB hd hid, List.length_take]; omega
  rw [dif_pos h]
  congr 2
  rw [List.getElem_take]
  congr 1
  exact turnB_turnB hd hid
theorem gl_other {L : List (List UInt8)} {d i k : Nat} (hd : d ≤ 16) (hi : i < L.length) (hk : k < 2 ^ d) (hne : k ≠ turnB i d) : gl (L.take i) d k = gl (L.take (i + 1)) d k := by
  have hti : turnB k (d : Int) ≠ i := fun e => hne (by rw [← e, turnB_turnB hd hk])
  unfold gl
  by_cases h : turnB k (d : Int) < i
  · rw [dif_pos (by rw [List.length_take]; omega), dif_pos (by rw [List.length_take]; omega)]
    congr 2
    rw [List.getElem_take, List.getElem_take]
  · rw [dif_neg (by rw [List.length_take]; omega), dif_neg (by rw [List.length_take]; omega)]
set_option maxRecDepth 100000 in
set_option maxHeartbeats 1000000 in
theorem leaves_any (ao : Option Addr) (cap : Nat) (L : List (List UInt8)) (w : World) (hg : Glob w) (hs : Strs ao L w) (hL : L.length ≤ 65536) (hl : ∀ i (h : i < L.length), L[i].length ≤ 10000000) :
    Calls Tryz.prog 14 #[.slice ao L.length cap] w fun e w' => ∃ B, e = .returned (.slice (some ⟨B, 0, none⟩) (2 ^ dep L.length) (2 ^ dep L.length)) ∧ w.heap.size ≤ B ∧ RowT (gl L (dep L.length)) w' 0 (2 ^ dep L.length) B ∧ Below w.heap.size w w' := by
  have hsz := hg.size
  have hd := dep_le L.length hL
  have hnd := (dep_spec L.length hL).1
  have HD := Lib.hid (fun w => show Calls Tryz.prog 29 #[.int .i64 (L.length : Int)] w fun e w' => e = .returned (.int .i64 (dep L.length : Int)) ∧ w = w' from by
    have h := depth_any (L.length : Int) (by omega) w
    rwa [depthV, if_neg (by omega), Int.toNat_natCast] at h)
  generalize hde : dep L.length = d at *
  have HH := Lib.hid (fun wz (h : Below w.heap.size w wz) => hash_any noneT none 0 [] wz (hg.below hsz h) (.inl rfl) (by decide) (by decide))
  have hp16 : 2 ^ d ≤ 2 ^ 16 := Nat.pow_le_pow_right (by decide) hd
  have hp1 : 1 ≤ 2 ^ d := Nat.one_le_two_pow
  have hpw : (2 : Int) ^ d = ((2 ^ d : Nat) : Int) := by simp
  have hw1 : IntKind.i64.wrap ((2 : Int) ^ d) = (2 : Int) ^ d := by
    rw [hpw, IntKind.wrap_i64]
    omega
  have HR := Lib.hid (show ∀ sb p wz, wz.cell? ⟨sb, 0, none⟩ = some (.pointer (some ⟨p, 0, none⟩)) → Calls Tryz.prog 30 #[.slice (some ⟨sb, 0, none⟩) 1 1, .int .i64 ((2 : Int) ^ d)] wz fun e w' => ∃ B, e = .returned (.slice (some ⟨B, 0, none⟩) (2 ^ d) (2 ^ d)) ∧ wz.heap.size ≤ B ∧ w'.heap[B]? = some (.cells (repL (2 ^ d) (2 ^ d) (.pointer (some ⟨p, 0, none⟩))).toArray 43 (0, 0)) ∧ Below wz.heap.size wz w' from fun sb p wz h => by
    rw [hpw]
    exact repeat_any sb p (2 ^ d) wz ⟨hp1, by omega⟩ h)
  have H1 := Lib.hid (And.intro hg (And.intro hs (And.intro hl (And.intro hd (And.intro hnd hp16)))))
  clear hg hs hl hp16 hnd hpw
  go_enter Tryz.func14, Tryz.ntmps14
  go_upto_region 2 with (go_at_call 29; refine (HD.out _).mono ?_; rintro e w' ⟨rfl, rfl⟩)
  go_cut [4] from 17 (fun s4 wx => ∃ B p : Nat, s4 = .slice (some ⟨B, 0, none⟩) (2 ^ d) (2 ^ d) ∧ Hid (w.heap.size ≤ B ∧ Below w.heap.size w wx ∧ wx.heap[B]? = some (.cells (repL (2 ^ d) (2 ^ d) (.pointer (some ⟨p, 0, none⟩))).toArray 43 (0, 0)) ∧ wx.heap[p]? = some (.cells #[.string ⟨(hashL noneT []).toArray⟩, .pointer none, .pointer none] 65 (0, 0))))
  case first =>
    have hb0 := Below.refl w.heap.size w
    go_region_held3 (fun w' => Below w.heap.size w w')
      (first | (with_reducible assumption) | (with_reducible refine Below.drew ?_; with_reducible assumption) | (with_reducible refine below_alloc ?_ _; with_reducible assumption) | (with_reducible refine Below.drew (below_alloc ?_ _); with_reducible assumption))
      (first
        | (go_at_call 26; refine (HH.out _ (by with_reducible assumption)).mono ?_; rintro e w2 ⟨rfl, hq2⟩; have hb2 := below_next (by with_reducible assumption) hq2)
        | (go_at_call 30; refine (HR.out (w2.heap.size + 1) w2.heap.size _ (by simp)).mono ?_; rintro e w3 ⟨B, rfl, hB, hrow, hq3⟩; have hb3 := below_next (by with_reducible assumption) hq3))
    all_goals
      have hp2 : w3.heap[w2.heap.size]? = some (.cells #[.string ⟨(hashL noneT []).toArray⟩, .pointer none, .pointer none] 65 (0, 0)) := (hq3.block _ (by simp; omega)).trans (lit_old _ (heap_alloc_new w2 _))
      have hBw : w.heap.size ≤ B := by have := hb2.size; simp at hB; omega
      have HX := Lib.hid (And.intro hBw (And.intro hb3 (And.intro hrow hp2)))
      clear hp2 hBw hrow hB hq3 hq2 hb2
      go_wp2
      go_meet
      exact ⟨B, _, rfl, HX⟩
  case rest =>
  obtain ⟨B, p, rfl, HX⟩ := hcut
  have HR0 : Hid (RowT (gl (L.take 0) d) wc 0 (2 ^ d) B) := Lib.hid (RowT.first HX.out.2.2.1 (fun k _ => gl_none L d k) HX.out.2.2.2)
  have HLF := Lib.hid (fun e wz (h : Below w.heap.size w wz) he => tleaf_any e wz (H1.out.1.below hsz h) he)
  have HLE := Lib.hid (fun (i : Nat) (hi : i < 18446744073709551616) (w : World) => leaf_any i hi (d : Int) w)
  clear HD HH HR
  go_wp2
  go_loopw [5, 6, 19] (fun s5 s6 i wr => ∃ k : Nat, k ≤ L.length ∧ i = .int .i64 (k : Int) ∧ Hid (RowT (gl (L.take k) d) wr 0 (2 ^ d) B ∧ Below w.heap.size w wr))
    (fun _ _ i _ => L.length - (intOf i).toNat)
  case atStart => exact ⟨0, by omega, rfl, Lib.hid ⟨HR0.out, HX.out.2.1⟩⟩
  case round =>
    obtain ⟨k, hk, rfl, HK⟩ := hrel
    by_cases hlt : k < L.length
    · obtain ⟨b1, o1, rfl, hc1⟩ := (H1.out.2.1.below (Nat.le_refl _) HK.out.2).cell k hlt
      have k0 : (0 : Int) ≤ (k : Int) := by omega
      have k1 : (k : Int) < (L.length : Int) := by omega
      have hkd : k < 2 ^ d := Nat.lt_of_lt_of_le hlt H1.out.2.2.2.2.1
      have htl := turnB_lt H1.out.2.2.2.1 hkd
      have HLX := Lib.hid (HLF.out L[k] wr HK.out.2 (H1.out.2.2.1 k hlt))
      have HLY := Lib.hid (fun w => HLE.out k (by omega) w)
      have HG := Lib.hid (And.intro (gl_same (L := L) H1.out.2.2.2.1 hlt hkd) (fun j hj hne => gl_other (L := L) (k := j) H1.out.2.2.2.1 hlt hj hne))
      generalize L[k] = X at *
      generalize turnB k (d : Int) = j at *
      have j0 : (0 : Int) ≤ (j : Int) := by omega
      have j1 : (j : Int) < ((2 ^ d : Nat) : Int) := by omega
      have HJ := Lib.hid (And.intro htl hkd)
      rw [show ((2 ^ d : Nat) : Int) = (2 : Int) ^ d by simp] at j1
      clear htl hkd
      go_upto_region 6 with fail
      go_wp2_with (first
        | (go_at_call 32; refine (HLY.out _).mono ?_; rintro e w' ⟨rfl, rfl⟩)
        | (go_at_call 31; refine HLX.out.mono ?_; rintro e w2 ⟨b, rfl, hb, hbs, hb2⟩; have HR2 := HK.out.1.below hb2; have HRB := HR2.blk; obtain ⟨cs, hcs, hcn⟩ := HRB; have hcj := (lit_cell hcs j).trans (Array.getElem?_eq_getElem (by have := HJ.out.1; omega)); have hfj := lit_free hcs j))
      go_roundw
      case rel => exact ⟨k + 1, by omega, by go_num, Lib.hid ⟨HR2.put HJ.out.1 (by rw [HG.out.1]; exact hb) (fun q hq hne => HG.out.2 q hq hne), (below_next HK.out.2 hb2).setCell HX.out.1 _⟩⟩
      case measure => simp [intOf]; omega
    · have k1 : ¬ (k : Int) < (L.length : Int) := by omega
      have hke : L.take k = L := List.take_of_length_le (by omega)
      rw [hke] at HK
      go_wp2
      go_ret
      exact ⟨B, rfl, HX.out.1, HK.out.1, HK.out.2⟩
end Go.Proofs.YtfghggfoncfhgaaGreatDoor
