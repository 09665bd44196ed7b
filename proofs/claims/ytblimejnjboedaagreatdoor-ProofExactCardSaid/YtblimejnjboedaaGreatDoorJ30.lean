/- The library's contract of Mul64, laid at this program by name. -/
import Derived.Shelf.Bits.Mul64
import Derived.Test.YtblimejnjboedaaGreatDoorProg
import Derived.Test.YtblimejnjboedaaGreatDoorJ29
import Derived.Laws.MakeOwn
import Derived.Laws.CopyOwn
import Derived.Test.YtblimejnjboedaaGreatDoorJ4
import Derived.Test.YtblimejnjboedaaGreatDoorJ19
import Derived.Test.YtblimejnjboedaaGreatDoorJ18
import Derived.Test.YtblimejnjboedaaGreatDoorJ2
namespace Go.Proofs
open Go.Shelf
def Tryz.lays264_ren : Go.Shelf.Ren := ⟨fun | 264 => 104 | n => n, fun | 53 => 33 | 46 => 116 | n => n, fun | n => n⟩
theorem Tryz.lays264 : Go.Proofs.Lays.n264 Tryz.prog Tryz.lays264_ren := {
  mixed := by kernel_rfl
  f264 := Tryz.func104.trans (congrArg some (by kernel_rfl))
  t46 := Tryz.underlying116
  a46 := Tryz.isAgg116
  z46 := Tryz.sizeOf116
  v46 := Tryz.zeroValue116
  t53 := Tryz.underlying33
  a53 := Tryz.isAgg33
  z53 := Tryz.sizeOf33
  v53 := Tryz.zeroValue33 }
open Go.RowKit Go.Lib in
theorem Tryz.bits_Mul64 (x y : Nat) (hx : x < 18446744073709551616) (hy : y < 18446744073709551616) (w : World) :
    Calls Tryz.prog 104 #[.int .u64 x, .int .u64 y] w fun e w' => e = .returned (.tuple #[.int .u64 ((x * y / 18446744073709551616 : Nat) : Int), .int .u64 ((x * y % 18446744073709551616 : Nat) : Int)]) ∧ w' = w := Any.bits_Mul64 Tryz.lays264 x y hx hy w
end Go.Proofs
/- slices.Repeat of one place. -/
namespace Go.Proofs.YtblimejnjboedaaGreatDoor
open Go.RowKit

theorem bmul_any (x y : Nat) (h : x * y < 18446744073709551616) (hx : x < 18446744073709551616) (hy : y < 18446744073709551616) (w : World) : Calls Tryz.prog 82 #[.int .u64 (x : Int), .int .u64 (y : Int)] w fun e w' => e = .returned (.tuple #[.int .u64 0, .int .u64 ((x * y : Nat) : Int)]) ∧ w = w' := by
  have HC := Lib.hid (show Calls Tryz.prog 104 #[.int .u64 x, .int .u64 y] w fun e w' => e = .returned (.tuple #[.int .u64 0, .int .u64 ((x * y : Nat) : Int)]) ∧ w' = w from by
    have h1 := Tryz.bits_Mul64 x y hx hy w
    rw [Nat.div_eq_of_lt h, Nat.mod_eq_of_lt h] at h1
    exact h1)
  clear h hx hy
  generalize ((x * y : Nat) : Int) = z at *
  go_enter Tryz.func82, Tryz.ntmps82
  go_wp2_with (go_at_call 104; refine HC.out.mono ?_; rintro e w' ⟨rfl, rfl⟩)
  exact bodyPost_ret (v := .tuple #[.int .u64 0, .int .u64 z]) (by simp [results, Tryz.results82, go_sem]) rfl ⟨rfl, rfl⟩

theorem made_nil (n : Nat) (p : Value) : madeCells (Value.pointer none).cells n = (List.replicate 0 p ++ List.replicate (n - 0) (Value.pointer none)).toArray := by
  apply Array.ext
  · simp [madeCells]
  · intro i h1 h2
    simp [madeCells, Value.cells, Nat.mod_one]
def repL (n m : Nat) (p : Value) : List Value := List.replicate m p ++ List.replicate (n - m) (.pointer none)
theorem repL_len {n m : Nat} (h : m ≤ n) (p : Value) : (repL n m p).length = n := by simp [repL]; omega
theorem repL_splice {n m c : Nat} (p : Value) (h : m + c ≤ n) : splice (repL n m p) m (List.replicate c p) = repL n (m + c) p := by
  unfold splice repL
  rw [List.take_append_of_le_length (by simp), List.take_of_length_le (by simp), List.length_replicate, List.drop_append, List.drop_of_length_le (by simp), List.length_replicate, List.nil_append, List.drop_replicate, ← List.append_assoc, List.replicate_append_replicate]
  all_goals (congr 2; omega)
theorem repL_get {n m j : Nat} (p : Value) (h : j < m) : (repL n m p)[j]? = some p := by
  unfold repL
  rw [List.getElem?_append_left (by simpa using h)]
  simp [h]
theorem rep_step {B n k p : Nat} {w wr : World} (h : wr.heap[B]? = some (.cells (repL n k (.pointer (some ⟨p, 0, none⟩))).toArray 59 (0, 0))) (hb : Below B w wr) (h1 : 1 ≤ k) (h2 : k < n) :
    ∃ (c : Nat) (w3 : World), 1 ≤ c ∧ k + c ≤ n ∧ (Builtin.copy_ #[56, 56] 3 #[.slice (some ⟨B, k, none⟩) (n - k) (n - k), .slice (some ⟨B, 0, none⟩) k n]).run Tryz.prog wr = .ok (.int .i64 (c : Int)) w3 ∧ Hid (w3.heap[B]? = some (.cells (repL n (k + c) (.pointer (some ⟨p, 0, none⟩))).toArray 59 (0, 0)) ∧ Below B w w3) := by
  have hsz : (Tryz.prog.info? 59).map (·.size) = some 1 := by kernel_rfl
  have hrun := run_copy_row (P := Tryz.prog) wr 56 56 3 59 B k (n - k) (n - k) ⟨B, 0, none⟩ k n (repL n k (.pointer (some ⟨p, 0, none⟩))).toArray 59 (List.replicate (min k (n - k)) (.pointer (some ⟨p, 0, none⟩))) Tryz.underlying56 hsz h (by rw [List.length_replicate]) (fun j v hj => by
    have hlt := (List.getElem?_eq_some_iff.1 hj).1
    rw [List.length_replicate] at hlt
    rw [List.getElem?_replicate, if_pos hlt] at hj
    cases hj
    rw [Addr.add_mid, lit_cell h, Nat.zero_add, List.getElem?_toArray]
    exact repL_get _ (by omega)) (by rw [List.size_toArray, repL_len (by omega), List.length_replicate]; omega) (by intro v hv; rw [List.eq_of_mem_replicate hv]; rfl)
  rw [List.append_assoc] at hrun
  have hrow := setRow_heap wr B _ (splice (repL n k (.pointer (some ⟨p, 0, none⟩))) k (List.replicate (min k (n - k)) (.pointer (some ⟨p, 0, none⟩)))).toArray 59 _ h
  have hbl := below_setRow hb (Nat.le_refl _) (splice (repL n k (.pointer (some ⟨p, 0, none⟩))) k (List.replicate (min k (n - k)) (.pointer (some ⟨p, 0, none⟩)))).toArray
  have hsp := repL_splice (n := n) (m := k) (c := min k (n - k)) (.pointer (some ⟨p, 0, none⟩)) (by omega)
  rw [hsp] at hrow hbl
  refine ⟨min k (n - k), _, by omega, by omega, ?_, Lib.hid ⟨hrow, hbl⟩⟩
  rw [← hsp]
  unfold splice
  simp only [List.length_replicate] at hrun ⊢
  exact hrun
set_option maxRecDepth 100000 in
set_option maxHeartbeats 1000000 in
theorem repeat_any (sb p n : Nat) (w : World) (hn : 1 ≤ n ∧ n ≤ 65536) (hc : w.cell? ⟨sb, 0, none⟩ = some (.pointer (some ⟨p, 0, none⟩))) :
    Calls Tryz.prog 51 #[.slice (some ⟨sb, 0, none⟩) 1 1, .int .i64 (n : Int)] w fun e w' => ∃ B, e = .returned (.slice (some ⟨B, 0, none⟩) n n) ∧ w.heap.size ≤ B ∧ w'.heap[B]? = some (.cells (repL n n (.pointer (some ⟨p, 0, none⟩))).toArray 59 (0, 0)) ∧ Below w.heap.size w w' := by
  obtain ⟨i0, hi, hz0, hz1, hz2⟩ := info_parts (show (Tryz.prog.info? 59).map (fun i => (i.zero, i.size, i.bytes)) = some (some (.pointer none), 1, 8) by kernel_rfl)
  have hsz : (Tryz.prog.info? 59).map (·.size) = some 1 := by kernel_rfl
  have hm : (Instr.makeSlice 56 (.int .i64 (n : Int)) (.int .i64 (n : Int))).run Tryz.prog w = .ok (.slice (some ⟨w.heap.size, 0, none⟩) n n) (w.alloc (.cells (repL n 0 (.pointer (some ⟨p, 0, none⟩))).toArray 59)) := by
    have h := run_make (P := Tryz.prog) w 56 59 i0 (.pointer none) Tryz.underlying56 hi hz0 .i64 .i64 (n : Int) (n : Int) (by omega) (by omega) (by rw [hz2]; omega) (by omega)
    rw [h, hz1]
    rw [made_nil, Int.toNat_natCast, Nat.mul_one]
    rfl
  have HB := Lib.hid (fun w => bmul_any 1 n (by omega) (by omega) (by omega) w)
  simp only [Nat.one_mul] at HB
  have HM := Lib.hid hm
  have hpos := hn.1
  have hle := hn.2
  have HB0 := Lib.hid (by0 w (.cells (repL n 0 (.pointer (some ⟨p, 0, none⟩))).toArray 59))
  have HN0 := Lib.hid (heap_alloc_new w (.cells (repL n 0 (.pointer (some ⟨p, 0, none⟩))).toArray 59))
  have HC := Lib.hid hc
  clear hm hn hc
  go_enter Tryz.func51, Tryz.ntmps51
  go_upto_region 6 with (go_at_call 82; refine (HB.out _).mono ?_; rintro e w' ⟨rfl, rfl⟩)
  have hmm := HM.out
  go_upto_region 7 with fail
  have hn0 := HN0.out
  have hb0 := HB0.out
  generalize w.alloc (.cells (repL n 0 (.pointer (some ⟨p, 0, none⟩))).toArray 59) = w1 at *
  have hc1 : w1.cell? ⟨sb, 0, none⟩ = some (.pointer (some ⟨p, 0, none⟩)) := (World.cell?_of_block (hb0.block _ (World.block_lt_of_cell? w _ HC.out))).trans HC.out
  generalize hB : w.heap.size = B at *
  clear hmm HM HB HB0 HN0
  have hcp := run_copy_row (P := Tryz.prog) w1 56 56 3 59 B 0 n n ⟨sb, 0, none⟩ 1 1 (repL n 0 (.pointer (some ⟨p, 0, none⟩))).toArray 59 [.pointer (some ⟨p, 0, none⟩)] Tryz.underlying56 hsz hn0 (show 1 = min 1 n by omega) (fun j v hj => by
    obtain rfl : j = 0 := by have := (List.getElem?_eq_some_iff.1 hj).1; simp at this; exact this
    cases hj
    exact hc1) (by rw [List.size_toArray, repL_len (Nat.zero_le _)]; exact hpos) (by simp [Value.oneCell'])
  rw [List.append_assoc] at hcp
  have hrow := setRow_heap w1 B _ (splice (repL n 0 (.pointer (some ⟨p, 0, none⟩))) 0 [.pointer (some ⟨p, 0, none⟩)]).toArray 59 _ hn0
  have hbl := below_setRow hb0 (Nat.le_refl _) (splice (repL n 0 (.pointer (some ⟨p, 0, none⟩))) 0 [.pointer (some ⟨p, 0, none⟩)]).toArray
  have hsp := repL_splice (n := n) (m := 0) (c := 1) (.pointer (some ⟨p, 0, none⟩)) (by omega)
  rw [List.replicate_one, Nat.zero_add] at hsp
  have HW : Hid (∃ w2, Hid (w2.heap[B]? = some (.cells (repL n 1 (.pointer (some ⟨p, 0, none⟩))).toArray 59 (0, 0)) ∧ Below B w w2) ∧ (Builtin.copy_ #[56, 56] 3 #[.slice (some ⟨B, 0, none⟩) n n, .slice (some ⟨sb, 0, none⟩) 1 1]).run Tryz.prog w1 = .ok (.int .i64 1) w2) := by
    rw [hsp] at hrow hbl
    exact Lib.hid ⟨_, Lib.hid ⟨hrow, hbl⟩, by rw [← hsp]; exact hcp⟩
  clear hcp hrow hbl hsp
  obtain ⟨w2, H2, hcp⟩ := HW.out
  go_wp2_with fail
  clear hcp HW hn0 hb0 hc1
  go_loopw [8] (fun m wr => ∃ k : Nat, 1 ≤ k ∧ k ≤ n ∧ m = .int .i64 (k : Int) ∧ Hid (wr.heap[B]? = some (.cells (repL n k (.pointer (some ⟨p, 0, none⟩))).toArray 59 (0, 0)) ∧ Below B w wr)) (fun m _ => n - (intOf m).toNat)
  case atStart => exact ⟨1, by omega, hpos, rfl, H2⟩
  case round =>
    obtain ⟨k, hk1, hkn, rfl, HK⟩ := hrel
    by_cases hlt : k < n
    · have k0 : (0 : Int) ≤ (k : Int) := by omega
      have k1 : (k : Int) < (n : Int) := by omega
      have k2 : (k : Int) ≤ (n : Int) := by omega
      have hne : ¬ n = k := by omega
      obtain ⟨c, w3, c1, c2, hcp, H3⟩ := rep_step (w := w) (wr := wr.drew) HK.out.1 HK.out.2.drew hk1 hlt
      clear HK
      go_wp2
      go_region
      go_wp2
      go_roundw
      case rel => exact ⟨k + c, by omega, c2, by go_num, H3⟩
      case measure => simp [intOf]; omega
    · have k1 : ¬ (k : Int) < (n : Int) := by omega
      obtain rfl : k = n := by omega
      go_wp2
      go_ret
      exact ⟨B, rfl, by omega, HK.out.1, HK.out.2⟩
end Go.Proofs.YtblimejnjboedaaGreatDoor
/- A tree's leaves, in a row. -/
namespace Go.Proofs.YtblimejnjboedaaGreatDoor
open Go.RowKit

/-- a level in a row of its own -/
structure RowT (g : Nat → (List UInt8)) (w : World) (l n B : Nat) : Prop where
  blk : ∃ cs : Array Value, w.heap[B]? = some (Obj.cells cs 59 (0, 0)) ∧ n ≤ cs.size
  at_ : ∀ k, k < n → ∃ b, w.cell? ⟨B, k, none⟩ = some (.pointer (some ⟨b, 0, none⟩)) ∧ InT g w l k b
theorem RowT.lt {g : Nat → (List UInt8)} {w : World} {l n B : Nat} (h : RowT g w l n B) : B < w.heap.size := by
  obtain ⟨cs, h1, _⟩ := h.blk
  exact lit_lt h1
theorem RowT.below {g : Nat → (List UInt8)} {w w' : World} {l n B : Nat} (h : RowT g w l n B) (hb : Below w.heap.size w w') : RowT g w' l n B := by
  have e := hb.block B h.lt
  refine ⟨?_, fun k hk => ?_⟩
  · obtain ⟨cs, h1, h2⟩ := h.blk
    exact ⟨cs, e.trans h1, h2⟩
  · obtain ⟨b, h1, h2⟩ := h.at_ k hk
    exact ⟨b, (World.cell?_of_block (a := ⟨B, k, none⟩) e).trans h1, h2.below hb⟩
theorem place_type {w : World} {b B : Nat} {C cs : Array Value} (h : w.heap[b]? = some (Obj.cells C 72 (0, 0))) (k : w.heap[B]? = some (Obj.cells cs 59 (0, 0))) : b ≠ B := by
  rintro rfl
  rw [h] at k
  cases k
theorem RowT.put {g g' : Nat → (List UInt8)} {w : World} {n B j b : Nat} (h : RowT g w 0 n B) (hj : j < n) (hb : w.heap[b]? = some (Obj.cells #[.string ⟨(g' j).toArray⟩, .pointer none, .pointer none] 72 (0, 0))) (hg : ∀ k, k < n → k ≠ j → g k = g' k) :
    RowT g' (w.setCell ⟨B, j, none⟩ (.pointer (some ⟨b, 0, none⟩))) 0 n B := by
  obtain ⟨cs, h1, h2⟩ := h.blk
  have hk : ∀ (c : Nat) (C : Array Value), w.heap[c]? = some (Obj.cells C 72 (0, 0)) → (w.setCell ⟨B, j, none⟩ (.pointer (some ⟨b, 0, none⟩))).heap[c]? = w.heap[c]? := fun c C e => lit_far _ (place_type e h1)
  refine ⟨⟨_, lit_set _ h1, by simp [h2]⟩, fun k hkn => ?_⟩
  by_cases e : k = j
  · subst e
    exact ⟨b, World.cell?_setCell_same _ _ _ ((lit_cell h1 k).trans (Array.getElem?_eq_getElem (by omega))), (hk _ _ hb).trans hb⟩
  · obtain ⟨c, h3, h4⟩ := h.at_ k hkn
    refine ⟨c, (World.cell?_setCell_other _ ⟨B, j, none⟩ ⟨B, k, none⟩ _ (fun e2 => e (by cases e2; rfl))).trans h3, ?_⟩
    have h5 := h4.keep hk
    unfold InT at h5 ⊢
    rw [← hg k hkn e]
    exact h5
theorem RowT.first {w : World} {n B b : Nat} {g : Nat → (List UInt8)} (h : w.heap[B]? = some (.cells (repL n n (.pointer (some ⟨b, 0, none⟩))).toArray 59 (0, 0))) {D : (List UInt8)} (hg : ∀ k, k < n → g k = D) (hb : w.heap[b]? = some (Obj.cells #[.string ⟨D.toArray⟩, .pointer none, .pointer none] 72 (0, 0))) : RowT g w 0 n B := by
  refine ⟨⟨_, h, by rw [List.size_toArray, repL_len (Nat.le_refl _)]; exact Nat.le_refl _⟩, fun k hk => ⟨b, ?_, ?_⟩⟩
  · rw [lit_cell h, List.getElem?_toArray]
    exact repL_get _ hk
  · unfold InT
    rw [hg k hk]
    exact hb
theorem gl_none (L : List (List UInt8)) (d k : Nat) : gl (L.take 0) d k = hashL noneT [] := by simp [gl]
theorem gl_same {L : List (List UInt8)} {d i : Nat} (hd : d ≤ 16) (hi : i < L.length) (hid : i < 2 ^ d) : gl (L.take (i + 1)) d (turnB i d) = hashL leafT [L[i]] := by
  unfold gl
  have h : turnB (turnB i (d : Int)) (d : Int) < (L.take (i + 1)).length := by rw [turnB_turnB hd hid, List.length_take]; omega
  rw [dif_pos h]
  congr 2
  rw [List.getElem_take]
  congr 1
  exact turnB_turnB hd hid
theorem gl_other {L : List (List UInt8)} {d i k : Nat} (hd : d ≤ 16) (hi : i < L.length) (hk : k < 2 ^ d) (hne : k ≠ turnB i d) : gl (L.take i) d k = gl (L.take (i + 1)) d k := by
  have hti : turnB k (d : Int) ≠ i := fun e => hne (by rw [← e, turnB_turnB hd hk])
  unfold gl
  by_cases h : turnB k (d : Int) < i
  · rw [dif_pos (by rw [List.length_take]; omega), dif_pos (by rw [List.length_take]; omega)]
    congr 2
    rw [List.getElem_take, List.getElem_take]
  · rw [dif_neg (by rw [List.length_take]; omega), dif_neg (by rw [List.length_take]; omega)]
set_option maxRecDepth 100000 in
set_option maxHeartbeats 1000000 in
theorem leaves_any (ao : Option Addr) (cap : Nat) (L : List (List UInt8)) (w : World) (hg : Glob w) (hs : Strs ao L w) (hL : L.length ≤ 65536) (hl : ∀ i (h : i < L.length), L[i].length ≤ 10000000) :
    Calls Tryz.prog 25 #[.slice ao L.length cap] w fun e w' => ∃ B, e = .returned (.slice (some ⟨B, 0, none⟩) (2 ^ dep L.length) (2 ^ dep L.length)) ∧ w.heap.size ≤ B ∧ RowT (gl L (dep L.length)) w' 0 (2 ^ dep L.length) B ∧ Below w.heap.size w w' := by
  have hsz := hg.size
  have hd := dep_le L.length hL
  have hnd := (dep_spec L.length hL).1
  have HD := Lib.hid (fun w => show Calls Tryz.prog 41 #[.int .i64 (L.length : Int)] w fun e w' => e = .returned (.int .i64 (dep L.length : Int)) ∧ w = w' from by
    have h := depth_any (L.length : Int) (by omega) w
    rwa [depthV, if_neg (by omega), Int.toNat_natCast] at h)
  generalize hde : dep L.length = d at *
  have HH := Lib.hid (fun wz (h : Below w.heap.size w wz) => hash_any noneT none 0 [] wz (hg.below hsz h) (.inl rfl) (by decide) (by decide))
  have hp16 : 2 ^ d ≤ 2 ^ 16 := Nat.pow_le_pow_right (by decide) hd
  have hp1 : 1 ≤ 2 ^ d := Nat.one_le_two_pow
  have hpw : (2 : Int) ^ d = ((2 ^ d : Nat) : Int) := by simp
  have hw1 : IntKind.i64.wrap ((2 : Int) ^ d) = (2 : Int) ^ d := by
    rw [hpw, IntKind.wrap_i64]
    omega
  have HR := Lib.hid (show ∀ sb p wz, wz.cell? ⟨sb, 0, none⟩ = some (.pointer (some ⟨p, 0, none⟩)) → Calls Tryz.prog 51 #[.slice (some ⟨sb, 0, none⟩) 1 1, .int .i64 ((2 : Int) ^ d)] wz fun e w' => ∃ B, e = .returned (.slice (some ⟨B, 0, none⟩) (2 ^ d) (2 ^ d)) ∧ wz.heap.size ≤ B ∧ w'.heap[B]? = some (.cells (repL (2 ^ d) (2 ^ d) (.pointer (some ⟨p, 0, none⟩))).toArray 59 (0, 0)) ∧ Below wz.heap.size wz w' from fun sb p wz h => by
    rw [hpw]
    exact repeat_any sb p (2 ^ d) wz ⟨hp1, by omega⟩ h)
  have H1 := Lib.hid (And.intro hg (And.intro hs (And.intro hl (And.intro hd (And.intro hnd hp16)))))
  clear hg hs hl hp16 hnd hpw
  go_enter Tryz.func25, Tryz.ntmps25
  go_upto_region 2 with (go_at_call 41; refine (HD.out _).mono ?_; rintro e w' ⟨rfl, rfl⟩)
  go_cut [4] from 17 (fun s4 wx => ∃ B p : Nat, s4 = .slice (some ⟨B, 0, none⟩) (2 ^ d) (2 ^ d) ∧ Hid (w.heap.size ≤ B ∧ Below w.heap.size w wx ∧ wx.heap[B]? = some (.cells (repL (2 ^ d) (2 ^ d) (.pointer (some ⟨p, 0, none⟩))).toArray 59 (0, 0)) ∧ wx.heap[p]? = some (.cells #[.string ⟨(hashL noneT []).toArray⟩, .pointer none, .pointer none] 72 (0, 0))))
  case first =>
    have hb0 := Below.refl w.heap.size w
    go_region_held3 (fun w' => Below w.heap.size w w')
      (first | (with_reducible assumption) | (with_reducible refine Below.drew ?_; with_reducible assumption) | (with_reducible refine below_alloc ?_ _; with_reducible assumption) | (with_reducible refine Below.drew (below_alloc ?_ _); with_reducible assumption))
      (first
        | (go_at_call 17; refine (HH.out _ (by with_reducible assumption)).mono ?_; rintro e w2 ⟨rfl, hq2⟩; have hb2 := below_next (by with_reducible assumption) hq2)
        | (go_at_call 51; refine (HR.out (w2.heap.size + 1) w2.heap.size _ (by simp)).mono ?_; rintro e w3 ⟨B, rfl, hB, hrow, hq3⟩; have hb3 := below_next (by with_reducible assumption) hq3))
    all_goals
      have hp2 : w3.heap[w2.heap.size]? = some (.cells #[.string ⟨(hashL noneT []).toArray⟩, .pointer none, .pointer none] 72 (0, 0)) := (hq3.block _ (by simp; omega)).trans (lit_old _ (heap_alloc_new w2 _))
      have hBw : w.heap.size ≤ B := by have := hb2.size; simp at hB; omega
      have HX := Lib.hid (And.intro hBw (And.intro hb3 (And.intro hrow hp2)))
      clear hp2 hBw hrow hB hq3 hq2 hb2
      go_wp2
      go_meet
      exact ⟨B, _, rfl, HX⟩
  case rest =>
  obtain ⟨B, p, rfl, HX⟩ := hcut
  have HR0 : Hid (RowT (gl (L.take 0) d) wc 0 (2 ^ d) B) := Lib.hid (RowT.first HX.out.2.2.1 (fun k _ => gl_none L d k) HX.out.2.2.2)
  have HLF := Lib.hid (fun e wz (h : Below w.heap.size w wz) he => tleaf_any e wz (H1.out.1.below hsz h) he)
  have HLE := Lib.hid (fun (i : Nat) (hi : i < 18446744073709551616) (w : World) => leaf_any i hi (d : Int) w)
  clear HD HH HR
  go_wp2
  go_loopw [5, 6, 19] (fun s5 s6 i wr => ∃ k : Nat, k ≤ L.length ∧ i = .int .i64 (k : Int) ∧ Hid (RowT (gl (L.take k) d) wr 0 (2 ^ d) B ∧ Below w.heap.size w wr))
    (fun _ _ i _ => L.length - (intOf i).toNat)
  case atStart => exact ⟨0, by omega, rfl, Lib.hid ⟨HR0.out, HX.out.2.1⟩⟩
  case round =>
    obtain ⟨k, hk, rfl, HK⟩ := hrel
    by_cases hlt : k < L.length
    · obtain ⟨b1, o1, rfl, hc1⟩ := (H1.out.2.1.below (Nat.le_refl _) HK.out.2).cell k hlt
      have k0 : (0 : Int) ≤ (k : Int) := by omega
      have k1 : (k : Int) < (L.length : Int) := by omega
      have hkd : k < 2 ^ d := Nat.lt_of_lt_of_le hlt H1.out.2.2.2.2.1
      have htl := turnB_lt H1.out.2.2.2.1 hkd
      have HLX := Lib.hid (HLF.out L[k] wr HK.out.2 (H1.out.2.2.1 k hlt))
      have HLY := Lib.hid (fun w => HLE.out k (by omega) w)
      have HG := Lib.hid (And.intro (gl_same (L := L) H1.out.2.2.2.1 hlt hkd) (fun j hj hne => gl_other (L := L) (k := j) H1.out.2.2.2.1 hlt hj hne))
      generalize L[k] = X at *
      generalize turnB k (d : Int) = j at *
      have j0 : (0 : Int) ≤ (j : Int) := by omega
      have j1 : (j : Int) < ((2 ^ d : Nat) : Int) := by omega
      have HJ := Lib.hid (And.intro htl hkd)
      rw [show ((2 ^ d : Nat) : Int) = (2 : Int) ^ d by simp] at j1
      clear htl hkd
      go_upto_region 6 with fail
      go_wp2_with (first
        | (go_at_call 53; refine (HLY.out _).mono ?_; rintro e w' ⟨rfl, rfl⟩)
        | (go_at_call 52; refine HLX.out.mono ?_; rintro e w2 ⟨b, rfl, hb, hbs, hb2⟩; have HR2 := HK.out.1.below hb2; have HRB := HR2.blk; obtain ⟨cs, hcs, hcn⟩ := HRB; have hcj := (lit_cell hcs j).trans (Array.getElem?_eq_getElem (by have := HJ.out.1; omega)); have hfj := lit_free hcs j))
      go_roundw
      case rel => exact ⟨k + 1, by omega, by go_num, Lib.hid ⟨HR2.put HJ.out.1 (by rw [HG.out.1]; exact hb) (fun q hq hne => HG.out.2 q hq hne), (below_next HK.out.2 hb2).setCell HX.out.1 _⟩⟩
      case measure => simp [intOf]; omega
    · have k1 : ¬ (k : Int) < (L.length : Int) := by omega
      have hke : L.take k = L := List.take_of_length_le (by omega)
      rw [hke] at HK
      go_wp2
      go_ret
      exact ⟨B, rfl, HX.out.1, HK.out.1, HK.out.2⟩
end Go.Proofs.YtblimejnjboedaaGreatDoor
/- The places that are needed, as an iterator hands them over. -/
namespace Go.Proofs.YtblimejnjboedaaGreatDoor
open Go.RowKit Go.Sort

/-- the k-th place that is needed: its level, its number there -/
def encA (P : List Nat) (d k : Nat) : Nat := ((flat (needM (lvs P d) d))[k]?.getD (0, 0)).1
def encB (P : List Nat) (d k : Nat) : Nat := ((flat (needM (lvs P d) d))[k]?.getD (0, 0)).2
theorem enc_at {P : List Nat} {d i j x : Nat} {N : List Nat} (hi : (needM (lvs P d) d)[i]? = some N) (hj : N[j]? = some x) : encA P d (pre (needM (lvs P d) d) i + j) = i ∧ encB P d (pre (needM (lvs P d) d) i + j) = x := by
  obtain ⟨h1, h2⟩ := List.getElem?_eq_some_iff.1 hi
  obtain ⟨h3, h4⟩ := List.getElem?_eq_some_iff.1 hj
  subst h2
  rw [encA, encB, flat_get _ 0 i j h1 h3, h4]
  simp
theorem mneeded_any (ao : Option Addr) (n cap : Nat) (d : Int) (w : World) : Calls Tryz.prog 31 #[.slice ao n cap, .int .i64 d] w fun e w' => e = .returned (.func (.func 59) #[] #[.pointer (some ⟨w.heap.size, 0, none⟩), .pointer (some ⟨w.heap.size + 1, 0, none⟩)]) ∧ w' = (w.alloc (.cells #[.slice ao n cap] 22)).alloc (.cells #[.int .i64 d] 3) := by
  go_enter Tryz.func31, Tryz.ntmps31
  go_wp2
  go_ret
  exact ⟨rfl, rfl⟩
abbrev NeS (b1 b2 : Nat) (v1 v2 : Value) (W wz : World) : Prop := wz.cell? ⟨b1, 0, none⟩ = some v1 ∧ wz.cell? ⟨b2, 0, none⟩ = some v2 ∧ Below W.heap.size W wz
theorem ne_next {b1 b2 : Nat} {v1 v2 : Value} {W wz wa : World} (h : NeS b1 b2 v1 v2 W wz) (hb : Below wz.heap.size wz wa) : NeS b1 b2 v1 v2 W wa :=
  ⟨(World.cell?_of_block (a := ⟨b1, 0, none⟩) (hb.block b1 (World.block_lt_of_cell? wz _ h.1))).trans h.1, (World.cell?_of_block (a := ⟨b2, 0, none⟩) (hb.block b2 (World.block_lt_of_cell? wz _ h.2.1))).trans h.2.1, h.2.2.trans (hb.mono h.2.2.size)⟩
theorem ne_drew {b1 b2 : Nat} {v1 v2 : Value} {W wz : World} (h : NeS b1 b2 v1 v2 W wz) : NeS b1 b2 v1 v2 W wz.drew := ne_next h (Below.refl _ _).drew
set_option maxRecDepth 100000 in
set_option maxHeartbeats 2000000 in
theorem needed_hands (b1 b2 : Nat) (ao : Option Addr) (cap : Nat) (P : List Nat) (d : Nat) (h0 : P ≠ []) (hn : P.length ≤ 1000) (hP : ∀ x ∈ P, x < 2 ^ d) (hd : d ≤ 16) :
    HandsMid Tryz.prog 59 #[.pointer (some ⟨b1, 0, none⟩), .pointer (some ⟨b2, 0, none⟩)] (fun k => #[.int .i64 (encA P d k : Int), .int .u64 (encB P d k : Int)]) (pre (needM (lvs P d) d) d)
      (fun W => W.cell? ⟨b1, 0, none⟩ = some (.slice ao P.length cap) ∧ W.cell? ⟨b2, 0, none⟩ = some (.int .i64 (d : Int)) ∧ Nums ao P W) := by
  rintro l J W ⟨hc1, hc2, hN⟩ hY h0J
  have hp16 : 2 ^ d ≤ 2 ^ 16 := Nat.pow_le_pow_right (by decide) hd
  have hLn : (lvs P d).length = P.length := by simp
  have hL0 : lvs P d ≠ [] := fun e => h0 (List.map_eq_nil_iff.1 e)
  have hLt : ∀ x ∈ lvs P d, x < 2 ^ d := by
    intro x hx
    obtain ⟨y, hy, rfl⟩ := List.mem_map.1 hx
    exact turnB_lt hd (hP y hy)
  have HL := Lib.hid (fun wz (h : NeS b1 b2 (.slice ao P.length cap) (.int .i64 (d : Int)) W wz) => mleaves_any ao cap P (d : Int) wz (nums_next hN h.2.2) (by omega) (fun x hx => by have := hP x hx; omega))
  have HD := Lib.hid (fun B wz (h : wz.heap[B]? = some (.cells (ups (lvs P d) P.length).toArray 33 (0, 0))) => needs_in (some ⟨B, 0, none⟩) P.length (lvs P d) P.length d wz (nums_ups (by rw [hLn]; exact h)) hLn hL0 (by omega) hLt hd)
  have HML := Lib.hid (needM_len (lvs P d) d)
  have H49 := Lib.hid (show ∀ i (h : i < (needM (lvs P d) d).length), ((needM (lvs P d) d)[i]).length ≤ 1000 from fun i h => by
    have h1 := need_le ((needs_M hLt).2 i _ (List.getElem?_eq_getElem h))
    simp only [upTo, List.length_map] at h1
    omega)
  have HEN := Lib.hid (fun i j x N hi hj => enc_at (P := P) (d := d) (i := i) (j := j) (x := x) (N := N) hi hj)
  have HPS := Lib.hid (fun i (h : i < (needM (lvs P d) d).length) => pre_succ h)
  have HPL := Lib.hid (fun i j (h : i < (needM (lvs P d) d).length) hj => pre_lt (j := j) h hj)
  have HY := Lib.hid hY
  have HJ0 := Lib.hid h0J
  have n0 : (d : Int) ≤ 16 := by omega
  have n1 : (P.length : Int) ≤ 1000 := by omega
  clear hN hY h0J hP h0 hLn hL0 hLt hp16
  generalize needM (lvs P d) d = M at *
  refine (callsIn_wide (n := 1)).1 ?_
  refine callsIn_of_wp Tryz.func59 rfl trivial ?_ rfl
  simp only [Tryz.ntmps59, List.size_toArray, List.length_cons, List.length_nil, Nat.reduceAdd, Nat.reduceSub, Array.replicate_succ, Array.replicate_zero, List.push_toArray, List.append_toArray, List.nil_append, List.cons_append]
  gi_wp2
  refine wpIn_wide.2 ?_
  have hs0 : NeS b1 b2 (.slice ao P.length cap) (.int .i64 (d : Int)) W W := ⟨hc1, hc2, Below.refl _ _⟩
  have hs1 := ne_drew hs0
  go_region_held3 (fun wz => NeS b1 b2 (.slice ao P.length cap) (.int .i64 (d : Int)) W wz)
      (first | (with_reducible assumption) | (with_reducible exact ne_drew (by assumption)))
      (first
        | (go_at_call 60; refine (HL.out _ (by with_reducible assumption)).mono ?_; rintro e w2 ⟨rfl, hrow, hb2⟩; have hs2 := ne_next (by with_reducible assumption) hb2)
        | (go_at_call 46; refine (HD.out _ _ hrow).mono ?_; rintro e w3 ⟨bo, cp, rfl, hin, hb3⟩; have hs3 := ne_next (by with_reducible assumption) hb3))
  obtain ⟨lo, hlo⟩ : ∃ lo, lo = w2.heap.size := ⟨_, rfl⟩
  obtain ⟨mid, hmid⟩ : ∃ mid, mid = w3.heap.size := ⟨_, rfl⟩
  have HIN0 : Hid (RowsIn lo mid bo M w3) := Lib.hid (by rw [hlo, hmid]; exact hin)
  have HW3 : Hid (W.heap.size ≤ lo ∧ W.heap.size ≤ mid ∧ mid ≤ w3.heap.size ∧ Kept (fun _ => True) W w3) := Lib.hid ⟨by rw [hlo]; exact hs2.2.2.size, by rw [hmid]; exact hs3.2.2.size, by rw [hmid]; exact Nat.le_refl _, hs3.2.2.os, hs3.2.2.tape, hs3.2.2.output, hs3.2.2.size, fun j hj _ => hs3.2.2.block j hj⟩
  have HJ1 := Lib.hid (show J mid (pre M 0) W by rw [pre_zero]; exact HJ0.out mid)
  clear hs0 hs1 hrow hb2 hs2 hin hb3 hs3 hlo hmid HJ0 HL HD hc1 hc2
  gi_wp2
  gi_loopw [4, 5, 7, 14] (fun v4 v5 v7 v14 wr => ∃ i : Nat, i ≤ d ∧ v14 = .int .i64 (i : Int) ∧ Hid (∃ W1, J mid (pre M i) W1 ∧ Kept (fun _ => True) W1 wr) ∧ Hid (RowsIn lo mid bo M wr) ∧ Hid (mid ≤ wr.heap.size)) (fun _ _ _ v14 _ => d - (intOf v14).toNat)
  case atStart => exact ⟨0, Nat.zero_le _, rfl, Lib.hid ⟨W, HJ1.out, HW3.out.2.2.2⟩, HIN0, Lib.hid HW3.out.2.2.1⟩
  case round =>
    obtain ⟨i, hi, rfl, HJ, HIN, HZ⟩ := hrel
    by_cases hid : i < d
    · have hl : (i : Int) < (d : Int) := by omega
      have i0 : (0 : Int) ≤ (i : Int) := by omega
      have hiM : i < M.length := by rw [HML.out]; exact hid
      have hq := HIN.out
      rcases hq with hM0 | ⟨b, rfl, g1, g2, g3⟩
      · rw [hM0] at hiM; simp at hiM
      obtain ⟨ai, ci, hcell, hrow⟩ := g3 i hiM
      have H49i := H49.out i hiM
      have HPi := Lib.hid (HPS.out i hiM)
      have HPLi := Lib.hid (fun j hj => HPL.out i j hiM hj)
      have HENi := Lib.hid (fun j x hj => HEN.out i j x _ (List.getElem?_eq_getElem hiM) hj)
      obtain ⟨N, hNe⟩ : ∃ N, N = M[i] := ⟨_, rfl⟩
      rw [← hNe] at hcell hrow H49i HPi HPLi HENi
      have HROW := Lib.hid hrow
      have n49 : (N.length : Int) ≤ 1000 := by omega
      clear hNe hrow g3 hiM
      gi_wp2
      gi_loopw [7, 21] (fun v7 v21 wr2 => ∃ j : Nat, j ≤ N.length ∧ v21 = .int .i64 (j : Int) ∧ Hid (∃ W1, J mid (pre M i + j) W1 ∧ Kept (fun _ => True) W1 wr2) ∧ Hid (RowsIn lo mid (some ⟨b, 0, none⟩) M wr2) ∧ Hid (RowAt lo mid ai N wr2) ∧ Hid (mid ≤ wr2.heap.size)) (fun _ v21 _ => N.length - (intOf v21).toNat)
      case atStart => exact ⟨0, Nat.zero_le _, rfl, HJ, HIN, HROW, HZ⟩
      case round =>
        obtain ⟨j, hj, rfl, HJ2, HIN2, HROW2, HZ2⟩ := hrel
        by_cases hjl : j < N.length
        · have hl2 : (j : Int) < (N.length : Int) := by omega
          have j0 : (0 : Int) ≤ (j : Int) := by omega
          have hq := HROW2.out
          rcases hq with h0 | ⟨g, rfl, g1, g2, g3⟩
          · rw [h0] at hjl; simp at hjl
          have hx := g3 j hjl
          have hen := HENi.out j _ (List.getElem?_eq_getElem hjl)
          obtain ⟨x, hxe⟩ : ∃ x, x = N[j] := ⟨_, rfl⟩
          rw [← hxe] at hx hen
          obtain ⟨W1, hj1, hk1⟩ := HJ2.out
          have HY2 := HY.out mid (pre M i + j) W1 wr HW3.out.2.1 HZ2.out (by rw [← HML.out]; exact HPLi.out j hjl) hj1 hk1
          simp only [hen.1, hen.2] at HY2
          obtain ⟨fn, tmps, assign, body, hy, hR⟩ := HY2
          clear hj1 hk1 hen hxe g3
          gi_wp2
          refine hR.mono ?_
          rintro e w4 ⟨rfl, hj2, hk2⟩
          have HJ3 := Lib.hid hj2
          have HK := Lib.hid (hk2.less (T := fun j => lo ≤ j ∧ j < mid) fun j _ h => ⟨Nat.le_trans HW3.out.1 h.1, h.2⟩)
          clear hR hy hj2 hk2
          gi_wp2
          go_roundw
          case rel => exact ⟨j + 1, hjl, by go_num, Lib.hid ⟨w4, HJ3.out, Kept.refl _ _⟩, Lib.hid (HIN2.out.kept HZ2.out HK.out), Lib.hid (HROW2.out.kept HZ2.out HK.out), Lib.hid (Nat.le_trans HZ2.out HK.out.size)⟩
          case measure => simp [intOf] <;> omega
        · have hl2 : ¬ (j : Int) < (N.length : Int) := by omega
          have HJ3 := Lib.hid (show ∃ W1, J mid (pre M (i + 1)) W1 ∧ Kept (fun _ => True) W1 wr by
            have hjn : j = N.length := by omega
            rw [HPi.out, ← hjn]; exact HJ2.out)
          gi_wp2
          go_roundw
          case rel => exact ⟨i + 1, hid, by go_num, HJ3, HIN2, HZ2⟩
          case measure => simp [intOf] <;> omega
    · have hl : ¬ (i : Int) < (d : Int) := by omega
      have HF := Lib.hid (show ∃ W1, J mid (pre M d) W1 ∧ Kept (fun _ => True) W1 wr by
        have hin : i = d := by omega
        rw [← hin]; exact HJ.out)
      gi_wp2
      go_end0
      obtain ⟨W1, f1, f2⟩ := HF.out
      exact ⟨⟨_, rfl⟩, mid, HW3.out.2.1, W1, f1, f2⟩
end Go.Proofs.YtblimejnjboedaaGreatDoor
/- Ranges over a function whose iterator writes nothing: what the caller owes, at the wide fence. -/
namespace Go.Proofs.YtblimejnjboedaaGreatDoor
open Go.RowKit

/-- what is asked of an iterator that writes nothing, and hands over enc 0 .. enc (N - 1) -/
def HandsRead (P : Program) (gf : Nat) (lb : Array Value) (enc : Nat → Array Value) (N : Nat) (ok : World → Prop) : Prop :=
  ∀ (l : Nat) (J : Nat → World → Prop) (W : World), ok W →
    (∀ k W1 W', k < N → J k W1 → Kept (fun _ => True) W1 W' → YieldAt Fence.wide 0 P l (enc k) W' fun e W'' => e = .returned (.bool true) ∧ J (k + 1) W'' ∧ ok W'') →
    J 0 W → Calls P gf (#[.func (.yield l) #[] #[]] ++ lb) W fun e W' => (∃ v, e = .returned v) ∧ ∃ W1, J N W1 ∧ Kept (fun _ => True) W1 W'

theorem wp_rangeFunc_read {P : Program} {g : Operand} {ps : Array Tmp} {assign body : Code} {Q : Exit → Act → World → Prop} {a : Act} {w : World}
    {gf : Nat} {lb : Array Value} (hg : a.eval g = .func (.func gf) #[] lb) (eg : ∀ args w, (callFunc gf args).run P w = .ok (.enter gf args) w)
    {enc : Nat → Array Value} {N : Nat} {ok : World → Prop} (hseq : HandsRead P gf lb enc N ok) (hps : ∀ k, (enc k).size = ps.size)
    (lo : Nat) (hlo : w.heap.size = lo) (Own : List Nat) (hok : ∀ W', Kept (fun j => j < lo ∧ j ∉ Own) w W' → ok W')
    (R : Nat → World → Prop) (hR : ∀ k W W', R k W → Kept (fun j => j < lo ∨ lo + 2 ≤ j) W W' → R k W') (h0 : R 0 w) (a₁ : Nat → Act)
    (hassign : ∀ (l k : Nat) (W : World) (K : Act → World → Prop), K (a₁ k) W →
      assign.wpIn (Fence.wide.inRound l) 0 P (Exit.then K (fun _ _ _ => False)) { tmps := (ps.zip (enc k)).foldl (fun t (p, v) => t.setIfInBounds p v) a.tmps, defers := [] } W)
    (hbody : ∀ (l : Nat) (k : Nat) (W : World), k < N → lo + 2 ≤ W.heap.size → R k W →
      body.wpIn (Fence.wide.inRound l) 0 P (roundKept (fun j => (j < lo ∧ j ∉ Own) ∨ (lo ≤ j ∧ j < lo + 2)) (R (k + 1)) W) (a₁ k) W)
    (hdone : ∀ (W : World), R N W → Kept (fun j => j < lo ∧ j ∉ Own) w W → W.heap[lo]? = some (.deferred (some [])) → Q .normal { a with defers := { target := .collected lo, args := #[] } :: a.defers } W) :
    (Code.rangeFunc g ps assign body).wp P Q a w := by
  refine (wpIn_wide (n := 0)).1 (wpIn_rangeFunc ?_)
  intro fn hfn
  obtain ⟨rec, hrec⟩ : ∃ rec : LoopState → Option Code → Loop, rec = fun st pe => { state := st, pending := pe, fn, tmps := a.tmps, params := ps, assign, body, defers := lo } := ⟨_, rfl⟩
  obtain ⟨W1, hW1⟩ : ∃ W1, (w.alloc (.deferred (some []))).alloc (.loop (rec .ready none)) = W1 := ⟨_, rfl⟩
  have hz1 : W1.heap.size = lo + 2 := by rw [← hW1]; simp [hlo]
  have hL1 : W1.heap[lo + 1]? = some (.loop (rec .ready none)) := by
    rw [← hW1]; have := World.alloc_heap_new (w.alloc (.deferred (some []))) (.loop (rec .ready none)); rwa [World.size_alloc, hlo] at this
  have hK1 : W1.heap[lo]? = some (.deferred (some [])) := by
    rw [← hW1]
    have := World.alloc_heap_new w (.deferred (some []))
    rw [hlo] at this
    exact (Below.heap_alloc _ _ _ (by simp; omega)).trans this
  have hb1 : Below lo w W1 := by
    rw [← hW1]
    have := Below.refl lo w
    exact (this.alloc (by omega) _).alloc (by simp; omega) _
  have hk1 : Kept (fun j => j < lo ∧ j ∉ Own) w W1 := Kept.of_below hb1 fun j hj => hj.1
  refine ⟨w.heap.size + 1, [{ target := .collected w.heap.size, args := #[] }], W1, { target := .fn (.func gf) lb, args := #[.func (.yield (w.heap.size + 1)) #[] #[]] }, W1, gf,
    #[.func (.yield (w.heap.size + 1)) #[] #[]] ++ lb, W1, ?_, ?_, ?_, ?_, fun h => by simp [Fence.wide] at h, ?_⟩
  · rw [← hW1, hrec, ← hlo]; exact run_enterLoop_outer _ _ _ _ _
  · simp only [resolve, hg]
    simp [go_sem]
  · intro f' hf'; trivial
  · simp [invoke, go_sem, eg]
  · refine callsIn_wide.2 ?_
    rw [hlo]
    have key := hseq (lo + 1)
      (fun k W => R k W ∧ Kept (fun j => j < lo ∧ j ∉ Own) w W ∧ W.heap[lo + 1]? = some (.loop (rec .ready none)) ∧ W.heap[lo]? = some (.deferred (some [])) ∧ lo + 2 ≤ W.heap.size)
      W1 (hok W1 hk1) ?_ ⟨hR 0 _ _ h0 ⟨hb1.os, hb1.tape, hb1.output, hb1.size, fun j hj _ => hb1.block j (by omega)⟩, hk1, hL1, hK1, by omega⟩
    · refine key.mono ?_
      rintro e W2' ⟨⟨v, rfl⟩, W2, ⟨hr, hb, hl, hk, hz⟩, hkeep⟩
      have hl' : W2'.heap[lo + 1]? = some (.loop (rec .ready none)) := (hkeep.block _ (by omega) trivial).trans hl
      have hk' : W2'.heap[lo]? = some (.deferred (some [])) := (hkeep.block _ (by omega) trivial).trans hk
      refine ⟨none, _, by have := run_endLoop (P := P) hl' (by rw [hrec]; simp); rw [hrec] at this; exact this, ?_⟩
      have keep : ∀ j, j ≠ lo + 1 → (W2'.putObj (lo + 1) (.loop { rec .ready none with state := .exhausted })).heap[j]? = W2'.heap[j]? := fun j hj => World.putObj_heap_other (by omega)
      have kk : Kept (fun j => j < lo ∨ lo + 2 ≤ j) W2 (W2'.putObj (lo + 1) (.loop { rec .ready none with state := .exhausted })) :=
        (hkeep.less (fun j _ _ => trivial)).trans (Kept.putObj _ _ _ _ (by omega))
      have hq := hdone _ (hR N _ _ hr kk) (hb.trans (kk.less fun j _ hj => .inl hj.1)) ((keep _ (by omega)).trans hk')
      rw [hrec] at hq
      exact hq
    · rintro k W W' hkN ⟨hr, hb, hl, hk, hz⟩ hkeep
      have hsz' := hkeep.size
      have hl' : W'.heap[lo + 1]? = some (.loop (rec .ready none)) := (hkeep.block _ (by omega) trivial).trans hl
      have hk' : W'.heap[lo]? = some (.deferred (some [])) := (hkeep.block _ (by omega) trivial).trans hk
      have hr' : R k W' := hR k _ _ hr (hkeep.less fun j _ _ => trivial)
      have hb' : Kept (fun j => j < lo ∧ j ∉ Own) w W' := hb.trans (hkeep.less fun j _ _ => trivial)
      have hy := run_yield (P := P) (args := enc k) hl' (by rw [hrec]; exact hps _)
      rw [hrec] at hy
      have hlt' : lo + 1 < W'.heap.size := by omega
      refine ⟨fn, _, assign, body, hy, roundIn_of_wpIn hfn (hassign _ k W' _ ⟨_, run_beginRound hl' (by rw [hrec]), ?_⟩)⟩
      obtain ⟨Wb, hWb⟩ : ∃ Wb, W'.putObj (lo + 1) (.loop { rec .ready none with state := .busy }) = Wb := ⟨_, rfl⟩
      have hl2 : Wb.heap[lo + 1]? = some (.loop { rec .ready none with state := .busy }) := by rw [← hWb]; exact World.putObj_heap_same hlt'
      have keepb : ∀ j, j ≠ lo + 1 → Wb.heap[j]? = W'.heap[j]? := fun j hj => by rw [← hWb]; exact World.putObj_heap_other (by omega)
      have hzb : Wb.heap.size = W'.heap.size := by rw [← hWb]; simp [World.putObj]
      have kb : Kept (fun j => j ≠ lo + 1) W' Wb := by rw [← hWb]; exact Kept.putObj _ _ _ _ (by simp)
      have hbb := hbody (lo + 1) k Wb hkN (by omega) (hR k _ _ hr' (kb.less fun j _ hj => by omega))
      rw [← hWb] at hbb hl2 keepb hzb kb
      refine wpIn_mono hbb ?_
      rw [hWb] at hl2 keepb hzb kb ⊢
      rintro e a3 W3 hp3
      cases e with
      | normal =>
        obtain ⟨hb3, hr3⟩ := hp3
        have hl3 : W3.heap[lo + 1]? = some (.loop { rec .ready none with state := .busy }) := (hb3.block _ (by omega) (.inr ⟨by omega, by omega⟩)).trans hl2
        have hk3 : W3.heap[lo]? = some (.deferred (some [])) := (hb3.block _ (by omega) (.inr ⟨by omega, by omega⟩)).trans ((keepb _ (by omega)).trans hk')
        have hend : (Instr.endRound (lo + 1) none).run P W3 = .ok (.bool true) (W3.putObj (lo + 1) (.loop (rec .ready none))) := by
          have := run_endRound (P := P) none hl3
          rw [hrec] at this ⊢
          exact this
        have hz3 := hb3.size
        have ke : Kept (fun j => j ≠ lo + 1) W3 (W3.putObj (lo + 1) (.loop (rec .ready none))) := Kept.putObj _ _ _ _ (by simp)
        have hfin : Kept (fun j => j < lo ∧ j ∉ Own) w (W3.putObj (lo + 1) (.loop (rec .ready none))) := ((hb'.trans (kb.less fun j _ hj => by omega)).trans (hb3.less fun j _ hj => .inl hj)).trans (ke.less fun j _ hj => by omega)
        exact ⟨_, _, hend, rfl, ⟨hR _ _ _ hr3 (ke.less fun j _ hj => by omega), hfin, World.putObj_heap_same (by omega), (World.putObj_heap_other (by omega)).trans hk3, by simp [World.putObj]; omega⟩, hok _ hfin⟩
      | ret => exact hp3.elim
      | exit id => exact hp3.elim
      | goto t => exact hp3.elim
      | panic ch => exact hp3.elim
      | outgrown => exact hp3.elim
end Go.Proofs.YtblimejnjboedaaGreatDoor
