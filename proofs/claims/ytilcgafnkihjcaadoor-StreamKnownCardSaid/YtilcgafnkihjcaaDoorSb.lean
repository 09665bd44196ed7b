/- A stream's memory; New, Place, Copy; and the iterator that draws byte by byte. -/
import Derived.Test.YtilcgafnkihjcaaDoorSa
import Derived.Test.YtilcgafnkihjcaaDoorDc
import Derived.Deep.RegionHeld3
namespace Go.Proofs.YtilcgafnkihjcaaDoor
open Go.RowKit
attribute [local go_sem] Oper.semAt_some

def stag : List UInt8 := [115, 116, 114, 101, 97, 109]
/-- block number i of a seed's stream -/
def blockL (seed : List UInt8) (i : Nat) : List UInt8 := hashL stag [seed, numL i]
theorem blockL_length (seed : List UInt8) (i : Nat) : (blockL seed i).length = 32 := by
  rw [blockL, hashL, if_pos (by decide)]; exact shaL_length _
/-- the byte at a place of a seed's stream -/
def byteL (seed : List UInt8) (p : Nat) : UInt8 := (blockL seed (p / 32)).getD (p % 32) 0

/-- the stream at block b: its seed, the block that it keeps, its place -/
def StAt (b : Nat) (seed : List UInt8) (p : Nat) (w : World) : Prop :=
  ∃ blk : List UInt8, w.heap[b]? = some (.cells ([Value.string ⟨seed.toArray⟩, .string ⟨blk.toArray⟩, .int .u64 (p : Int)] : List Value).toArray 52 (0, 0)) ∧ (p % 32 ≠ 0 → blk = blockL seed (p / 32))

theorem StAt.lt {b : Nat} {seed : List UInt8} {p : Nat} {w : World} (h : StAt b seed p w) : b < w.heap.size := by
  obtain ⟨_, h, _⟩ := h; exact (Array.getElem?_eq_some_iff.1 h).1
theorem StAt.same {b : Nat} {seed : List UInt8} {p : Nat} {w w' : World} (h : StAt b seed p w) (e : w'.heap[b]? = w.heap[b]?) : StAt b seed p w' := by
  obtain ⟨blk, h, hb⟩ := h; exact ⟨blk, e.trans h, hb⟩
theorem StAt.place {b : Nat} {seed : List UInt8} {p : Nat} {w : World} (h : StAt b seed p w) : w.cell? ⟨b, 2, none⟩ = some (.int .u64 (p : Int)) := by
  obtain ⟨_, h, _⟩ := h; rw [row_cell h]; rfl

set_option maxHeartbeats 400000 in
theorem sNew_any (seed : List UInt8) (w : World) (hs : seed.length = 32) :
    Calls Tryd.prog 7 #[.string ⟨seed.toArray⟩] w fun e w' => e = .returned (.tuple #[.pointer (some ⟨w.heap.size, 0, none⟩), .int .i64 0]) ∧ StAt w.heap.size seed 0 w' ∧ Below w.heap.size w w' := by
  go_enter Tryd.func7, Tryd.ntmps7
  go_wp2
  go_ret2
  exact ⟨rfl, ⟨[], heap_alloc_new w _, by simp⟩, (Below.refl _ _).alloc (Nat.le_refl _) _⟩

set_option maxHeartbeats 400000 in
theorem sNew_bad (seed : List UInt8) (w : World) (hs : seed.length ≠ 32) (_hm : seed.length ≤ maxLen) :
    Calls Tryd.prog 7 #[.string ⟨seed.toArray⟩] w fun e w' => e = .returned (.tuple #[.pointer none, .int .i64 2]) ∧ w' = w := by
  go_enter Tryd.func7, Tryd.ntmps7
  go_wp2
  go_ret2
  exact ⟨rfl, rfl⟩

set_option maxHeartbeats 400000 in
theorem sPlace_any (b : Nat) (seed : List UInt8) (p : Nat) (w : World) (h : StAt b seed p w) :
    Calls Tryd.prog 16 #[.pointer (some ⟨b, 0, none⟩)] w fun e w' => e = .returned (.int .u64 (p : Int)) ∧ w' = w := by
  have hc := h.place
  go_enter Tryd.func16, Tryd.ntmps16
  go_wp2
  go_ret
  exact ⟨rfl, rfl⟩

set_option maxHeartbeats 400000 in
theorem sDraw_any (b n : Nat) (w : World) :
    Calls Tryd.prog 21 #[.pointer (some ⟨b, 0, none⟩), .int .i64 (n : Int)] w fun e w' => e = .returned (.func (.func 29) #[] #[.pointer (some ⟨w.heap.size + 1, 0, none⟩), .pointer (some ⟨w.heap.size, 0, none⟩)]) ∧
      w' = (w.alloc (.cells #[.pointer (some ⟨b, 0, none⟩)] 23)).alloc (.cells #[.int .i64 (n : Int)] 3) := by
  go_enter Tryd.func21, Tryd.ntmps21
  go_wp2
  go_ret
  exact ⟨rfl, rfl⟩

theorem block_any (seed : List UInt8) (hseed : seed.length = 32) (i g : Nat) (w : World) (hg : Glob w) (hs : Strs (some ⟨g, 0, none⟩) [seed, numL i] w) :
    Calls Tryd.prog 19 #[.string ⟨#[115, 116, 114, 101, 97, 109]⟩, .slice (some ⟨g, 0, none⟩) 2 2] w fun e w' => e = .returned (.string ⟨(blockL seed i).toArray⟩) ∧ Below w.heap.size w w' :=
  hash_any stag (some ⟨g, 0, none⟩) 2 [seed, numL i] w hg hs (by decide) (by
    have : (framed stag [seed, numL i]).length = 63 := by simp [framed, partL_length, stag, hseed, numL_length]
    omega)

theorem keep_far {w : World} {b Bs : Nat} {v u : Value} (h : Bs ≠ b) (hc : w.cell? ⟨Bs, 0, none⟩ = some u) : (w.setCell ⟨b, 1, none⟩ v).cell? ⟨Bs, 0, none⟩ = some u :=
  (World.cell?_setCell_far _ _ _ _ (fun e => h e.symm)).trans hc
theorem keep_0 {w : World} {b : Nat} {v u : Value} (hc : w.cell? ⟨b, 0, none⟩ = some u) : (w.setCell ⟨b, 1, none⟩ v).cell? ⟨b, 0, none⟩ = some u :=
  (World.cell?_setCell_other _ _ _ _ (by intro e; cases e)).trans hc
theorem keep_2 {w : World} {b : Nat} {v u : Value} (hc : w.cell? ⟨b, 2, none⟩ = some u) : (w.setCell ⟨b, 1, none⟩ v).cell? ⟨b, 2, none⟩ = some u :=
  (World.cell?_setCell_other _ _ _ _ (by intro e; cases e)).trans hc

/-- where the iterator stands -/
def Pos (b Bn Bs : Nat) (seed : List UInt8) (p N : Nat) (k : Nat) (W : World) : Prop :=
  StAt b seed (p + k) W ∧ Glob W ∧ W.cell? ⟨Bn, 0, none⟩ = some (.int .i64 (N : Int)) ∧ W.cell? ⟨Bs, 0, none⟩ = some (.pointer (some ⟨b, 0, none⟩))

/-- the place goes on by one -/
theorem step_pos {b Bn Bs : Nat} {seed blk : List UInt8} {p N k q : Nat} {W wx : World} (hP : Pos b Bn Bs seed p N k W) (hbut : But b W wx) (hq : p + k = q)
    (hrow : wx.heap[b]? = some (.cells ([Value.string ⟨seed.toArray⟩, .string ⟨blk.toArray⟩, .int .u64 (q : Int)] : List Value).toArray 52 (0, 0))) (hblk : blk = blockL seed (q / 32)) (hb : 2 ≤ b) (hbs : Bs ≠ b) (hbn : Bn ≠ b) :
    But b W (wx.setCell ⟨b, 2, none⟩ (.int .u64 ((q : Int) + 1))) ∧ Pos b Bn Bs seed p N (k + 1) (wx.setCell ⟨b, 2, none⟩ (.int .u64 ((q : Int) + 1))) := by
  have h1 : But b W (wx.setCell ⟨b, 2, none⟩ (.int .u64 ((q : Int) + 1))) := hbut.setCell _ _
  obtain ⟨hst, hg, hn, hs⟩ := hP
  refine ⟨h1, ⟨blk, ?_, fun hne => ?_⟩, hg.below (Nat.le_refl _) (h1.below (by have := hst.lt; omega) hb), ?_, ?_⟩
  · have := heap_setCells_row [Value.int .u64 ((q : Int) + 1)] 2 _ wx hrow (by simp)
    rw [show p + (k + 1) = q + 1 by omega, Int.natCast_add]
    exact this
  · rw [hblk]; congr 1; omega
  · have hlt := World.block_lt_of_cell? W _ hn
    unfold World.cell? at hn ⊢
    rw [h1.block Bn hlt hbn]; exact hn
  · have hlt := World.block_lt_of_cell? W _ hs
    unfold World.cell? at hs ⊢
    rw [h1.block Bs hlt hbs]; exact hs

theorem byteL_index {seed blk : List UInt8} {q r : Nat} (hblk : blk = blockL seed (q / 32)) (hr : q % 32 = r) : ∀ w, (Instr.index 9 (.string ⟨blk.toArray⟩) (.int .u64 (r : Int))).run Tryd.prog w = .ok (.int .u8 ((byteL seed q).toNat : Int)) w := by
  intro w
  have hl : blk.length = 32 := by rw [hblk]; exact blockL_length _ _
  have hlt : r < blk.length := by omega
  rw [run_index_string w 9 _ _ _ Tryd.underlying9, dif_pos ⟨by omega, by show (r : Int) < (blk.length : Int); omega⟩]
  have e : byteL seed q = blk[r] := by rw [byteL, hr, ← hblk, List.getD_eq_getElem?_getD, List.getElem?_eq_getElem hlt]; rfl
  rw [e]
  rfl

set_option maxRecDepth 100000 in
set_option maxHeartbeats 2000000 in
theorem draw1_hands (b Bn Bs : Nat) (seed : List UInt8) (hseed : seed.length = 32) (p N : Nat) (hpN : p + N < 18446744073709551616) (hN : N < 1000000000) (hb : 2 ≤ b) (hbs : Bs ≠ b) (hbn : Bn ≠ b) :
    Hands Tryd.prog 29 #[.pointer (some ⟨Bn, 0, none⟩), .pointer (some ⟨Bs, 0, none⟩)] (fun x : UInt8 => #[.int .u8 (x.toNat : Int)]) b (Pos b Bn Bs seed p N) N (fun k => byteL seed (p + k)) := by
  intro l J W hJ hY h0
  have hn0 := (hJ 0 W h0).2.2.1
  refine (callsIn_wide (n := 1)).1 ?_
  refine callsIn_of_wp Tryd.func29 rfl trivial ?_ rfl
  simp only [Tryd.ntmps29, List.size_toArray, List.length_cons, List.length_nil, Nat.reduceAdd, Nat.reduceSub, Array.replicate_succ, Array.replicate_zero, List.push_toArray, List.append_toArray, List.nil_append, List.cons_append]
  gi_wp2
  gi_loopw [6] (fun i wr => ∃ k : Nat, k ≤ N ∧ i = .int .i64 (k : Int) ∧ J k wr) (fun i _ => N - (intOf i).toNat)
  case atStart => exact ⟨0, by omega, rfl, h0⟩
  case round =>
    obtain ⟨k, hk, rfl, hj⟩ := hrel
    by_cases hlt : k < N
    · obtain ⟨hst, hgl, -, hcs⟩ := hJ k wr hj
      have hcp := hst.place
      obtain ⟨blk, hrow, hblk⟩ := hst
      have hc0 : wr.cell? ⟨b, 0, none⟩ = some (.string ⟨seed.toArray⟩) := by rw [row_cell hrow]; rfl
      have hc1 : wr.cell? ⟨b, 1, none⟩ = some (.string ⟨blk.toArray⟩) := by rw [row_cell hrow]; rfl
      have hf1 : wr.frozen? ⟨b, 1, none⟩ = false := row_free hrow 1
      have hf2 : wr.frozen? ⟨b, 2, none⟩ = false := row_free hrow 2
      obtain ⟨q, hq⟩ : ∃ q, p + k = q := ⟨_, rfl⟩
      have hpos := hJ k wr hj
      have HY := Lib.hid hY
      have HJ := Lib.hid hj
      have HQ := Lib.hid hq
      rw [hq] at hcp hrow hblk
      have hq64 : q + 1 < 18446744073709551616 := by omega
      obtain ⟨r, hr⟩ : ∃ r, q % 32 = r := ⟨_, rfl⟩
      have hx0 := fun blk hb => byteL_index (seed := seed) (blk := blk) (q := q) (r := r) hb hr
      have e1 : (q : Int) % 32 = (r : Int) := by omega
      have hr32 : r < 32 := by omega
      have HR := Lib.hid hr
      obtain ⟨c, hc⟩ : ∃ c, (byteL seed q).toNat = c := ⟨_, rfl⟩
      rw [hc] at hx0
      have HC := Lib.hid hc
      have HX0 := Lib.hid hx0
      have HP := Lib.hid hpos
      clear hY hj hq hr hx0 hc hpos
      by_cases ha : r = 0
      · subst ha
        obtain ⟨i, hi⟩ : ∃ i, q / 32 = i := ⟨_, rfl⟩
        have e2 : (q : Int) / 32 = (i : Int) := by omega
        have hin : i < 18446744073709551616 := by omega
        have HI := Lib.hid hi
        have hwi : IntKind.u64.wrap (i : Int) = (i : Int) := by rw [wrap_u64]; omega
        have HX := Lib.hid (HX0.out (blockL seed i) (by rw [hi]))
        clear hi hblk HX0
        obtain ⟨B, hB⟩ : ∃ B, blockL seed i = B := ⟨_, rfl⟩
        have hBl : B.length = 32 := by rw [← hB]; exact blockL_length _ _
        have HB := Lib.hid hB
        have HH := Lib.hid (fun g w' hg' hs' => block_any seed hseed i g w' hg' hs')
        rw [hB] at HH
        clear hB
        gi_wp2
        refine wpIn_wide.2 ?_
        have hblt : b < wr.heap.size := World.block_lt_of_cell? wr _ hc0
        have hb2' : 2 ≤ wr.heap.size := by omega
        have hBslt : Bs < wr.heap.size := World.block_lt_of_cell? wr _ hcs
        have HG := Lib.hid hgl
        clear hgl
        go_region_held3 (fun w' => w'.cell? ⟨Bs, 0, none⟩ = some (.pointer (some ⟨b, 0, none⟩)) ∧ w'.cell? ⟨b, 0, none⟩ = some (.string ⟨seed.toArray⟩) ∧ w'.cell? ⟨b, 2, none⟩ = some (.int .u64 (q : Int)))
          (first | (exact ⟨keep_far hbs ((hbb.cell (p := ⟨Bs, 0, none⟩) hBslt).trans hcs), keep_0 ((hbb.cell (p := ⟨b, 0, none⟩) hblt).trans hc0), keep_2 ((hbb.cell (p := ⟨b, 2, none⟩) hblt).trans hcp)⟩) | (exact ⟨(hbb.cell (p := ⟨Bs, 0, none⟩) hBslt).trans hcs, (hbb.cell (p := ⟨b, 0, none⟩) hblt).trans hc0, (hbb.cell (p := ⟨b, 2, none⟩) hblt).trans hcp⟩) | (exact ⟨(hb1.cell (p := ⟨Bs, 0, none⟩) hBslt).trans hcs, (hb1.cell (p := ⟨b, 0, none⟩) hblt).trans hc0, (hb1.cell (p := ⟨b, 2, none⟩) hblt).trans hcp⟩) | (go_keep; done))
          (first | (go_at_call 20; refine (num_any i _).mono ?_; rintro e w1 ⟨rfl, hb1⟩) | (go_at_call 19; have hba : Below wr.heap.size wr (w1.alloc (.cells #[.string ⟨seed.toArray⟩, .string ⟨(numL i).toArray⟩] 9)) := ((Below.refl _ wr).drew.trans hb1).alloc hb1.size _; refine (HH.out w1.heap.size _ (HG.out.below (by omega) hba) (strs_new w1 [seed, numL i] _ rfl)).mono ?_; rintro e w2 ⟨rfl, hb2⟩; have hbb : Below wr.heap.size wr w2 := hba.trans (hb2.mono (by have := hb1.size; simp at this ⊢; omega)); have hcb := (hbb.cell (p := ⟨b, 1, none⟩) hblt).trans hc1; have hfb := (hbb.frozen (p := ⟨b, 1, none⟩) hblt).trans hf1; clear hba hb2 hb1))
        have hbx : But b wr (w2.setCell ⟨b, 1, none⟩ (.string ⟨B.toArray⟩)) := (But.of_below hbb).setCell _ _
        have hrowx : (w2.setCell ⟨b, 1, none⟩ (.string ⟨B.toArray⟩)).heap[b]? = some (.cells ([Value.string ⟨seed.toArray⟩, .string ⟨B.toArray⟩, .int .u64 (q : Int)] : List Value).toArray 52 (0, 0)) :=
          heap_setCells_row [Value.string ⟨B.toArray⟩] 1 _ w2 ((hbb.block b hblt).trans hrow) (by simp)
        generalize (w2.setCell ⟨b, 1, none⟩ (.string ⟨B.toArray⟩)) = wx at *
        clear hbb hcb hfb hrow
        have HP2 := Lib.hid (step_pos HP.out hbx HQ.out hrowx (by rw [HI.out, HB.out]) hb hbs hbn)
        have HY2 := Lib.hid (HY.out k wr _ hlt HJ.out HP2.out.1 HP2.out.2)
        rw [HQ.out, HC.out] at HY2
        obtain ⟨fn, tmps, assign, body, hy, hR⟩ := HY2.out
        have hx' := HX.out
        rw [HB.out] at hx'
        have hx : ∀ w, (Instr.index 9 (.string ⟨B.toArray⟩) (.int .u64 0)).run Tryd.prog w = .ok (.int .u8 (c : Int)) w := hx'
        clear hx'
        have hcsx : wx.cell? ⟨Bs, 0, none⟩ = some (.pointer (some ⟨b, 0, none⟩)) := by
          unfold World.cell? at hcs ⊢; rw [hbx.block Bs hBslt hbs]; exact hcs
        have hcpx : wx.cell? ⟨b, 2, none⟩ = some (.int .u64 (q : Int)) := by rw [row_cell hrowx]; rfl
        have hc1x : wx.cell? ⟨b, 1, none⟩ = some (.string ⟨B.toArray⟩) := by rw [row_cell hrowx]; rfl
        have hf2x : wx.frozen? ⟨b, 2, none⟩ = false := row_free hrowx 2
        clear hrowx
        gi_wp2
        refine hR.mono ?_
        rintro e W3 ⟨rfl, hj3⟩
        gi_wp2
        go_roundw
        case rel => exact ⟨k + 1, by omega, by go_num, hj3⟩
        case measure => simp [intOf]; omega
      · have hne : ¬ q % 32 = 0 := by rw [HR.out]; exact ha
        have hb' := hblk hne
        have HX := Lib.hid (HX0.out blk hb')
        have HB := Lib.hid hb'
        clear hblk hb' hne
        have HP2 := Lib.hid (step_pos HP.out (But.refl b wr) HQ.out hrow HB.out hb hbs hbn)
        have HY2 := Lib.hid (HY.out k wr _ hlt HJ.out HP2.out.1 HP2.out.2)
        rw [HQ.out, HC.out] at HY2
        obtain ⟨fn, tmps, assign, body, hy, hR⟩ := HY2.out
        have hx := HX.out
        gi_wp2
        refine hR.mono ?_
        rintro e W3 ⟨rfl, hj3⟩
        gi_wp2
        go_roundw
        case rel => exact ⟨k + 1, by omega, by go_num, hj3⟩
        case measure => simp [intOf]; omega
    · have ek : k = N := by omega
      subst ek
      gi_wp2
      go_end0
      exact ⟨⟨_, rfl⟩, hj⟩

end Go.Proofs.YtilcgafnkihjcaaDoor
