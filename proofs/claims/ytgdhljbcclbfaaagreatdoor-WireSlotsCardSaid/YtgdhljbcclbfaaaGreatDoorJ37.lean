/- The reference's layings: a participant, a signature, a slot, a reveal; Part, Slot, Msg, Header. -/
import Derived.Test.YtgdhljbcclbfaaaGreatDoorJ36
import Derived.Test.YtgdhljbcclbfaaaGreatDoorJ25
namespace Go.Proofs.YtgdhljbcclbfaaaGreatDoor
open Go.RowKit

theorem prsB_len (fs : List (UInt8 × (List UInt8))) : (prsB fs).length ≤ (fs.map fun f => 2 + f.2.length).sum := by
  unfold prsB prs
  induction fs with
  | nil => simp
  | cons f fs ih =>
    rw [List.filter_cons, List.map_cons, List.sum_cons]
    split
    · rw [List.flatMap_cons, List.length_append]
      simp only [List.length_cons]
      omega
    · omega
/-- what a laying's walk keeps: the thing, boxed at X; the map that is being laid, at b -/
structure Ly (w0 : World) (X : Nat) (cs : Array Value) (T : TypeId) (b : Nat) (fs : List (UInt8 × (List UInt8))) (wz : World) : Prop where
  o : Below w0.heap.size w0 wz
  x : wz.heap[X]? = some (.cells cs T (0, 0))
  l : LayAt b fs wz
  hb : w0.heap.size ≤ b
  ne : X ≠ b
theorem Ly.next {w0 wz wa : World} {X b : Nat} {cs : Array Value} {T : TypeId} {fs : List (UInt8 × (List UInt8))} (h : Ly w0 X cs T b fs wz) (hb : Below wz.heap.size wz wa) : Ly w0 X cs T b fs wa :=
  ⟨h.o.trans (hb.mono h.o.size), (hb.block X (lit_lt h.x)).trans h.x, (hb.block b (lit_lt h.l)).trans h.l, h.hb, h.ne⟩
theorem Ly.puts {w0 wz : World} {X b : Nat} {cs : Array Value} {T : TypeId} {fs : List (UInt8 × (List UInt8))} (c : UInt8) (v : (List UInt8)) (h : Ly w0 X cs T b fs wz) (h8 : fs.length < 100) (hB : (fs.map fun f => 2 + f.2.length).sum ≤ 1000000000) (hv : v.length ≤ 1000000000) :
    Calls Tryz.prog 60 #[.pointer (some ⟨b, 0, none⟩), .string ⟨#[c]⟩, .string ⟨v.toArray⟩] wz fun e w' => e = .returned (.tuple #[]) ∧ Ly w0 X cs T b (fs ++ [(c, v)]) w' := by
  refine (put_any b fs c v wz h.l h8 (Nat.le_trans (prsB_len fs) hB) hv).mono ?_
  rintro e w' ⟨rfl, hl, ho⟩
  exact ⟨rfl, h.o.trans (ho.below h.hb h.o.size), (ho.block X (lit_lt h.x) h.ne).trans h.x, hl, h.hb, h.ne⟩
theorem Ly.start (w : World) (cs : Array Value) (T : TypeId) : Ly w w.heap.size cs T (w.heap.size + 1) [] ((w.alloc (.cells cs T)).alloc (.cells #[.int .u64 0, .string ⟨#[]⟩] 123)) := by
  refine ⟨(by0 w _).alloc (by simp) _, lit_old _ (heap_alloc_new w _), ?_, by omega, by omega⟩
  unfold LayAt
  rw [show w.heap.size + 1 = (w.alloc (.cells cs T)).heap.size by simp]
  exact heap_alloc_new _ _
theorem Ly.start2 {w w1 : World} {X : Nat} {cs : Array Value} {T : TypeId} (hb : Below w.heap.size w w1) (hx : w1.heap[X]? = some (.cells cs T (0, 0))) : Ly w X cs T w1.heap.size [] (w1.alloc (.cells #[.int .u64 0, .string ⟨#[]⟩] 123)) :=
  ⟨hb.trans ((by0 w1 _).mono hb.size), lit_old _ hx, by unfold LayAt; exact heap_alloc_new _ _, hb.size, by have := lit_lt hx; omega⟩
theorem dig_len {s : (List UInt8)} (h : digB s = true) : s.length ≤ 5000 := by
  have : s.length = 32 := by simpa [digB] using h
  omega
theorem mapP_snoc_nil (fs : List (UInt8 × (List UInt8))) (c : UInt8) : mapP (fs ++ [(c, [])]) = mapP fs := by
  unfold mapP
  rw [prs_snoc, prsB_snoc, if_pos rfl, if_pos rfl]
theorem numZ_b (n : Nat) : (numZ n).length ≤ 10000 := by have := numZ_len n; omega
theorem binP_b (s : (List UInt8)) (h : s.length ≤ 5000) : (binP s).length ≤ 10000 := by have := rbinP_len s; omega
theorem digs_b (l : List (List UInt8)) (hl : l.length ≤ 10240) (h : ∀ x ∈ l, x.length ≤ 5000) : (digsP l).length ≤ 100000000 := rdigsP_len l hl h
theorem mapP_b (fs : List (UInt8 × (List UInt8))) (n : Nat) (h : (fs.map fun f => 2 + f.2.length).sum ≤ n) : (mapP fs).length ≤ n + 3 := by have := mapP_len fs; omega
theorem small_b (s : (List UInt8)) (n : Nat) (h : s.length ≤ n) : (smallP s).length ≤ n := Nat.le_trans (smallP_len s) h
theorem LayAt.skip {b : Nat} {fs : List (UInt8 × (List UInt8))} {w : World} (c : UInt8) (h : LayAt b fs w) : LayAt b (fs ++ [(c, [])]) w := by
  unfold LayAt
  rw [prs_snoc, prsB_snoc, if_pos rfl, if_pos rfl]
  exact h

set_option maxRecDepth 100000 in
set_option maxHeartbeats 1000000 in
theorem layPart_any (p : PartR) (w : World) (hI : PartIn p) (hr : p.root.length ≤ 5000) :
    Calls Tryz.prog 44 #[partV p] w fun e w' => e = .returned (.string ⟨(mapP (partF p)).toArray⟩) ∧ Below w.heap.size w w' := by
  show Calls Tryz.prog 44 _ w fun e w' => e = .returned (.string ⟨(mapP [(102, numZ p.first), (107, numZ p.keys), (108, numZ p.life), (114, binP p.root), (119, numZ p.weight)]).toArray⟩) ∧ Below w.heap.size w w'
  have K := Lib.hid (Ly.start w #[.string ⟨p.root.toArray⟩, .int .u64 (p.weight : Int), .int .u64 (p.first : Int), .int .u64 (p.life : Int), .int .u64 (p.keys : Int)] 24)
  have b0 : (numZ p.first).length ≤ 10000 := by have := numZ_b p.first; omega
  have b1 : (numZ p.keys).length ≤ 10000 := by have := numZ_b p.keys; omega
  have b2 : (numZ p.life).length ≤ 10000 := by have := numZ_b p.life; omega
  have b3 : (binP p.root).length ≤ 10000 := by have := binP_b p.root hr; omega
  have b4 : (numZ p.weight).length ≤ 10000 := by have := numZ_b p.weight; omega
  have HF0 := Lib.hid (fun (wz : World) (hz : Below w.heap.size w wz) => wnum_any p.first wz hI.f)
  have HF1 := Lib.hid (fun (wz : World) (hz : Below w.heap.size w wz) => wnum_any p.keys wz hI.k)
  have HF2 := Lib.hid (fun (wz : World) (hz : Below w.heap.size w wz) => wnum_any p.life wz hI.l)
  have HF3 := Lib.hid (fun (wz : World) (hz : Below w.heap.size w wz) => wbin_any p.root wz (by omega))
  have HF4 := Lib.hid (fun (wz : World) (hz : Below w.heap.size w wz) => wnum_any p.weight wz hI.w)
  have HP0 := Lib.hid (fun (b : Nat) (wz : World) (h : Ly w w.heap.size #[.string ⟨p.root.toArray⟩, .int .u64 (p.weight : Int), .int .u64 (p.first : Int), .int .u64 (p.life : Int), .int .u64 (p.keys : Int)] 24 b [] wz) => h.puts 102 (numZ p.first) (by simp) (by simp) (by omega))
  have HP1 := Lib.hid (fun (b : Nat) (wz : World) (h : Ly w w.heap.size #[.string ⟨p.root.toArray⟩, .int .u64 (p.weight : Int), .int .u64 (p.first : Int), .int .u64 (p.life : Int), .int .u64 (p.keys : Int)] 24 b [(102, numZ p.first)] wz) => h.puts 107 (numZ p.keys) (by simp) (by simp only [List.map_cons, List.map_nil, List.sum_cons, List.sum_nil]; omega) (by omega))
  have HP2 := Lib.hid (fun (b : Nat) (wz : World) (h : Ly w w.heap.size #[.string ⟨p.root.toArray⟩, .int .u64 (p.weight : Int), .int .u64 (p.first : Int), .int .u64 (p.life : Int), .int .u64 (p.keys : Int)] 24 b [(102, numZ p.first), (107, numZ p.keys)] wz) => h.puts 108 (numZ p.life) (by simp) (by simp only [List.map_cons, List.map_nil, List.sum_cons, List.sum_nil]; omega) (by omega))
  have HP3 := Lib.hid (fun (b : Nat) (wz : World) (h : Ly w w.heap.size #[.string ⟨p.root.toArray⟩, .int .u64 (p.weight : Int), .int .u64 (p.first : Int), .int .u64 (p.life : Int), .int .u64 (p.keys : Int)] 24 b [(102, numZ p.first), (107, numZ p.keys), (108, numZ p.life)] wz) => h.puts 114 (binP p.root) (by simp) (by simp only [List.map_cons, List.map_nil, List.sum_cons, List.sum_nil]; omega) (by omega))
  have HP4 := Lib.hid (fun (b : Nat) (wz : World) (h : Ly w w.heap.size #[.string ⟨p.root.toArray⟩, .int .u64 (p.weight : Int), .int .u64 (p.first : Int), .int .u64 (p.life : Int), .int .u64 (p.keys : Int)] 24 b [(102, numZ p.first), (107, numZ p.keys), (108, numZ p.life), (114, binP p.root)] wz) => h.puts 119 (numZ p.weight) (by simp) (by simp only [List.map_cons, List.map_nil, List.sum_cons, List.sum_nil]; omega) (by omega))
  have HW := Lib.hid (fun (b : Nat) (wz : World) (h : Ly w w.heap.size #[.string ⟨p.root.toArray⟩, .int .u64 (p.weight : Int), .int .u64 (p.first : Int), .int .u64 (p.life : Int), .int .u64 (p.keys : Int)] 24 b [(102, numZ p.first), (107, numZ p.keys), (108, numZ p.life), (114, binP p.root), (119, numZ p.weight)] wz) => whole_any b [(102, numZ p.first), (107, numZ p.keys), (108, numZ p.life), (114, binP p.root), (119, numZ p.weight)] wz h.l (by simp) (Nat.le_trans (prsB_len _) (by simp only [List.map_cons, List.map_nil, List.sum_cons, List.sum_nil]; omega)))
  simp only [List.cons_append, List.nil_append] at HP0 HP1 HP2 HP3 HP4
  clear b0 b1 b2 b3 b4
  generalize mapP [(102, numZ p.first), (107, numZ p.keys), (108, numZ p.life), (114, binP p.root), (119, numZ p.weight)] = MM at *
  generalize numZ p.first = V0 at *
  generalize numZ p.keys = V1 at *
  generalize numZ p.life = V2 at *
  generalize binP p.root = V3 at *
  generalize numZ p.weight = V4 at *
  go_enter Tryz.func44, Tryz.ntmps44
  go_upto_region 2 with fail
  change Code.wp _ _ _ _ ((w.alloc (.cells #[.string ⟨p.root.toArray⟩, .int .u64 (p.weight : Int), .int .u64 (p.first : Int), .int .u64 (p.life : Int), .int .u64 (p.keys : Int)] 24)).alloc (.cells #[.int .u64 0, .string ⟨#[]⟩] 123))
  generalize (w.alloc (.cells #[.string ⟨p.root.toArray⟩, .int .u64 (p.weight : Int), .int .u64 (p.first : Int), .int .u64 (p.life : Int), .int .u64 (p.keys : Int)] 24)).alloc (.cells #[.int .u64 0, .string ⟨#[]⟩] 123) = w1 at *
  have z2 := (lit_cell K.out.x 2).trans rfl
  go_wp2_with fail
  refine (HF0.out _ K.out.o).mono ?_
  rintro e wa0 ⟨rfl, hb⟩
  have K := Lib.hid (K.out.next hb)
  clear hb HF0 z2
  go_wp2_with fail
  refine (HP0.out _ _ K.out).mono ?_
  rintro e wc0 ⟨rfl, hk⟩
  have K := Lib.hid hk
  clear hk HP0
  have z4 := (lit_cell K.out.x 4).trans rfl
  go_wp2_with fail
  refine (HF1.out _ K.out.o).mono ?_
  rintro e wa1 ⟨rfl, hb⟩
  have K := Lib.hid (K.out.next hb)
  clear hb HF1 z4
  go_wp2_with fail
  refine (HP1.out _ _ K.out).mono ?_
  rintro e wc1 ⟨rfl, hk⟩
  have K := Lib.hid hk
  clear hk HP1
  have z3 := (lit_cell K.out.x 3).trans rfl
  go_wp2_with fail
  refine (HF2.out _ K.out.o).mono ?_
  rintro e wa2 ⟨rfl, hb⟩
  have K := Lib.hid (K.out.next hb)
  clear hb HF2 z3
  go_wp2_with fail
  refine (HP2.out _ _ K.out).mono ?_
  rintro e wc2 ⟨rfl, hk⟩
  have K := Lib.hid hk
  clear hk HP2
  have z0 := (lit_cell K.out.x 0).trans rfl
  go_wp2_with fail
  refine (HF3.out _ K.out.o).mono ?_
  rintro e wa3 ⟨rfl, hb⟩
  have K := Lib.hid (K.out.next hb)
  clear hb HF3 z0
  go_wp2_with fail
  refine (HP3.out _ _ K.out).mono ?_
  rintro e wc3 ⟨rfl, hk⟩
  have K := Lib.hid hk
  clear hk HP3
  have z1 := (lit_cell K.out.x 1).trans rfl
  go_wp2_with fail
  refine (HF4.out _ K.out.o).mono ?_
  rintro e wa4 ⟨rfl, hb⟩
  have K := Lib.hid (K.out.next hb)
  clear hb HF4 z1
  go_wp2_with fail
  refine (HP4.out _ _ K.out).mono ?_
  rintro e wc4 ⟨rfl, hk⟩
  have K := Lib.hid hk
  clear hk HP4
  go_wp2_with fail
  refine (HW.out _ _ K.out).mono ?_
  rintro e wd ⟨rfl, hb⟩
  go_wp2
  go_ret
  exact ⟨rfl, (K.out.next hb).o⟩
set_option maxRecDepth 100000 in
set_option maxHeartbeats 1000000 in
theorem laySig_any (g : SigR) (aw ap : Option Addr) (cw cp : Nat) (w : World) (hV : SigV g aw ap w) (hI : RSig g) :
    Calls Tryz.prog 106 #[.agg #[.int .u64 (g.index : Int), .slice aw g.wots.length cw, .slice ap g.path.length cp]] w fun e w' => e = .returned (.string ⟨(mapP (sigF g)).toArray⟩) ∧ Below w.heap.size w w' := by
  show Calls Tryz.prog 106 _ w fun e w' => e = .returned (.string ⟨(mapP [(105, numZ g.index), (112, digsP g.path), (118, digsP g.wots)]).toArray⟩) ∧ Below w.heap.size w w'
  have K := Lib.hid (Ly.start w #[.int .u64 (g.index : Int), .slice aw g.wots.length cw, .slice ap g.path.length cp] 46)
  have b0 : (numZ g.index).length ≤ 10000 := by have := numZ_b g.index; omega
  have b1 : (digsP g.path).length ≤ 100000000 := by have := digs_b g.path hI.pl hI.pt; omega
  have b2 : (digsP g.wots).length ≤ 100000000 := by have := digs_b g.wots hI.wl hI.wt; omega
  have HF0 := Lib.hid (fun (wz : World) (hz : Below w.heap.size w wz) => wnum_any g.index wz hI.i)
  have HF1 := Lib.hid (fun (wz : World) (hz : Below w.heap.size w wz) => digests_any ap cp g.path wz (hV.ps.below (Nat.le_refl _) hz) hI.pl hI.pt)
  have HF2 := Lib.hid (fun (wz : World) (hz : Below w.heap.size w wz) => digests_any aw cw g.wots wz (hV.ws.below (Nat.le_refl _) hz) hI.wl hI.wt)
  have HP0 := Lib.hid (fun (b : Nat) (wz : World) (h : Ly w w.heap.size #[.int .u64 (g.index : Int), .slice aw g.wots.length cw, .slice ap g.path.length cp] 46 b [] wz) => h.puts 105 (numZ g.index) (by simp) (by simp) (by omega))
  have HP1 := Lib.hid (fun (b : Nat) (wz : World) (h : Ly w w.heap.size #[.int .u64 (g.index : Int), .slice aw g.wots.length cw, .slice ap g.path.length cp] 46 b [(105, numZ g.index)] wz) => h.puts 112 (digsP g.path) (by simp) (by simp only [List.map_cons, List.map_nil, List.sum_cons, List.sum_nil]; omega) (by omega))
  have HP2 := Lib.hid (fun (b : Nat) (wz : World) (h : Ly w w.heap.size #[.int .u64 (g.index : Int), .slice aw g.wots.length cw, .slice ap g.path.length cp] 46 b [(105, numZ g.index), (112, digsP g.path)] wz) => h.puts 118 (digsP g.wots) (by simp) (by simp only [List.map_cons, List.map_nil, List.sum_cons, List.sum_nil]; omega) (by omega))
  have HW := Lib.hid (fun (b : Nat) (wz : World) (h : Ly w w.heap.size #[.int .u64 (g.index : Int), .slice aw g.wots.length cw, .slice ap g.path.length cp] 46 b [(105, numZ g.index), (112, digsP g.path), (118, digsP g.wots)] wz) => whole_any b [(105, numZ g.index), (112, digsP g.path), (118, digsP g.wots)] wz h.l (by simp) (Nat.le_trans (prsB_len _) (by simp only [List.map_cons, List.map_nil, List.sum_cons, List.sum_nil]; omega)))
  simp only [List.cons_append, List.nil_append] at HP0 HP1 HP2
  clear b0 b1 b2
  generalize mapP [(105, numZ g.index), (112, digsP g.path), (118, digsP g.wots)] = MM at *
  generalize numZ g.index = V0 at *
  generalize digsP g.path = V1 at *
  generalize digsP g.wots = V2 at *
  go_enter Tryz.func106, Tryz.ntmps106
  go_upto_region 2 with fail
  change Code.wp _ _ _ _ ((w.alloc (.cells #[.int .u64 (g.index : Int), .slice aw g.wots.length cw, .slice ap g.path.length cp] 46)).alloc (.cells #[.int .u64 0, .string ⟨#[]⟩] 123))
  generalize (w.alloc (.cells #[.int .u64 (g.index : Int), .slice aw g.wots.length cw, .slice ap g.path.length cp] 46)).alloc (.cells #[.int .u64 0, .string ⟨#[]⟩] 123) = w1 at *
  have z0 := (lit_cell K.out.x 0).trans rfl
  go_wp2_with fail
  refine (HF0.out _ K.out.o).mono ?_
  rintro e wa0 ⟨rfl, hb⟩
  have K := Lib.hid (K.out.next hb)
  clear hb HF0 z0
  go_wp2_with fail
  refine (HP0.out _ _ K.out).mono ?_
  rintro e wc0 ⟨rfl, hk⟩
  have K := Lib.hid hk
  clear hk HP0
  have z2 := (lit_cell K.out.x 2).trans rfl
  go_wp2_with fail
  refine (HF1.out _ K.out.o).mono ?_
  rintro e wa1 ⟨rfl, hb⟩
  have K := Lib.hid (K.out.next hb)
  clear hb HF1 z2
  go_wp2_with fail
  refine (HP1.out _ _ K.out).mono ?_
  rintro e wc1 ⟨rfl, hk⟩
  have K := Lib.hid hk
  clear hk HP1
  have z1 := (lit_cell K.out.x 1).trans rfl
  go_wp2_with fail
  refine (HF2.out _ K.out.o).mono ?_
  rintro e wa2 ⟨rfl, hb⟩
  have K := Lib.hid (K.out.next hb)
  clear hb HF2 z1
  go_wp2_with fail
  refine (HP2.out _ _ K.out).mono ?_
  rintro e wc2 ⟨rfl, hk⟩
  have K := Lib.hid hk
  clear hk HP2
  go_wp2_with fail
  refine (HW.out _ _ K.out).mono ?_
  rintro e wd ⟨rfl, hb⟩
  go_wp2
  go_ret
  exact ⟨rfl, (K.out.next hb).o⟩
theorem sigM_b (g : SigR) (hI : RSig g) : (mapP (sigF g)).length ≤ 200020012 := by
  have := mapP_b (sigF g) 200020009 (by
    unfold sigF
    simp only [List.map_cons, List.map_nil, List.sum_cons, List.sum_nil]
    have := numZ_b g.index; have := digs_b g.path hI.pl hI.pt; have := digs_b g.wots hI.wl hI.wt; omega)
  omega
set_option maxRecDepth 100000 in
set_option maxHeartbeats 1000000 in
theorem rMsg_any (m : MsgR) (w : World) (hI : MsgIn m) :
    Calls Tryz.prog 31 #[msgV m] w fun e w' => e = .returned (.tuple #[.string ⟨(layMsgP m).1.toArray⟩, .int .i64 (layMsgP m).2]) ∧ Below w.heap.size w w' := by
  have hB := by0 w (.cells #[.string ⟨m.headers.toArray⟩, .string ⟨m.parts.toArray⟩, .int .u64 (m.count : Int), .int .u64 (m.proven : Int), .int .u64 (m.first : Int), .int .u64 (m.last : Int)] 70)
  have hx := heap_alloc_new w (.cells #[.string ⟨m.headers.toArray⟩, .string ⟨m.parts.toArray⟩, .int .u64 (m.count : Int), .int .u64 (m.proven : Int), .int .u64 (m.first : Int), .int .u64 (m.last : Int)] 70)
  have HD0 := Lib.hid (fun wz => wdigest_any m.headers wz)
  have HD1 := Lib.hid (fun wz => wdigest_any m.parts wz)
  have z0 := (lit_cell hx 0).trans rfl
  have z1 := (lit_cell hx 1).trans rfl
  rcases Bool.eq_false_or_eq_true (digB m.headers) with d0 | d0
  rotate_left
  · have HE : layMsgP m = ([], 2) := by unfold layMsgP layOr; rw [if_neg (by simp [d0])]
    rw [HE]
    simp only [d0] at HD0
    clear HE hx d0
    go_enter Tryz.func31, Tryz.ntmps31
    go_upto_region 1 with fail
    change Code.wp _ _ _ _ (w.alloc (.cells #[.string ⟨m.headers.toArray⟩, .string ⟨m.parts.toArray⟩, .int .u64 (m.count : Int), .int .u64 (m.proven : Int), .int .u64 (m.first : Int), .int .u64 (m.last : Int)] 70))
    generalize w.alloc (.cells #[.string ⟨m.headers.toArray⟩, .string ⟨m.parts.toArray⟩, .int .u64 (m.count : Int), .int .u64 (m.proven : Int), .int .u64 (m.first : Int), .int .u64 (m.last : Int)] 70) = w1 at *
    go_wp2_with (go_at_call 43; (first | refine (HD0.out _).mono ?_ | refine (HD1.out _).mono ?_); rintro e w2 ⟨rfl, rfl⟩)
    refine bodyPost_ret (v := .tuple #[.string ⟨#[]⟩, .int .i64 2]) (by simp [results, Tryz.results31, go_sem]) rfl ⟨rfl, hB⟩
  rcases Bool.eq_false_or_eq_true (digB m.parts) with d1 | d1
  rotate_left
  · have HE : layMsgP m = ([], 2) := by unfold layMsgP layOr; rw [if_neg (by simp [d0, d1])]
    rw [HE]
    simp only [d0, d1] at HD0 HD1
    clear HE hx d0 d1
    go_enter Tryz.func31, Tryz.ntmps31
    go_upto_region 1 with fail
    change Code.wp _ _ _ _ (w.alloc (.cells #[.string ⟨m.headers.toArray⟩, .string ⟨m.parts.toArray⟩, .int .u64 (m.count : Int), .int .u64 (m.proven : Int), .int .u64 (m.first : Int), .int .u64 (m.last : Int)] 70))
    generalize w.alloc (.cells #[.string ⟨m.headers.toArray⟩, .string ⟨m.parts.toArray⟩, .int .u64 (m.count : Int), .int .u64 (m.proven : Int), .int .u64 (m.first : Int), .int .u64 (m.last : Int)] 70) = w1 at *
    go_wp2_with (go_at_call 43; (first | refine (HD0.out _).mono ?_ | refine (HD1.out _).mono ?_); rintro e w2 ⟨rfl, rfl⟩)
    refine bodyPost_ret (v := .tuple #[.string ⟨#[]⟩, .int .i64 2]) (by simp [results, Tryz.results31, go_sem]) rfl ⟨rfl, hB⟩
  have HE : layMsgP m = (mapP [(102, numZ m.first), (104, binP m.headers), (108, numZ m.last), (110, numZ m.count), (118, binP m.parts), (119, numZ m.proven)], 0) := by unfold layMsgP layOr; rw [if_pos (by simp [d0, d1])]; rfl
  rw [HE]
  have l0 := dig_len d0
  have l1 := dig_len d1
  have b0 : (numZ m.first).length ≤ 10000 := by have := numZ_b m.first; omega
  have b1 : (binP m.headers).length ≤ 10000 := by have := binP_b m.headers l0; omega
  have b2 : (numZ m.last).length ≤ 10000 := by have := numZ_b m.last; omega
  have b3 : (numZ m.count).length ≤ 10000 := by have := numZ_b m.count; omega
  have b4 : (binP m.parts).length ≤ 10000 := by have := binP_b m.parts l1; omega
  have b5 : (numZ m.proven).length ≤ 10000 := by have := numZ_b m.proven; omega
  have HF0 := Lib.hid (fun (wz : World) (hz : Below w.heap.size w wz) => wnum_any m.first wz hI.f)
  have HF1 := Lib.hid (fun (wz : World) (hz : Below w.heap.size w wz) => wbin_any m.headers wz (by omega))
  have HF2 := Lib.hid (fun (wz : World) (hz : Below w.heap.size w wz) => wnum_any m.last wz hI.l)
  have HF3 := Lib.hid (fun (wz : World) (hz : Below w.heap.size w wz) => wnum_any m.count wz hI.c)
  have HF4 := Lib.hid (fun (wz : World) (hz : Below w.heap.size w wz) => wbin_any m.parts wz (by omega))
  have HF5 := Lib.hid (fun (wz : World) (hz : Below w.heap.size w wz) => wnum_any m.proven wz hI.p)
  have HP0 := Lib.hid (fun (b : Nat) (wz : World) (h : Ly w w.heap.size #[.string ⟨m.headers.toArray⟩, .string ⟨m.parts.toArray⟩, .int .u64 (m.count : Int), .int .u64 (m.proven : Int), .int .u64 (m.first : Int), .int .u64 (m.last : Int)] 70 b [] wz) => h.puts 102 (numZ m.first) (by simp) (by simp) (by omega))
  have HP1 := Lib.hid (fun (b : Nat) (wz : World) (h : Ly w w.heap.size #[.string ⟨m.headers.toArray⟩, .string ⟨m.parts.toArray⟩, .int .u64 (m.count : Int), .int .u64 (m.proven : Int), .int .u64 (m.first : Int), .int .u64 (m.last : Int)] 70 b [(102, numZ m.first)] wz) => h.puts 104 (binP m.headers) (by simp) (by simp only [List.map_cons, List.map_nil, List.sum_cons, List.sum_nil]; omega) (by omega))
  have HP2 := Lib.hid (fun (b : Nat) (wz : World) (h : Ly w w.heap.size #[.string ⟨m.headers.toArray⟩, .string ⟨m.parts.toArray⟩, .int .u64 (m.count : Int), .int .u64 (m.proven : Int), .int .u64 (m.first : Int), .int .u64 (m.last : Int)] 70 b [(102, numZ m.first), (104, binP m.headers)] wz) => h.puts 108 (numZ m.last) (by simp) (by simp only [List.map_cons, List.map_nil, List.sum_cons, List.sum_nil]; omega) (by omega))
  have HP3 := Lib.hid (fun (b : Nat) (wz : World) (h : Ly w w.heap.size #[.string ⟨m.headers.toArray⟩, .string ⟨m.parts.toArray⟩, .int .u64 (m.count : Int), .int .u64 (m.proven : Int), .int .u64 (m.first : Int), .int .u64 (m.last : Int)] 70 b [(102, numZ m.first), (104, binP m.headers), (108, numZ m.last)] wz) => h.puts 110 (numZ m.count) (by simp) (by simp only [List.map_cons, List.map_nil, List.sum_cons, List.sum_nil]; omega) (by omega))
  have HP4 := Lib.hid (fun (b : Nat) (wz : World) (h : Ly w w.heap.size #[.string ⟨m.headers.toArray⟩, .string ⟨m.parts.toArray⟩, .int .u64 (m.count : Int), .int .u64 (m.proven : Int), .int .u64 (m.first : Int), .int .u64 (m.last : Int)] 70 b [(102, numZ m.first), (104, binP m.headers), (108, numZ m.last), (110, numZ m.count)] wz) => h.puts 118 (binP m.parts) (by simp) (by simp only [List.map_cons, List.map_nil, List.sum_cons, List.sum_nil]; omega) (by omega))
  have HP5 := Lib.hid (fun (b : Nat) (wz : World) (h : Ly w w.heap.size #[.string ⟨m.headers.toArray⟩, .string ⟨m.parts.toArray⟩, .int .u64 (m.count : Int), .int .u64 (m.proven : Int), .int .u64 (m.first : Int), .int .u64 (m.last : Int)] 70 b [(102, numZ m.first), (104, binP m.headers), (108, numZ m.last), (110, numZ m.count), (118, binP m.parts)] wz) => h.puts 119 (numZ m.proven) (by simp) (by simp only [List.map_cons, List.map_nil, List.sum_cons, List.sum_nil]; omega) (by omega))
  have HW := Lib.hid (fun (b : Nat) (wz : World) (h : Ly w w.heap.size #[.string ⟨m.headers.toArray⟩, .string ⟨m.parts.toArray⟩, .int .u64 (m.count : Int), .int .u64 (m.proven : Int), .int .u64 (m.first : Int), .int .u64 (m.last : Int)] 70 b [(102, numZ m.first), (104, binP m.headers), (108, numZ m.last), (110, numZ m.count), (118, binP m.parts), (119, numZ m.proven)] wz) => whole_any b [(102, numZ m.first), (104, binP m.headers), (108, numZ m.last), (110, numZ m.count), (118, binP m.parts), (119, numZ m.proven)] wz h.l (by simp) (Nat.le_trans (prsB_len _) (by simp only [List.map_cons, List.map_nil, List.sum_cons, List.sum_nil]; omega)))
  simp only [List.cons_append, List.nil_append] at HP0 HP1 HP2 HP3 HP4 HP5
  clear b0 b1 b2 b3 b4 b5 l0 l1
  generalize mapP [(102, numZ m.first), (104, binP m.headers), (108, numZ m.last), (110, numZ m.count), (118, binP m.parts), (119, numZ m.proven)] = MM at *
  generalize numZ m.first = V0 at *
  generalize binP m.headers = V1 at *
  generalize numZ m.last = V2 at *
  generalize numZ m.count = V3 at *
  generalize binP m.parts = V4 at *
  generalize numZ m.proven = V5 at *
  simp only [d0, d1] at HD0 HD1
  clear HE d0 d1
  have HX := Lib.hid hx
  have HBB := Lib.hid hB
  clear hx hB
  go_enter Tryz.func31, Tryz.ntmps31
  go_upto_region 1 with fail
  change Code.wp _ _ _ _ (w.alloc (.cells #[.string ⟨m.headers.toArray⟩, .string ⟨m.parts.toArray⟩, .int .u64 (m.count : Int), .int .u64 (m.proven : Int), .int .u64 (m.first : Int), .int .u64 (m.last : Int)] 70))
  generalize w.alloc (.cells #[.string ⟨m.headers.toArray⟩, .string ⟨m.parts.toArray⟩, .int .u64 (m.count : Int), .int .u64 (m.proven : Int), .int .u64 (m.first : Int), .int .u64 (m.last : Int)] 70) = w1 at *
  go_upto_region 4 with (go_at_call 43; (first | refine (HD0.out _).mono ?_ | refine (HD1.out _).mono ?_); rintro e w2 ⟨rfl, rfl⟩)
  change Code.wp _ _ _ _ (w2.alloc (.cells #[.int .u64 0, .string ⟨#[]⟩] 123))
  have K := Lib.hid (Ly.start2 (w := w) HBB.out HX.out)
  generalize w2.alloc (.cells #[.int .u64 0, .string ⟨#[]⟩] 123) = w3 at *
  generalize w2.heap.size = b at *
  clear HX HBB HD0 HD1 z0 z1
  have z4 := (lit_cell K.out.x 4).trans rfl
  go_wp2_with fail
  refine (HF0.out _ K.out.o).mono ?_
  rintro e wa0 ⟨rfl, hb⟩
  have K := Lib.hid (K.out.next hb)
  clear hb HF0 z4
  go_wp2_with fail
  refine (HP0.out _ _ K.out).mono ?_
  rintro e wc0 ⟨rfl, hk⟩
  have K := Lib.hid hk
  clear hk HP0
  have z0 := (lit_cell K.out.x 0).trans rfl
  go_wp2_with fail
  refine (HF1.out _ K.out.o).mono ?_
  rintro e wa1 ⟨rfl, hb⟩
  have K := Lib.hid (K.out.next hb)
  clear hb HF1 z0
  go_wp2_with fail
  refine (HP1.out _ _ K.out).mono ?_
  rintro e wc1 ⟨rfl, hk⟩
  have K := Lib.hid hk
  clear hk HP1
  have z5 := (lit_cell K.out.x 5).trans rfl
  go_wp2_with fail
  refine (HF2.out _ K.out.o).mono ?_
  rintro e wa2 ⟨rfl, hb⟩
  have K := Lib.hid (K.out.next hb)
  clear hb HF2 z5
  go_wp2_with fail
  refine (HP2.out _ _ K.out).mono ?_
  rintro e wc2 ⟨rfl, hk⟩
  have K := Lib.hid hk
  clear hk HP2
  have z2 := (lit_cell K.out.x 2).trans rfl
  go_wp2_with fail
  refine (HF3.out _ K.out.o).mono ?_
  rintro e wa3 ⟨rfl, hb⟩
  have K := Lib.hid (K.out.next hb)
  clear hb HF3 z2
  go_wp2_with fail
  refine (HP3.out _ _ K.out).mono ?_
  rintro e wc3 ⟨rfl, hk⟩
  have K := Lib.hid hk
  clear hk HP3
  have z1 := (lit_cell K.out.x 1).trans rfl
  go_wp2_with fail
  refine (HF4.out _ K.out.o).mono ?_
  rintro e wa4 ⟨rfl, hb⟩
  have K := Lib.hid (K.out.next hb)
  clear hb HF4 z1
  go_wp2_with fail
  refine (HP4.out _ _ K.out).mono ?_
  rintro e wc4 ⟨rfl, hk⟩
  have K := Lib.hid hk
  clear hk HP4
  have z3 := (lit_cell K.out.x 3).trans rfl
  go_wp2_with fail
  refine (HF5.out _ K.out.o).mono ?_
  rintro e wa5 ⟨rfl, hb⟩
  have K := Lib.hid (K.out.next hb)
  clear hb HF5 z3
  go_wp2_with fail
  refine (HP5.out _ _ K.out).mono ?_
  rintro e wc5 ⟨rfl, hk⟩
  have K := Lib.hid hk
  clear hk HP5
  go_wp2_with fail
  refine (HW.out _ _ K.out).mono ?_
  rintro e wd ⟨rfl, hb⟩
  go_wp2
  refine bodyPost_ret (v := .tuple #[.string ⟨MM.toArray⟩, .int .i64 0]) (by simp [results, Tryz.results31, go_sem]) rfl ⟨rfl, (K.out.next hb).o⟩
set_option maxRecDepth 100000 in
set_option maxHeartbeats 1000000 in
theorem rHdr_any (q : HdrR) (w : World) (hI : q.round < 18446744073709551616) :
    Calls Tryz.prog 33 #[hdrV q] w fun e w' => e = .returned (.tuple #[.string ⟨(layHdrP q).1.toArray⟩, .int .i64 (layHdrP q).2]) ∧ Below w.heap.size w w' := by
  have hB := by0 w (.cells #[.int .u64 (q.round : Int), .string ⟨q.prev.toArray⟩, .string ⟨q.txns.toArray⟩, .string ⟨q.seed.toArray⟩] 72)
  have hx := heap_alloc_new w (.cells #[.int .u64 (q.round : Int), .string ⟨q.prev.toArray⟩, .string ⟨q.txns.toArray⟩, .string ⟨q.seed.toArray⟩] 72)
  have HD0 := Lib.hid (fun wz => wdigest_any q.prev wz)
  have HD1 := Lib.hid (fun wz => wdigest_any q.seed wz)
  have HD2 := Lib.hid (fun wz => wdigest_any q.txns wz)
  have z1 := (lit_cell hx 1).trans rfl
  have z3 := (lit_cell hx 3).trans rfl
  have z2 := (lit_cell hx 2).trans rfl
  rcases Bool.eq_false_or_eq_true (digB q.prev) with d0 | d0
  rotate_left
  · have HE : layHdrP q = ([], 2) := by unfold layHdrP layOr; rw [if_neg (by simp [d0])]
    rw [HE]
    simp only [d0] at HD0
    clear HE hx d0
    go_enter Tryz.func33, Tryz.ntmps33
    go_upto_region 1 with fail
    change Code.wp _ _ _ _ (w.alloc (.cells #[.int .u64 (q.round : Int), .string ⟨q.prev.toArray⟩, .string ⟨q.txns.toArray⟩, .string ⟨q.seed.toArray⟩] 72))
    generalize w.alloc (.cells #[.int .u64 (q.round : Int), .string ⟨q.prev.toArray⟩, .string ⟨q.txns.toArray⟩, .string ⟨q.seed.toArray⟩] 72) = w1 at *
    go_wp2_with (go_at_call 43; (first | refine (HD0.out _).mono ?_ | refine (HD1.out _).mono ?_ | refine (HD2.out _).mono ?_); rintro e w2 ⟨rfl, rfl⟩)
    refine bodyPost_ret (v := .tuple #[.string ⟨#[]⟩, .int .i64 2]) (by simp [results, Tryz.results33, go_sem]) rfl ⟨rfl, hB⟩
  rcases Bool.eq_false_or_eq_true (digB q.seed) with d1 | d1
  rotate_left
  · have HE : layHdrP q = ([], 2) := by unfold layHdrP layOr; rw [if_neg (by simp [d0, d1])]
    rw [HE]
    simp only [d0, d1] at HD0 HD1
    clear HE hx d0 d1
    go_enter Tryz.func33, Tryz.ntmps33
    go_upto_region 1 with fail
    change Code.wp _ _ _ _ (w.alloc (.cells #[.int .u64 (q.round : Int), .string ⟨q.prev.toArray⟩, .string ⟨q.txns.toArray⟩, .string ⟨q.seed.toArray⟩] 72))
    generalize w.alloc (.cells #[.int .u64 (q.round : Int), .string ⟨q.prev.toArray⟩, .string ⟨q.txns.toArray⟩, .string ⟨q.seed.toArray⟩] 72) = w1 at *
    go_wp2_with (go_at_call 43; (first | refine (HD0.out _).mono ?_ | refine (HD1.out _).mono ?_ | refine (HD2.out _).mono ?_); rintro e w2 ⟨rfl, rfl⟩)
    refine bodyPost_ret (v := .tuple #[.string ⟨#[]⟩, .int .i64 2]) (by simp [results, Tryz.results33, go_sem]) rfl ⟨rfl, hB⟩
  rcases Bool.eq_false_or_eq_true (digB q.txns) with d2 | d2
  rotate_left
  · have HE : layHdrP q = ([], 2) := by unfold layHdrP layOr; rw [if_neg (by simp [d0, d1, d2])]
    rw [HE]
    simp only [d0, d1, d2] at HD0 HD1 HD2
    clear HE hx d0 d1 d2
    go_enter Tryz.func33, Tryz.ntmps33
    go_upto_region 1 with fail
    change Code.wp _ _ _ _ (w.alloc (.cells #[.int .u64 (q.round : Int), .string ⟨q.prev.toArray⟩, .string ⟨q.txns.toArray⟩, .string ⟨q.seed.toArray⟩] 72))
    generalize w.alloc (.cells #[.int .u64 (q.round : Int), .string ⟨q.prev.toArray⟩, .string ⟨q.txns.toArray⟩, .string ⟨q.seed.toArray⟩] 72) = w1 at *
    go_wp2_with (go_at_call 43; (first | refine (HD0.out _).mono ?_ | refine (HD1.out _).mono ?_ | refine (HD2.out _).mono ?_); rintro e w2 ⟨rfl, rfl⟩)
    refine bodyPost_ret (v := .tuple #[.string ⟨#[]⟩, .int .i64 2]) (by simp [results, Tryz.results33, go_sem]) rfl ⟨rfl, hB⟩
  have HE : layHdrP q = (mapP [(112, binP q.prev), (114, numZ q.round), (115, binP q.seed), (116, binP q.txns)], 0) := by unfold layHdrP layOr; rw [if_pos (by simp [d0, d1, d2])]; rfl
  rw [HE]
  have l0 := dig_len d0
  have l1 := dig_len d1
  have l2 := dig_len d2
  have b0 : (binP q.prev).length ≤ 10000 := by have := binP_b q.prev l0; omega
  have b1 : (numZ q.round).length ≤ 10000 := by have := numZ_b q.round; omega
  have b2 : (binP q.seed).length ≤ 10000 := by have := binP_b q.seed l1; omega
  have b3 : (binP q.txns).length ≤ 10000 := by have := binP_b q.txns l2; omega
  have HF0 := Lib.hid (fun (wz : World) (hz : Below w.heap.size w wz) => wbin_any q.prev wz (by omega))
  have HF1 := Lib.hid (fun (wz : World) (hz : Below w.heap.size w wz) => wnum_any q.round wz hI)
  have HF2 := Lib.hid (fun (wz : World) (hz : Below w.heap.size w wz) => wbin_any q.seed wz (by omega))
  have HF3 := Lib.hid (fun (wz : World) (hz : Below w.heap.size w wz) => wbin_any q.txns wz (by omega))
  have HP0 := Lib.hid (fun (b : Nat) (wz : World) (h : Ly w w.heap.size #[.int .u64 (q.round : Int), .string ⟨q.prev.toArray⟩, .string ⟨q.txns.toArray⟩, .string ⟨q.seed.toArray⟩] 72 b [] wz) => h.puts 112 (binP q.prev) (by simp) (by simp) (by omega))
  have HP1 := Lib.hid (fun (b : Nat) (wz : World) (h : Ly w w.heap.size #[.int .u64 (q.round : Int), .string ⟨q.prev.toArray⟩, .string ⟨q.txns.toArray⟩, .string ⟨q.seed.toArray⟩] 72 b [(112, binP q.prev)] wz) => h.puts 114 (numZ q.round) (by simp) (by simp only [List.map_cons, List.map_nil, List.sum_cons, List.sum_nil]; omega) (by omega))
  have HP2 := Lib.hid (fun (b : Nat) (wz : World) (h : Ly w w.heap.size #[.int .u64 (q.round : Int), .string ⟨q.prev.toArray⟩, .string ⟨q.txns.toArray⟩, .string ⟨q.seed.toArray⟩] 72 b [(112, binP q.prev), (114, numZ q.round)] wz) => h.puts 115 (binP q.seed) (by simp) (by simp only [List.map_cons, List.map_nil, List.sum_cons, List.sum_nil]; omega) (by omega))
  have HP3 := Lib.hid (fun (b : Nat) (wz : World) (h : Ly w w.heap.size #[.int .u64 (q.round : Int), .string ⟨q.prev.toArray⟩, .string ⟨q.txns.toArray⟩, .string ⟨q.seed.toArray⟩] 72 b [(112, binP q.prev), (114, numZ q.round), (115, binP q.seed)] wz) => h.puts 116 (binP q.txns) (by simp) (by simp only [List.map_cons, List.map_nil, List.sum_cons, List.sum_nil]; omega) (by omega))
  have HW := Lib.hid (fun (b : Nat) (wz : World) (h : Ly w w.heap.size #[.int .u64 (q.round : Int), .string ⟨q.prev.toArray⟩, .string ⟨q.txns.toArray⟩, .string ⟨q.seed.toArray⟩] 72 b [(112, binP q.prev), (114, numZ q.round), (115, binP q.seed), (116, binP q.txns)] wz) => whole_any b [(112, binP q.prev), (114, numZ q.round), (115, binP q.seed), (116, binP q.txns)] wz h.l (by simp) (Nat.le_trans (prsB_len _) (by simp only [List.map_cons, List.map_nil, List.sum_cons, List.sum_nil]; omega)))
  simp only [List.cons_append, List.nil_append] at HP0 HP1 HP2 HP3
  clear b0 b1 b2 b3 l0 l1 l2
  generalize mapP [(112, binP q.prev), (114, numZ q.round), (115, binP q.seed), (116, binP q.txns)] = MM at *
  generalize binP q.prev = V0 at *
  generalize numZ q.round = V1 at *
  generalize binP q.seed = V2 at *
  generalize binP q.txns = V3 at *
  simp only [d0, d1, d2] at HD0 HD1 HD2
  clear HE d0 d1 d2
  have HX := Lib.hid hx
  have HBB := Lib.hid hB
  clear hx hB
  go_enter Tryz.func33, Tryz.ntmps33
  go_upto_region 1 with fail
  change Code.wp _ _ _ _ (w.alloc (.cells #[.int .u64 (q.round : Int), .string ⟨q.prev.toArray⟩, .string ⟨q.txns.toArray⟩, .string ⟨q.seed.toArray⟩] 72))
  generalize w.alloc (.cells #[.int .u64 (q.round : Int), .string ⟨q.prev.toArray⟩, .string ⟨q.txns.toArray⟩, .string ⟨q.seed.toArray⟩] 72) = w1 at *
  go_upto_region 4 with (go_at_call 43; (first | refine (HD0.out _).mono ?_ | refine (HD1.out _).mono ?_ | refine (HD2.out _).mono ?_); rintro e w2 ⟨rfl, rfl⟩)
  change Code.wp _ _ _ _ (w2.alloc (.cells #[.int .u64 0, .string ⟨#[]⟩] 123))
  have K := Lib.hid (Ly.start2 (w := w) HBB.out HX.out)
  generalize w2.alloc (.cells #[.int .u64 0, .string ⟨#[]⟩] 123) = w3 at *
  generalize w2.heap.size = b at *
  clear HX HBB HD0 HD1 HD2 z1 z3 z2
  have z1 := (lit_cell K.out.x 1).trans rfl
  go_wp2_with fail
  refine (HF0.out _ K.out.o).mono ?_
  rintro e wa0 ⟨rfl, hb⟩
  have K := Lib.hid (K.out.next hb)
  clear hb HF0 z1
  go_wp2_with fail
  refine (HP0.out _ _ K.out).mono ?_
  rintro e wc0 ⟨rfl, hk⟩
  have K := Lib.hid hk
  clear hk HP0
  have z0 := (lit_cell K.out.x 0).trans rfl
  go_wp2_with fail
  refine (HF1.out _ K.out.o).mono ?_
  rintro e wa1 ⟨rfl, hb⟩
  have K := Lib.hid (K.out.next hb)
  clear hb HF1 z0
  go_wp2_with fail
  refine (HP1.out _ _ K.out).mono ?_
  rintro e wc1 ⟨rfl, hk⟩
  have K := Lib.hid hk
  clear hk HP1
  have z3 := (lit_cell K.out.x 3).trans rfl
  go_wp2_with fail
  refine (HF2.out _ K.out.o).mono ?_
  rintro e wa2 ⟨rfl, hb⟩
  have K := Lib.hid (K.out.next hb)
  clear hb HF2 z3
  go_wp2_with fail
  refine (HP2.out _ _ K.out).mono ?_
  rintro e wc2 ⟨rfl, hk⟩
  have K := Lib.hid hk
  clear hk HP2
  have z2 := (lit_cell K.out.x 2).trans rfl
  go_wp2_with fail
  refine (HF3.out _ K.out.o).mono ?_
  rintro e wa3 ⟨rfl, hb⟩
  have K := Lib.hid (K.out.next hb)
  clear hb HF3 z2
  go_wp2_with fail
  refine (HP3.out _ _ K.out).mono ?_
  rintro e wc3 ⟨rfl, hk⟩
  have K := Lib.hid hk
  clear hk HP3
  go_wp2_with fail
  refine (HW.out _ _ K.out).mono ?_
  rintro e wd ⟨rfl, hb⟩
  go_wp2
  refine bodyPost_ret (v := .tuple #[.string ⟨MM.toArray⟩, .int .i64 0]) (by simp [results, Tryz.results33, go_sem]) rfl ⟨rfl, (K.out.next hb).o⟩
set_option maxRecDepth 100000 in
set_option maxHeartbeats 1000000 in
theorem laySlot_true (x : SlotR) (wa pa : Option Addr) (wc pc : Nat) (w : World) (hM : SlotM ⟨x, wa, wc, pa, pc⟩ w) (hl : x.l < 18446744073709551616) (hI : RSig x.sig) :
    Calls Tryz.prog 54 #[.agg #[.int .u64 (x.l : Int), .bool true, .int .u64 (x.sig.index : Int), .slice wa x.sig.wots.length wc, .slice pa x.sig.path.length pc]] w fun e w' => e = .returned (.string ⟨(mapP ([(103, smallP (mapP (sigF x.sig))), (108, numZ x.l), (115, numZ 1)])).toArray⟩) ∧ Below w.heap.size w w' := by
  show Calls Tryz.prog 54 _ w fun e w' => e = .returned (.string ⟨(mapP [(103, smallP (mapP (sigF x.sig))), (108, numZ x.l), (115, numZ 1)]).toArray⟩) ∧ Below w.heap.size w w'
  have K := Lib.hid (Ly.start w #[.int .u64 (x.l : Int), .bool true, .int .u64 (x.sig.index : Int), .slice wa x.sig.wots.length wc, .slice pa x.sig.path.length pc] 48)
  have b0 : (smallP (mapP (sigF x.sig))).length ≤ 200100000 := by have := small_b _ _ (sigM_b x.sig hI); omega
  have b1 : (numZ x.l).length ≤ 10000 := by have := numZ_b x.l; omega
  have b2 : (numZ 1).length ≤ 10000 := by have := numZ_b 1; omega
  have HF0 := Lib.hid (fun (wz : World) (hz : Below w.heap.size w wz) => laySig_any x.sig wa pa wc pc wz ⟨hM.ws.below (Nat.le_refl _) hz, hM.ps.below (Nat.le_refl _) hz⟩ hI)
  have HG0 := Lib.hid (fun (wz : World) => wsmall_any (mapP (sigF x.sig)) wz)
  have HF1 := Lib.hid (fun (wz : World) (hz : Below w.heap.size w wz) => wnum_any x.l wz hl)
  have HF2 := Lib.hid (fun (wz : World) (hz : Below w.heap.size w wz) => wnum_any 1 wz (by decide))
  have HP0 := Lib.hid (fun (b : Nat) (wz : World) (h : Ly w w.heap.size #[.int .u64 (x.l : Int), .bool true, .int .u64 (x.sig.index : Int), .slice wa x.sig.wots.length wc, .slice pa x.sig.path.length pc] 48 b [] wz) => h.puts 103 (smallP (mapP (sigF x.sig))) (by simp) (by simp) (by omega))
  have HP1 := Lib.hid (fun (b : Nat) (wz : World) (h : Ly w w.heap.size #[.int .u64 (x.l : Int), .bool true, .int .u64 (x.sig.index : Int), .slice wa x.sig.wots.length wc, .slice pa x.sig.path.length pc] 48 b [(103, smallP (mapP (sigF x.sig)))] wz) => h.puts 108 (numZ x.l) (by simp) (by simp only [List.map_cons, List.map_nil, List.sum_cons, List.sum_nil]; omega) (by omega))
  have HP2 := Lib.hid (fun (b : Nat) (wz : World) (h : Ly w w.heap.size #[.int .u64 (x.l : Int), .bool true, .int .u64 (x.sig.index : Int), .slice wa x.sig.wots.length wc, .slice pa x.sig.path.length pc] 48 b [(103, smallP (mapP (sigF x.sig))), (108, numZ x.l)] wz) => h.puts 115 (numZ 1) (by simp) (by simp only [List.map_cons, List.map_nil, List.sum_cons, List.sum_nil]; omega) (by omega))
  have HW := Lib.hid (fun (b : Nat) (wz : World) (h : Ly w w.heap.size #[.int .u64 (x.l : Int), .bool true, .int .u64 (x.sig.index : Int), .slice wa x.sig.wots.length wc, .slice pa x.sig.path.length pc] 48 b [(103, smallP (mapP (sigF x.sig))), (108, numZ x.l), (115, numZ 1)] wz) => whole_any b [(103, smallP (mapP (sigF x.sig))), (108, numZ x.l), (115, numZ 1)] wz h.l (by simp) (Nat.le_trans (prsB_len _) (by simp only [List.map_cons, List.map_nil, List.sum_cons, List.sum_nil]; omega)))
  simp only [List.cons_append, List.nil_append] at HP0 HP1 HP2
  clear b0 b1 b2
  generalize mapP [(103, smallP (mapP (sigF x.sig))), (108, numZ x.l), (115, numZ 1)] = MM at *
  generalize smallP (mapP (sigF x.sig)) = V0 at *
  generalize mapP (sigF x.sig) = U0 at *
  generalize numZ x.l = V1 at *
  generalize numZ 1 = V2 at *
  go_enter Tryz.func54, Tryz.ntmps54
  go_upto_region 2 with fail
  change Code.wp _ _ _ _ ((w.alloc (.cells #[.int .u64 (x.l : Int), .bool true, .int .u64 (x.sig.index : Int), .slice wa x.sig.wots.length wc, .slice pa x.sig.path.length pc] 48)).alloc (.cells #[.int .u64 0, .string ⟨#[]⟩] 123))
  generalize (w.alloc (.cells #[.int .u64 (x.l : Int), .bool true, .int .u64 (x.sig.index : Int), .slice wa x.sig.wots.length wc, .slice pa x.sig.path.length pc] 48)).alloc (.cells #[.int .u64 0, .string ⟨#[]⟩] 123) = w1 at *
  have z2 := (lit_cell K.out.x 2).trans rfl
  have z3 := (lit_cell K.out.x 3).trans rfl
  have z4 := (lit_cell K.out.x 4).trans rfl
  go_wp2_with fail
  refine (HF0.out _ K.out.o).mono ?_
  rintro e wa0 ⟨rfl, hb⟩
  have K := Lib.hid (K.out.next hb)
  clear hb HF0 z2 z3 z4
  go_wp2_with fail
  refine (HG0.out _).mono ?_
  rintro e wb0 ⟨rfl, rfl⟩
  clear HG0
  go_wp2_with fail
  refine (HP0.out _ _ K.out).mono ?_
  rintro e wc0 ⟨rfl, hk⟩
  have K := Lib.hid hk
  clear hk HP0
  have z0 := (lit_cell K.out.x 0).trans rfl
  go_wp2_with fail
  refine (HF1.out _ K.out.o).mono ?_
  rintro e wa1 ⟨rfl, hb⟩
  have K := Lib.hid (K.out.next hb)
  clear hb HF1 z0
  go_wp2_with fail
  refine (HP1.out _ _ K.out).mono ?_
  rintro e wc1 ⟨rfl, hk⟩
  have K := Lib.hid hk
  clear hk HP1
  have z1 := (lit_cell K.out.x 1).trans rfl
  go_wp2_with fail
  refine (HF2.out _ K.out.o).mono ?_
  rintro e wa2 ⟨rfl, hb⟩
  have K := Lib.hid (K.out.next hb)
  clear hb HF2 
  go_wp2_with fail
  refine (HP2.out _ _ K.out).mono ?_
  rintro e wc2 ⟨rfl, hk⟩
  have K := Lib.hid hk
  clear hk HP2
  go_wp2_with fail
  refine (HW.out _ _ K.out).mono ?_
  rintro e wd ⟨rfl, hb⟩
  go_wp2
  go_ret
  exact ⟨rfl, (K.out.next hb).o⟩
set_option maxRecDepth 100000 in
set_option maxHeartbeats 1000000 in
theorem laySlot_false (x : SlotR) (wa pa : Option Addr) (wc pc : Nat) (w : World) (hM : SlotM ⟨x, wa, wc, pa, pc⟩ w) (hl : x.l < 18446744073709551616) (hI : RSig x.sig) :
    Calls Tryz.prog 54 #[.agg #[.int .u64 (x.l : Int), .bool false, .int .u64 (x.sig.index : Int), .slice wa x.sig.wots.length wc, .slice pa x.sig.path.length pc]] w fun e w' => e = .returned (.string ⟨(mapP ([(103, smallP (mapP (sigF x.sig))), (108, numZ x.l)])).toArray⟩) ∧ Below w.heap.size w w' := by
  show Calls Tryz.prog 54 _ w fun e w' => e = .returned (.string ⟨(mapP [(103, smallP (mapP (sigF x.sig))), (108, numZ x.l)]).toArray⟩) ∧ Below w.heap.size w w'
  have K := Lib.hid (Ly.start w #[.int .u64 (x.l : Int), .bool false, .int .u64 (x.sig.index : Int), .slice wa x.sig.wots.length wc, .slice pa x.sig.path.length pc] 48)
  have b0 : (smallP (mapP (sigF x.sig))).length ≤ 200100000 := by have := small_b _ _ (sigM_b x.sig hI); omega
  have b1 : (numZ x.l).length ≤ 10000 := by have := numZ_b x.l; omega
  have HF0 := Lib.hid (fun (wz : World) (hz : Below w.heap.size w wz) => laySig_any x.sig wa pa wc pc wz ⟨hM.ws.below (Nat.le_refl _) hz, hM.ps.below (Nat.le_refl _) hz⟩ hI)
  have HG0 := Lib.hid (fun (wz : World) => wsmall_any (mapP (sigF x.sig)) wz)
  have HF1 := Lib.hid (fun (wz : World) (hz : Below w.heap.size w wz) => wnum_any x.l wz hl)
  have HP0 := Lib.hid (fun (b : Nat) (wz : World) (h : Ly w w.heap.size #[.int .u64 (x.l : Int), .bool false, .int .u64 (x.sig.index : Int), .slice wa x.sig.wots.length wc, .slice pa x.sig.path.length pc] 48 b [] wz) => h.puts 103 (smallP (mapP (sigF x.sig))) (by simp) (by simp) (by omega))
  have HP1 := Lib.hid (fun (b : Nat) (wz : World) (h : Ly w w.heap.size #[.int .u64 (x.l : Int), .bool false, .int .u64 (x.sig.index : Int), .slice wa x.sig.wots.length wc, .slice pa x.sig.path.length pc] 48 b [(103, smallP (mapP (sigF x.sig)))] wz) => h.puts 108 (numZ x.l) (by simp) (by simp only [List.map_cons, List.map_nil, List.sum_cons, List.sum_nil]; omega) (by omega))
  have HW := Lib.hid (fun (b : Nat) (wz : World) (h : Ly w w.heap.size #[.int .u64 (x.l : Int), .bool false, .int .u64 (x.sig.index : Int), .slice wa x.sig.wots.length wc, .slice pa x.sig.path.length pc] 48 b [(103, smallP (mapP (sigF x.sig))), (108, numZ x.l)] wz) => whole_any b [(103, smallP (mapP (sigF x.sig))), (108, numZ x.l)] wz h.l (by simp) (Nat.le_trans (prsB_len _) (by simp only [List.map_cons, List.map_nil, List.sum_cons, List.sum_nil]; omega)))
  simp only [List.cons_append, List.nil_append] at HP0 HP1
  clear b0 b1
  generalize mapP [(103, smallP (mapP (sigF x.sig))), (108, numZ x.l)] = MM at *
  generalize smallP (mapP (sigF x.sig)) = V0 at *
  generalize mapP (sigF x.sig) = U0 at *
  generalize numZ x.l = V1 at *
  go_enter Tryz.func54, Tryz.ntmps54
  go_upto_region 2 with fail
  change Code.wp _ _ _ _ ((w.alloc (.cells #[.int .u64 (x.l : Int), .bool false, .int .u64 (x.sig.index : Int), .slice wa x.sig.wots.length wc, .slice pa x.sig.path.length pc] 48)).alloc (.cells #[.int .u64 0, .string ⟨#[]⟩] 123))
  generalize (w.alloc (.cells #[.int .u64 (x.l : Int), .bool false, .int .u64 (x.sig.index : Int), .slice wa x.sig.wots.length wc, .slice pa x.sig.path.length pc] 48)).alloc (.cells #[.int .u64 0, .string ⟨#[]⟩] 123) = w1 at *
  have z2 := (lit_cell K.out.x 2).trans rfl
  have z3 := (lit_cell K.out.x 3).trans rfl
  have z4 := (lit_cell K.out.x 4).trans rfl
  go_wp2_with fail
  refine (HF0.out _ K.out.o).mono ?_
  rintro e wa0 ⟨rfl, hb⟩
  have K := Lib.hid (K.out.next hb)
  clear hb HF0 z2 z3 z4
  go_wp2_with fail
  refine (HG0.out _).mono ?_
  rintro e wb0 ⟨rfl, rfl⟩
  clear HG0
  go_wp2_with fail
  refine (HP0.out _ _ K.out).mono ?_
  rintro e wc0 ⟨rfl, hk⟩
  have K := Lib.hid hk
  clear hk HP0
  have z0 := (lit_cell K.out.x 0).trans rfl
  go_wp2_with fail
  refine (HF1.out _ K.out.o).mono ?_
  rintro e wa1 ⟨rfl, hb⟩
  have K := Lib.hid (K.out.next hb)
  clear hb HF1 z0
  go_wp2_with fail
  refine (HP1.out _ _ K.out).mono ?_
  rintro e wc1 ⟨rfl, hk⟩
  have K := Lib.hid hk
  clear hk HP1
  have z1 := (lit_cell K.out.x 1).trans rfl
  go_wp2_with fail
  refine (HW.out _ _ K.out).mono ?_
  rintro e wd ⟨rfl, hb⟩
  go_wp2
  go_ret
  exact ⟨rfl, (K.out.next hb).o⟩
theorem laySlot_any (x : SlotR) (wa pa : Option Addr) (wc pc : Nat) (w : World) (hM : SlotM ⟨x, wa, wc, pa, pc⟩ w) (hl : x.l < 18446744073709551616) (hI : RSig x.sig) : Calls Tryz.prog 54 #[slotV ⟨x, wa, wc, pa, pc⟩] w fun e w' => e = .returned (.string ⟨(mapP (slotF x)).toArray⟩) ∧ Below w.heap.size w w' := by
  obtain ⟨l, sg, g⟩ := x
  cases sg with
  | true => exact laySlot_true ⟨l, true, g⟩ wa pa wc pc w hM hl hI
  | false =>
    have k := laySlot_false ⟨l, false, g⟩ wa pa wc pc w hM hl hI
    rw [← mapP_snoc_nil _ 115] at k
    exact k
set_option maxRecDepth 100000 in
theorem rPart_any (p : PartR) (w : World) (hI : PartIn p) :
    Calls Tryz.prog 12 #[partV p] w fun e w' => e = .returned (.tuple #[.string ⟨(layPartP p).1.toArray⟩, .int .i64 (layPartP p).2]) ∧ Below w.heap.size w w' := by
  have HBB := Lib.hid (by0 w (.cells #[.string ⟨p.root.toArray⟩, .int .u64 (p.weight : Int), .int .u64 (p.first : Int), .int .u64 (p.life : Int), .int .u64 (p.keys : Int)] 24))
  have HX := Lib.hid (heap_alloc_new w (.cells #[.string ⟨p.root.toArray⟩, .int .u64 (p.weight : Int), .int .u64 (p.first : Int), .int .u64 (p.life : Int), .int .u64 (p.keys : Int)] 24))
  have HD := Lib.hid (show ∀ wz, Below w.heap.size w wz → Calls Tryz.prog 43 #[.string ⟨p.root.toArray⟩] wz (fun e w' => e = .returned (.bool (digB p.root)) ∧ Below wz.heap.size wz w') from fun wz _ => (wdigest_any p.root wz).mono fun e w' h => ⟨h.1, h.2 ▸ Below.refl _ _⟩)
  cases hd : digB p.root with
  | false =>
    have HE : layPartP p = ([], 2) := by unfold layPartP layOr; rw [hd]; rfl
    rw [HE]
    rw [hd] at HD
    clear HE hd hI
    go_enter Tryz.func12, Tryz.ntmps12
    go_upto_region 1 with fail
    change Code.wp _ _ _ _ (w.alloc (.cells #[.string ⟨p.root.toArray⟩, .int .u64 (p.weight : Int), .int .u64 (p.first : Int), .int .u64 (p.life : Int), .int .u64 (p.keys : Int)] 24))
    generalize w.alloc (.cells #[.string ⟨p.root.toArray⟩, .int .u64 (p.weight : Int), .int .u64 (p.first : Int), .int .u64 (p.life : Int), .int .u64 (p.keys : Int)] 24) = w1 at *
    have z0 := (lit_cell HX.out 0).trans rfl
    go_wp2_with fail
    refine (HD.out _ HBB.out).mono ?_
    rintro e w2 ⟨rfl, hb⟩
    have HB2 := Lib.hid (HBB.out.trans (hb.mono HBB.out.size))
    have HX2 := Lib.hid ((hb.block _ (lit_lt HX.out)).trans HX.out)
    clear hb HX HBB HD z0
    go_wp2
    refine bodyPost_ret (v := .tuple #[.string ⟨#[]⟩, .int .i64 2]) (by simp [results, Tryz.results12, go_sem]) rfl ⟨rfl, HB2.out⟩
  | true =>
    have HE : layPartP p = (mapP (partF p), 0) := by unfold layPartP layOr; rw [hd]; rfl
    have HL := Lib.hid (fun wz (_ : Below w.heap.size w wz) => layPart_any p wz hI (dig_len hd))
    rw [HE]
    rw [hd] at HD
    clear HE hd hI
    generalize mapP (partF p) = MM at *
    go_enter Tryz.func12, Tryz.ntmps12
    go_upto_region 1 with fail
    change Code.wp _ _ _ _ (w.alloc (.cells #[.string ⟨p.root.toArray⟩, .int .u64 (p.weight : Int), .int .u64 (p.first : Int), .int .u64 (p.life : Int), .int .u64 (p.keys : Int)] 24))
    generalize w.alloc (.cells #[.string ⟨p.root.toArray⟩, .int .u64 (p.weight : Int), .int .u64 (p.first : Int), .int .u64 (p.life : Int), .int .u64 (p.keys : Int)] 24) = w1 at *
    have z0 := (lit_cell HX.out 0).trans rfl
    go_wp2_with fail
    refine (HD.out _ HBB.out).mono ?_
    rintro e w2 ⟨rfl, hb⟩
    have HB2 := Lib.hid (HBB.out.trans (hb.mono HBB.out.size))
    have HX2 := Lib.hid ((hb.block _ (lit_lt HX.out)).trans HX.out)
    clear hb HX HBB HD z0
    have z0 := (lit_cell HX2.out 0).trans rfl
    have z1 := (lit_cell HX2.out 1).trans rfl
    have z2 := (lit_cell HX2.out 2).trans rfl
    have z3 := (lit_cell HX2.out 3).trans rfl
    have z4 := (lit_cell HX2.out 4).trans rfl
    go_wp2_with fail
    refine (HL.out _ HB2.out).mono ?_
    rintro e w3 ⟨rfl, hb⟩
    go_wp2
    refine bodyPost_ret (v := .tuple #[.string ⟨MM.toArray⟩, .int .i64 0]) (by simp [results, Tryz.results12, go_sem]) rfl ⟨rfl, HB2.out.trans (hb.mono HB2.out.size)⟩
set_option maxRecDepth 100000 in
theorem rSlot_any (x : SlotR) (wa pa : Option Addr) (wc pc : Nat) (w : World) (hM : SlotM ⟨x, wa, wc, pa, pc⟩ w) (hl : x.l < 18446744073709551616) (hI : RSig x.sig) :
    Calls Tryz.prog 20 #[slotV ⟨x, wa, wc, pa, pc⟩] w fun e w' => e = .returned (.tuple #[.string ⟨(laySlotP x).1.toArray⟩, .int .i64 (laySlotP x).2]) ∧ Below w.heap.size w w' := by
  have HBB := Lib.hid (by0 w (.cells #[.int .u64 (x.l : Int), .bool x.signed, .int .u64 (x.sig.index : Int), .slice wa x.sig.wots.length wc, .slice pa x.sig.path.length pc] 48))
  have HX := Lib.hid (heap_alloc_new w (.cells #[.int .u64 (x.l : Int), .bool x.signed, .int .u64 (x.sig.index : Int), .slice wa x.sig.wots.length wc, .slice pa x.sig.path.length pc] 48))
  have HD := Lib.hid (fun wz (hz : Below w.heap.size w wz) => maySig_any x.sig wa pa wc pc wz ⟨hM.ws.below (Nat.le_refl _) hz, hM.ps.below (Nat.le_refl _) hz⟩ hI)
  cases hd : maySigB x.sig with
  | false =>
    have HE : laySlotP x = ([], 2) := by unfold laySlotP layOr; rw [hd]; rfl
    rw [HE]
    rw [hd] at HD
    clear HE hd hM hl hI
    go_enter Tryz.func20, Tryz.ntmps20
    go_upto_region 1 with fail
    change Code.wp _ _ _ _ (w.alloc (.cells #[.int .u64 (x.l : Int), .bool x.signed, .int .u64 (x.sig.index : Int), .slice wa x.sig.wots.length wc, .slice pa x.sig.path.length pc] 48))
    generalize w.alloc (.cells #[.int .u64 (x.l : Int), .bool x.signed, .int .u64 (x.sig.index : Int), .slice wa x.sig.wots.length wc, .slice pa x.sig.path.length pc] 48) = w1 at *
    have z2 := (lit_cell HX.out 2).trans rfl
    have z3 := (lit_cell HX.out 3).trans rfl
    have z4 := (lit_cell HX.out 4).trans rfl
    go_wp2_with fail
    refine (HD.out _ HBB.out).mono ?_
    rintro e w2 ⟨rfl, hb⟩
    have HB2 := Lib.hid (HBB.out.trans (hb.mono HBB.out.size))
    have HX2 := Lib.hid ((hb.block _ (lit_lt HX.out)).trans HX.out)
    clear hb HX HBB HD z2 z3 z4
    go_wp2
    refine bodyPost_ret (v := .tuple #[.string ⟨#[]⟩, .int .i64 2]) (by simp [results, Tryz.results20, go_sem]) rfl ⟨rfl, HB2.out⟩
  | true =>
    have HE : laySlotP x = (mapP (slotF x), 0) := by unfold laySlotP layOr; rw [hd]; rfl
    have HL := Lib.hid (fun wz (hz : Below w.heap.size w wz) => laySlot_any x wa pa wc pc wz ⟨hM.ws.below (Nat.le_refl _) hz, hM.ps.below (Nat.le_refl _) hz⟩ hl hI)
    rw [HE]
    rw [hd] at HD
    clear HE hd hM hl hI
    generalize mapP (slotF x) = MM at *
    go_enter Tryz.func20, Tryz.ntmps20
    go_upto_region 1 with fail
    change Code.wp _ _ _ _ (w.alloc (.cells #[.int .u64 (x.l : Int), .bool x.signed, .int .u64 (x.sig.index : Int), .slice wa x.sig.wots.length wc, .slice pa x.sig.path.length pc] 48))
    generalize w.alloc (.cells #[.int .u64 (x.l : Int), .bool x.signed, .int .u64 (x.sig.index : Int), .slice wa x.sig.wots.length wc, .slice pa x.sig.path.length pc] 48) = w1 at *
    have z2 := (lit_cell HX.out 2).trans rfl
    have z3 := (lit_cell HX.out 3).trans rfl
    have z4 := (lit_cell HX.out 4).trans rfl
    go_wp2_with fail
    refine (HD.out _ HBB.out).mono ?_
    rintro e w2 ⟨rfl, hb⟩
    have HB2 := Lib.hid (HBB.out.trans (hb.mono HBB.out.size))
    have HX2 := Lib.hid ((hb.block _ (lit_lt HX.out)).trans HX.out)
    clear hb HX HBB HD z2 z3 z4
    have z0 := (lit_cell HX2.out 0).trans rfl
    have z1 := (lit_cell HX2.out 1).trans rfl
    have z2 := (lit_cell HX2.out 2).trans rfl
    have z3 := (lit_cell HX2.out 3).trans rfl
    have z4 := (lit_cell HX2.out 4).trans rfl
    go_wp2_with fail
    refine (HL.out _ HB2.out).mono ?_
    rintro e w3 ⟨rfl, hb⟩
    go_wp2
    refine bodyPost_ret (v := .tuple #[.string ⟨MM.toArray⟩, .int .i64 0]) (by simp [results, Tryz.results20, go_sem]) rfl ⟨rfl, HB2.out.trans (hb.mono HB2.out.size)⟩
end Go.Proofs.YtgdhljbcclbfaaaGreatDoor
